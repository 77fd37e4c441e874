import Derived.IntWalk
import Derived.Test.YtkejaepmoabikaaGreatDoorP2c
import Derived.Test.YtkejaepmoabikaaGreatDoorP2a
import Derived.Test.YtkejaepmoabikaaGreatDoorP0f
namespace Go.Proofs.YtkejaepmoabikaaGreatDoor.W
open Go.RowKit
open Lib renaming hid → qH
open _root_.Go.Proofs.Tryz renaming prog → qP
set_option maxHeartbeats 2000000
set_option maxRecDepth 100000
theorem DE.next {w w' w2:World} {S:Nat→Prop} {j m':Nat} {L' F:List KV} {A2:Option Addr} {q2 r2:Nat} {en:Ending} (h:DE w S j L' m' F A2 q2 r2 en w') (k:Aa w' w2):DE w S j L' m' F A2 q2 r2 en w2:=by
 obtain⟨S',B,q,r,he,hj,hp,hf,hk,hg,oB,oF⟩:=h;exact⟨S',B,q,r,he,hj.below k.below,hp.below k.below,hf.below k.below,hk.step (At.of_below S k.below),hg,oB,oF⟩
structure JJ (w:World) (b j:Nat) (F:List KV) (A2:Option Addr) (q2 r2:Nat) (k:Nat) (A:Option Addr) (q r:Nat) (W:World):Prop where
 at_:∃ S L m,Kj w b j S L L F m A A2 q r q2 r2 W∧Jc L k∧m≤28+14*k
 bx:Blk W b 29 #[.pointer (some ⟨j,0,none⟩),.slice A q r,.slice A2 q2 r2,.int .i64 1]
 sn:Aa w W
theorem JJ.next {w:World} {b j:Nat} {F:List KV} {A2:Option Addr} {q2 r2 k:Nat} {A:Option Addr} {q r:Nat} {W W':World} (h:JJ w b j F A2 q2 r2 k A q r W) (s:Aa W W'):JJ w b j F A2 q2 r2 k A q r W':=by
 obtain⟨S,L,m,hp,hg,hm⟩:=h.at_;exact⟨⟨S,L,m,hp.next s,hg,hm⟩,h.bx.next s.below,Ac h.sn s⟩
theorem JJ.more {w:World} {b j:Nat} {F:List KV} {A2:Option Addr} {q2 r2 k:Nat} {A:Option Addr} {q r:Nat} {W:World} (h:JJ w b j F A2 q2 r2 k A q r W):JJ w b j F A2 q2 r2 (k+1) A q r W:=by
 obtain⟨S,L,m,hp,hg,hm⟩:=h.at_;exact⟨⟨S,L,m,hp,hg.more,by omega⟩,h.bx,h.sn⟩
structure dB (w:World) (b j:Nat) (F:List KV) (A2:Option Addr) (q2 r2 k:Nat) (A:Option Addr) (q r:Nat) (B:Option Addr) (x y vb:Nat) (V:World):Prop where
 bv:Blk V vb 29 #[.pointer (some ⟨j,0,none⟩),.slice B x y,.slice A2 q2 r2,.int .i64 1]
 bx:Blk V b 29 #[.pointer (some ⟨j,0,none⟩),.slice A q r,.slice A2 q2 r2,.int .i64 1]
 sn:Aa w V
 ok:JJ w b j F A2 q2 r2 (k+1) B x y ((((V.setCell ⟨b,0,none⟩ (.pointer (some ⟨j,0,none⟩))).setCell ⟨b,1,none⟩ (.slice B x y)).setCell ⟨b,2,none⟩ (.slice A2 q2 r2)).setCell ⟨b,3,none⟩ (.int .i64 1))
def dC (w:World) (b j:Nat) (F:List KV) (A2:Option Addr) (q2 r2:Nat):Prop:=∀ k A q r (d:DR) W,k≤30→NS d→JJ w b j F A2 q2 r2 k A q r W→Calls qP 10 #[wdV j A q r A2 q2 r2 1,.agg d.cells] W fun en w'=>∃ B x y,en=.returned (.tuple #[wdV j B x y A2 q2 r2 1,.bool true])∧Aa w w'∧Blk w' b 29 #[.pointer (some ⟨j,0,none⟩),.slice A q r,.slice A2 q2 r2,.int .i64 1]∧dB w b j F A2 q2 r2 k A q r B x y w'.heap.size (w'.alloc (.cells #[.pointer (some ⟨j,0,none⟩),.slice B x y,.slice A2 q2 r2,.int .i64 1] 29))
def dD (w:World) (b j:Nat) (F:List KV) (A2:Option Addr) (q2 r2:Nat):Prop:=∀ k A q r (d:DR) W,k≤30→NS d→JJ w b j F A2 q2 r2 k A q r W→Calls qP 10 #[wdV j A q r A2 q2 r2 1,.agg d.cells] (W.alloc (.cells #[.pointer none,.slice none 0 0,.slice none 0 0,.int .i64 0] 29)).drew fun en w'=>∃ B x y,en=.returned (.tuple #[wdV j B x y A2 q2 r2 1,.bool true])∧Aa w w'∧Blk w' b 29 #[.pointer (some ⟨j,0,none⟩),.slice A q r,.slice A2 q2 r2,.int .i64 1]∧Blk w' W.heap.size 29 #[.pointer none,.slice none 0 0,.slice none 0 0,.int .i64 0]∧dB w b j F A2 q2 r2 k A q r B x y W.heap.size ((((w'.setCell ⟨W.heap.size,0,none⟩ (.pointer (some ⟨j,0,none⟩))).setCell ⟨W.heap.size,1,none⟩ (.slice B x y)).setCell ⟨W.heap.size,2,none⟩ (.slice A2 q2 r2)).setCell ⟨W.heap.size,3,none⟩ (.int .i64 1))
def jO (w:World) (b j:Nat) (F:List KV) (A2:Option Addr) (q2 r2 n:Nat) (i:Value) (wr:World):Prop:=∃ k A q r,k≤n∧i=.int .i64 (k:Nat)∧JJ w b j F A2 q2 r2 k A q r wr
theorem bQ {P X t2:World} {xb:Nat} {cs:Array Value} (hX:Blk X xb 41 cs) (h:Aa X.drew t2) (hP:Aa P t2) (g1 g2:ByteArray) (g3:Int) (g4:Bool) :
  Aa P (t2.alloc (.cells #[.string g1,.string g2,.int .i64 g3,.bool g4] 41))∧Blk (t2.alloc (.cells #[.string g1,.string g2,.int .i64 g3,.bool g4] 41)) xb 41 cs∧Blk (t2.alloc (.cells #[.string g1,.string g2,.int .i64 g3,.bool g4] 41)) t2.heap.size 41 #[.string g1,.string g2,.int .i64 g3,.bool g4] :=
 ⟨Ab hP _,(hX.next (show Aa X t2 from h).below).next (Ab (Aa.refl t2) _).below,Blk.new t2 41 #[.string g1,.string g2,.int .i64 g3,.bool g4]⟩
theorem bR {P X t2:World} {xb:Nat} {cs:Array Value} (hp:P.heap.size≤X.heap.size) (hX:Blk X xb 41 cs) (h:Aa (X.alloc (.cells #[.string ⟨#[]⟩,.string ⟨#[]⟩,.int .i64 0,.bool false] 41)).drew t2) (hP:Aa P t2) (g1 g2:ByteArray) (g3:Int) (g4:Bool) :
  (Aa P ((((t2.setCell ⟨X.heap.size,0,none⟩ (.string g1)).setCell ⟨X.heap.size,1,none⟩ (.string g2)).setCell ⟨X.heap.size,2,none⟩ (.int .i64 g3)).setCell ⟨X.heap.size,3,none⟩ (.bool g4)) ∧
    Blk ((((t2.setCell ⟨X.heap.size,0,none⟩ (.string g1)).setCell ⟨X.heap.size,1,none⟩ (.string g2)).setCell ⟨X.heap.size,2,none⟩ (.int .i64 g3)).setCell ⟨X.heap.size,3,none⟩ (.bool g4)) xb 41 cs ∧
    Blk ((((t2.setCell ⟨X.heap.size,0,none⟩ (.string g1)).setCell ⟨X.heap.size,1,none⟩ (.string g2)).setCell ⟨X.heap.size,2,none⟩ (.int .i64 g3)).setCell ⟨X.heap.size,3,none⟩ (.bool g4)) X.heap.size 41 #[.string g1,.string g2,.int .i64 g3,.bool g4]) ∧
  Blk t2 X.heap.size 41 #[.string ⟨#[]⟩,.string ⟨#[]⟩,.int .i64 0,.bool false]:=by
 have h1:Aa X t2:=Ac (Ab (Aa.refl X) (.cells #[.string ⟨#[]⟩,.string ⟨#[]⟩,.int .i64 0,.bool false] 41)) (show Aa (X.alloc (.cells #[.string ⟨#[]⟩,.string ⟨#[]⟩,.int .i64 0,.bool false] 41)) t2 from h);have z:=(Blk.new X 41 #[.string ⟨#[]⟩,.string ⟨#[]⟩,.int .i64 0,.bool false]).next (show Aa (X.alloc (.cells #[.string ⟨#[]⟩,.string ⟨#[]⟩,.int .i64 0,.bool false] 41)) t2 from h).below;have hlt:=hX.lt;exact⟨⟨Bv hP hp _ _ _ _,hX.next (Bv h1 (Nat.le_refl _) (.string g1) (.string g2) (.int .i64 g3) (.bool g4)).below,put4 z _ _ _ _⟩,z⟩
theorem YX (A:Option Addr) (n cap:Nat) (B:Option Addr) (nl cl:Nat) (f:Bool) (hn:f=false∨30<nl) (w:World)
  (FW:Hid (∀ W,Aa w W→Calls qP 6 #[.slice A n cap,.int .i64 12] W fun e w'=>e=.returned (.bool f)∧Aa W w'))
  (AW:Hid (∀ W,Aa w W→Calls qP 7 #[] W fun e w'=>e=.returned (.bool true)∧Aa W w')) :
  Calls qP 3 #[.slice A n cap,.slice B nl cl] w fun e w'=>e=.returned (.bool true)∧Aa w w':=by
 have hc:f=false∨(f=true∧(30:Int)<(nl:Int)):=by
  cases f with
  | false=>exact .inl rfl
  | true=>exact .inr ⟨rfl,by rcases hn with h|h;cases h;omega⟩
 clear hn
 rcases hc with rfl|⟨rfl,hk⟩
 all_goals
  go_enter Tryz.func3,Tryz.ntmps3
  go_wp2_with fail
  refine(FW.out _ (Aa.refl w)).mono ?_;rintro e w1 ⟨rfl,q⟩;have S1:=qH q;clear FW q
  go_wp2_with fail
  refine(AW.out _ S1.out).mono ?_;rintro e w2 ⟨rfl,q⟩;have S2:=qH (Ac S1.out q);clear AW S1 q;go_wp2
  go_ret
  exact⟨rfl,S2.out⟩
theorem Su (Af:Option Addr) (nf cf:Nat) (Al:Option Addr) (cl:Nat) (l:List DR) (hl:l.length≤30) (w:World) (L1 F:List KV) (hD:NR w (.slice Al l.length cl) l) (hG1:Jc L1 0)
  (FW:Hid (∀ W,Aa w W→Calls qP 6 #[.slice Af nf cf,.int .i64 12] W fun e w'=>e=.returned (.bool true)∧Aa W w'))
  (BG:Hid (∀ W,Aa w W→Calls qP 8 #[] W (Hm W)))
  (TL:Hid (∀ W S j B q r,Aa w W→Jr W S j [] Bq 14→Prs W (.slice B q r) Bq→(∀ g,(Value.slice B q r).ownBlock=some g→¬S g)→Calls qP 9 #[wdV j B q r none 0 0 0,.slice Af nf cf,.int .i64 3] W (EN W S j L1 28 F 1)))
  (F1:Hid (∀(x y:ByteArray) W b,Aa w W→Blk W b 36 #[.string x,.string y]→Calls qP 6 #[.slice (some ⟨b,0,none⟩) 1 1,.int .i64 1] W fun e w'=>e=.returned (.bool (decide (x.size≤150∧y.size≤300)))∧Aa W w'))
  (DO1:Hid (∀ b j A2 q2 r2,dC w b j F A2 q2 r2))
  (DO2:Hid (∀ b j A2 q2 r2,dD w b j F A2 q2 r2))
  (GT:Hid (∀(k b j:Nat) A A2 q r q2 r2 (id:ByteArray) W,k≤31→id.size≤100→JJ w b j F A2 q2 r2 k A q r W→∃ c1 c2 c3 c4 e,(∀ V,Aa W V→Calls qP 11 #[.pointer (some ⟨j,0,none⟩),.string id] V fun en w'=>en=.returned (.tuple #[.agg #[.string c1,.string c2,.int .i64 c3,.bool c4],.int .i64 e])∧Aa V w')∧(∀ V,Aa W V→Calls qP 12 #[.slice A q r,.string id] V fun en w'=>en=.returned (.tuple #[.agg #[.string c1,.string c2,.int .i64 c3,.bool c4],.int .i64 e])∧Aa V w')))
  (SM:Hid (∀(k b j:Nat) A A2 q r q2 r2 W,k≤31→JJ w b j F A2 q2 r2 k A q r W→Calls qP 13 #[wdV j A q r A2 q2 r2 1] W fun en w'=>en=.returned (.bool true)∧Aa W w'))
  (AW:Hid (∀ W,Aa w W→Calls qP 7 #[] W fun e w'=>e=.returned (.bool true)∧Aa W w')) :
  Calls qP 3 #[.slice Af nf cf,.slice Al l.length cl] w fun e w'=>e=.returned (.bool true)∧Aa w w':=by
 have hk:¬(30:Int)<(l.length:Int):=by omega
 obtain⟨Al',cl',e,_,hc⟩:=hD
 cases e
 have HC:=qH hc;clear hc;go_enter Tryz.func3,Tryz.ntmps3
 go_wp2_with fail
 refine(FW.out _ (Aa.refl w)).mono ?_;rintro e w0 ⟨rfl,q⟩;have S0:=qH q;clear FW q
 go_wp2_with fail
 refine(BG.out _ S0.out).mono ?_;rintro e w1 ⟨S,j,B,q,r,rfl,⟨hJ,hT⟩,hP,hS,hn⟩;have S1:=qH (Ac S0.out hS);have J1:=qH (And.intro hJ (And.intro (fun i hi=>Nat.le_trans S0.out.below.size (hT i hi)) (And.intro hP hn)));have X1:=qH (Blk.new w1 29 #[.pointer (some ⟨j,0,none⟩),.slice B q r,.slice none 0 0,.int .i64 0]);have Q1:=qH (Ab (Aa.refl w1) (.cells #[.pointer (some ⟨j,0,none⟩),.slice B q r,.slice none 0 0,.int .i64 0] 29));have nb:=qH (show ¬S w1.heap.size from fun h=>by have:=hJ.bound _ h;omega);clear BG hJ hT hP hS hn S0
 go_wp2_with fail
 refine(TL.out _ S j B q r (Ac S1.out Q1.out) (J1.out.1.below Q1.out.below) (J1.out.2.2.1.below Q1.out.below) J1.out.2.2.2).mono ?_;rintro e w2 ⟨S',B',q',r',B2,q2,r2,rfl,hJ2,hP2,hF2,hkp,hg,hoA,hoF⟩;have HA:=qH (Kj.put (Ac S1.out Q1.out) X1.out S1.out.below.size nb.out J1.out.2.1 hJ2 hP2 hF2 hkp hg hoA hoF);clear TL J1 X1 Q1 nb hJ2 hP2 hF2 hkp hg hoA hoF S1;have d0:=HA.out.1.c 0 (v:=.pointer (some ⟨j,0,none⟩)) rfl;have d1:=HA.out.1.c 1 (v:=.slice B q r) rfl;have d2:=HA.out.1.c 2 (v:=.slice none 0 0) rfl;have d3:=HA.out.1.c 3 (v:=.int .i64 0) rfl;have f0:=HA.out.1.frozen 0;have f1:=HA.out.1.frozen 1;have f2:=HA.out.1.frozen 2;have f3:=HA.out.1.frozen 3;have H3:=qH (JJ.mk (k:=0) ⟨S',L1,28,HA.out.2,hG1,Nat.le_refl _⟩ HA.out.2.bx HA.out.2.sn);clear HA;generalize w1.heap.size=bw at *;go_wp2;clear d0 d1 d2 d3 f0 f1 f2 f3;generalize ((((w2.setCell ⟨bw,0,none⟩ (.pointer (some ⟨j,0,none⟩))).setCell ⟨bw,1,none⟩ (.slice B' q' r')).setCell ⟨bw,2,none⟩ (.slice B2 q2 r2)).setCell ⟨bw,3,none⟩ (.int .i64 1))=W3 at *
 go_loopw [8] (fun i wr=>Hid (jO w bw j F B2 q2 r2 l.length i wr)) (fun i _=>l.length-(intOf i).toNat)
 case atStart=>exact qH ⟨0,B',q',r',Nat.zero_le _,rfl,H3.out⟩
 case round =>
  clear H3;obtain⟨k,A,x,y,hk2,rfl,HT'⟩:=hrel.out;have HT:=qH HT';clear HT' hrel;by_cases hlt:k<l.length
  ·obtain⟨b1,off1,rfl,hcell⟩:=HC.out k hlt
   have hi0:(0:Int)≤k:=by omega
   have hi1:(k:Int)<(l.length:Int):=by omega
   have hwr:IntKind.i64.wrap ((k:Int)+1)=(k:Int)+1:=IntWalk.i64_in _ (by omega);obtain⟨d,hd⟩:∃ d,d=l[k]:=⟨_,rfl⟩;rw [←hd] at hcell;clear hd;obtain⟨kd,id,⟨c,a,b,rt,mc⟩,key,raw,p1,p2,ht⟩:=d;have HW:=qH hcell;have HL:=qH (fun(i:Nat) u (h:(DR.cells ⟨kd,id,⟨c,a,b,rt,mc⟩,key,raw,p1,p2,ht⟩)[i]?=some u)=>HT.out.sn.cell (hcell i u h));clear hcell;have e8:=HL.out 8 (.string raw) rfl;have e7:=HL.out 7 (.string key) rfl;have e1:=HL.out 1 (.string id) rfl;have e9:=HL.out 9 (.string p1) rfl;have e10:=HL.out 10 (.string p2) rfl;have e2:=HL.out 2 (.string c) rfl;have e5:=HL.out 5 (.string rt) rfl;simp only [←Nat.add_assoc] at e8 e7 e1 e9 e10 e2 e5;have SB:=qH (Ab (Aa.refl wr) (.cells #[.string p1,.string p2] 36));have BB:=qH (Blk.new wr 36 #[.string p1,.string p2]);have Q:=qH (F1.out p1 p2 _ wr.heap.size (Ac HT.out.sn SB.out) BB.out);clear F1 BB;by_cases c1:raw.size≤3000
   ·have g1:¬(3000:Int)<(raw.size:Int):=by omega
    by_cases c2:key.size≤300
    ·have g2:¬(300:Int)<(key.size:Int):=by omega
     by_cases c3:id.size≤100
     ·have g3:¬(100:Int)<(id.size:Int):=by omega
      go_wp2_with fail
      clear e8 e7 e1 e9 e10 e2 e5 g1 g2 g3;by_cases c4:p1.size≤150∧p2.size≤300
      ·have Q2:=Q.out
       rw [decide_eq_true c4] at Q2;refine Q2.mono ?_;clear Q Q2;rintro e u0 ⟨rfl,q⟩;have S0:=qH (Ac SB.out q);have H0:=qH (HT.out.next S0.out);have HL0:=qH (fun i u h=>S0.out.cell (HL.out i u h));clear q SB HT HL;have e2:=HL0.out 2 (.string c) rfl;have e5:=HL0.out 5 (.string rt) rfl;simp only [←Nat.add_assoc] at e2 e5;by_cases c5:c.size≤100
       ·have g5:¬(100:Int)<(c.size:Int):=by omega
        by_cases c6:rt.size≤100
        ·have g6:¬(100:Int)<(rt.size:Int):=by omega
         go_wp2;clear e2 e5 g5 g6;have X0:=HW.out 0 (.int .i64 kd) rfl;have X1:=HW.out 1 (.string id) rfl;have X2:=HW.out 2 (.string c) rfl;have X3:=HW.out 3 (.int .i64 a) rfl;have X4:=HW.out 4 (.int .i64 b) rfl;have X5:=HW.out 5 (.string rt) rfl;have X6:=HW.out 6 (.string mc) rfl;have X7:=HW.out 7 (.string key) rfl;have X8:=HW.out 8 (.string raw) rfl;have X9:=HW.out 9 (.string p1) rfl;have X10:=HW.out 10 (.string p2) rfl;have X11:=HW.out 11 (.int .i64 ht) rfl;simp only [←Nat.add_assoc,Nat.add_zero] at X0 X1 X2 X3 X4 X5 X6 X7 X8 X9 X10 X11;have KS:=qH (fun(W:World) (hb:Blk W bw 29 #[.pointer (some ⟨j,0,none⟩),.slice A x y,.slice B2 q2 r2,.int .i64 1]) (hs:Aa w W)=>show W.cell? ⟨bw,0,none⟩=some (.pointer (some ⟨j,0,none⟩))∧W.cell? ⟨bw,1,none⟩=some (.slice A x y)∧W.cell? ⟨bw,2,none⟩=some (.slice B2 q2 r2)∧W.cell? ⟨bw,3,none⟩=some (.int .i64 1)∧W.cell? ⟨b1,off1+k*12,none⟩=some (.int .i64 kd)∧W.cell? ⟨b1,off1+k*12+1,none⟩=some (.string id)∧W.cell? ⟨b1,off1+k*12+2,none⟩=some (.string c)∧W.cell? ⟨b1,off1+k*12+3,none⟩=some (.int .i64 a)∧W.cell? ⟨b1,off1+k*12+4,none⟩=some (.int .i64 b)∧W.cell? ⟨b1,off1+k*12+5,none⟩=some (.string rt)∧W.cell? ⟨b1,off1+k*12+6,none⟩=some (.string mc)∧W.cell? ⟨b1,off1+k*12+7,none⟩=some (.string key)∧W.cell? ⟨b1,off1+k*12+8,none⟩=some (.string raw)∧W.cell? ⟨b1,off1+k*12+9,none⟩=some (.string p1)∧W.cell? ⟨b1,off1+k*12+10,none⟩=some (.string p2)∧W.cell? ⟨b1,off1+k*12+11,none⟩=some (.int .i64 ht) from⟨hb.c 0 rfl,hb.c 1 rfl,hb.c 2 rfl,hb.c 3 rfl,hs.cell X0,hs.cell X1,hs.cell X2,hs.cell X3,hs.cell X4,hs.cell X5,hs.cell X6,hs.cell X7,hs.cell X8,hs.cell X9,hs.cell X10,hs.cell X11⟩);have HD:=qH (H0.out.next (Bg (Aa.refl u0)));have D1:=qH (DO1.out bw j B2 q2 r2 k A x y ⟨kd,id,⟨c,a,b,rt,mc⟩,key,raw,p1,p2,ht⟩ u0.drew (by omega) ⟨c1,c2,c3,c4.1,c4.2,c5,c6⟩ HD.out);have D2:=qH (DO2.out bw j B2 q2 r2 k A x y ⟨kd,id,⟨c,a,b,rt,mc⟩,key,raw,p1,p2,ht⟩ u0 (by omega) ⟨c1,c2,c3,c4.1,c4.2,c5,c6⟩ H0.out);have K0:=qH (KS.out u0.drew HD.out.bx HD.out.sn)
         have Z0:=qH (Ab (Aa.refl u0) (.cells #[.pointer none,.slice none 0 0,.slice none 0 0,.int .i64 0] 29));have KZ:=qH (KS.out (u0.alloc (.cells #[.pointer none,.slice none 0 0,.slice none 0 0,.int .i64 0] 29)).drew (CL (H0.out.bx.next Z0.out.below)) (Bg (Ac H0.out.sn Z0.out)));have XI:=qH X1;clear H0 X0 X1 X2 X3 X4 X5 X6 X7 X8 X9 X10 X11 HL0 HW DO1 DO2 Z0
         go_region_held3 (fun W=>W.cell? ⟨bw,0,none⟩=some (.pointer (some ⟨j,0,none⟩))∧W.cell? ⟨bw,1,none⟩=some (.slice A x y)∧W.cell? ⟨bw,2,none⟩=some (.slice B2 q2 r2)∧W.cell? ⟨bw,3,none⟩=some (.int .i64 1)∧W.cell? ⟨b1,off1+k*12,none⟩=some (.int .i64 kd)∧W.cell? ⟨b1,off1+k*12+1,none⟩=some (.string id)∧W.cell? ⟨b1,off1+k*12+2,none⟩=some (.string c)∧W.cell? ⟨b1,off1+k*12+3,none⟩=some (.int .i64 a)∧W.cell? ⟨b1,off1+k*12+4,none⟩=some (.int .i64 b)∧W.cell? ⟨b1,off1+k*12+5,none⟩=some (.string rt)∧W.cell? ⟨b1,off1+k*12+6,none⟩=some (.string mc)∧W.cell? ⟨b1,off1+k*12+7,none⟩=some (.string key)∧W.cell? ⟨b1,off1+k*12+8,none⟩=some (.string raw)∧W.cell? ⟨b1,off1+k*12+9,none⟩=some (.string p1)∧W.cell? ⟨b1,off1+k*12+10,none⟩=some (.string p2)∧W.cell? ⟨b1,off1+k*12+11,none⟩=some (.int .i64 ht))
          (first|with_reducible exact K0.out|with_reducible exact KZ.out|with_reducible exact K1.out|with_reducible exact KA.out|with_reducible exact KV.out|go_keep)
          (first
            | (go_at_call 10;refine D1.out.mono ?_;rintro en u1 ⟨B3,x3,y3,rfl,s1,g1,E1⟩;have K1:=qH (KS.out _ g1 s1);have KA:=qH (KS.out (u1.alloc (.cells #[.pointer none,.slice none 0 0,.slice none 0 0,.int .i64 0] 29)) (g1.next (Ab (Aa.refl u1) (.cells #[.pointer none,.slice none 0 0,.slice none 0 0,.int .i64 0] 29)).below) (Ac s1 (Ab (Aa.refl u1) (.cells #[.pointer none,.slice none 0 0,.slice none 0 0,.int .i64 0] 29))));have KV:=qH (KS.out _ E1.bx E1.sn);have EX:=qH E1;clear s1 g1 E1 D1 D2)
            | (go_at_call 10;refine D2.out.mono ?_;rintro en u1 ⟨B3,x3,y3,rfl,s1,g1,z1,E1⟩;have K1:=qH (KS.out _ g1 s1);have KV:=qH (KS.out _ E1.bx E1.sn);have EX:=qH E1;have fr0:u1.cell? ⟨u0.heap.size,0,none⟩=some (.pointer none):=z1.c 0 rfl;have gr0:=z1.frozen 0;have fr1:u1.cell? ⟨u0.heap.size,1,none⟩=some (.slice none 0 0):=z1.c 1 rfl;have gr1:=z1.frozen 1;have fr2:u1.cell? ⟨u0.heap.size,2,none⟩=some (.slice none 0 0):=z1.c 2 rfl;have gr2:=z1.frozen 2;have fr3:u1.cell? ⟨u0.heap.size,3,none⟩=some (.int .i64 0):=z1.c 3 rfl;have gr3:=z1.frozen 3;clear s1 g1 z1 E1 D1 D2))
         all_goals
          have v0:=EX.out.bv.c 0 (v:=.pointer (some ⟨j,0,none⟩)) rfl;have v1:=EX.out.bv.c 1 (v:=.slice B3 x3 y3) rfl;have v2:=EX.out.bv.c 2 (v:=.slice B2 q2 r2) rfl;have v3:=EX.out.bv.c 3 (v:=.int .i64 1) rfl;have w0:=EX.out.bx.c 0 (v:=.pointer (some ⟨j,0,none⟩)) rfl;have w1:=EX.out.bx.c 1 (v:=.slice A x y) rfl;have w2:=EX.out.bx.c 2 (v:=.slice B2 q2 r2) rfl;have w3:=EX.out.bx.c 3 (v:=.int .i64 1) rfl;have f0:=EX.out.bx.frozen 0;have f1:=EX.out.bx.frozen 1;have f2:=EX.out.bx.frozen 2;have f3:=EX.out.bx.frozen 3;have OK:=qH EX.out.ok
         generalize (u1.alloc (.cells #[.pointer (some ⟨j,0,none⟩),.slice B3 x3 y3,.slice B2 q2 r2,.int .i64 1] 29))=V at *
         rotate_left
         generalize ((((u1.setCell ⟨u0.heap.size,0,none⟩ (.pointer (some ⟨j,0,none⟩))).setCell ⟨u0.heap.size,1,none⟩ (.slice B3 x3 y3)).setCell ⟨u0.heap.size,2,none⟩ (.slice B2 q2 r2)).setCell ⟨u0.heap.size,3,none⟩ (.int .i64 1))=V at *
         rotate_left
         all_goals
          clear EX K1 KV K0 KZ KS;go_wp2;clear v0 v1 v2 v3 w0 w1 w2 w3 f0 f1 f2 f3;generalize ((((V.setCell ⟨bw,0,none⟩ (.pointer (some ⟨j,0,none⟩))).setCell ⟨bw,1,none⟩ (.slice B3 x3 y3)).setCell ⟨bw,2,none⟩ (.slice B2 q2 r2)).setCell ⟨bw,3,none⟩ (.int .i64 1))=P at *;have p0:=OK.out.bx.c 0 (v:=.pointer (some ⟨j,0,none⟩)) rfl;have p1:=OK.out.bx.c 1 (v:=.slice B3 x3 y3) rfl;have p2:=OK.out.sn.cell XI.out;have KT:=qH (fun(W:World) (hs:Aa P W)=>show W.cell? ⟨bw,0,none⟩=some (.pointer (some ⟨j,0,none⟩))∧W.cell? ⟨bw,1,none⟩=some (.slice B3 x3 y3)∧W.cell? ⟨b1,off1+k*12+1,none⟩=some (.string id) from⟨hs.cell p0,hs.cell p1,hs.cell p2⟩);obtain⟨g1,g2,g3,g4,ge,GC',GR'⟩:=GT.out (k+1) bw j B3 B2 x3 y3 q2 r2 id P (by omega) c3 OK.out;have GC:=qH GC';have GR:=qH GR';clear GC' GR' p0 p1 p2 GT XI;have r0:=qH (Bg (Aa.refl P));have rz:=qH (Bg (Ab (Aa.refl P) (.cells #[.string ⟨#[]⟩,.string ⟨#[]⟩,.int .i64 0,.bool false] 41)));have T0:=qH (KT.out _ r0.out);have TZ:=qH (KT.out _ rz.out)
          go_region_held3 (fun W=>W.cell? ⟨bw,0,none⟩=some (.pointer (some ⟨j,0,none⟩))∧W.cell? ⟨bw,1,none⟩=some (.slice B3 x3 y3)∧W.cell? ⟨b1,off1+k*12+1,none⟩=some (.string id))
           (first|with_reducible exact T0.out|with_reducible exact TZ.out|with_reducible exact T1.out|with_reducible exact TA.out|with_reducible exact TV.out|go_keep)
           (first
             | (go_at_call 11;refine(GC.out _ (by with_reducible exact r0.out)).mono ?_;clear GC;rintro en t1 ⟨rfl,s1'⟩;have s1:=qH (Ac r0.out s1');have T1:=qH (KT.out _ s1.out);have TA:=qH (KT.out _ (Ab s1.out (.cells #[.string ⟨#[]⟩,.string ⟨#[]⟩,.int .i64 0,.bool false] 41)));have EY:=qH (And.intro (Ab s1.out (.cells #[.string g1,.string g2,.int .i64 g3,.bool g4] 41)) (Blk.new t1 41 #[.string g1,.string g2,.int .i64 g3,.bool g4]));have TV:=qH (KT.out _ EY.out.1);have isA:=trivial;clear s1 s1')
             | (go_at_call 11;refine(GC.out _ (by with_reducible exact rz.out)).mono ?_;clear GC;rintro en t1 ⟨rfl,s1'⟩;have s1:=qH (Ac rz.out s1');have z1:=(Blk.new P 41 #[.string ⟨#[]⟩,.string ⟨#[]⟩,.int .i64 0,.bool false]).next (show Aa (P.alloc (.cells #[.string ⟨#[]⟩,.string ⟨#[]⟩,.int .i64 0,.bool false] 41)) t1 from s1').below;have T1:=qH (KT.out _ s1.out);have fr0:t1.cell? ⟨P.heap.size,0,none⟩=some (.string ⟨#[]⟩):=z1.c 0 rfl;have gr0:=z1.frozen 0;have fr1:t1.cell? ⟨P.heap.size,1,none⟩=some (.string ⟨#[]⟩):=z1.c 1 rfl;have gr1:=z1.frozen 1;have fr2:t1.cell? ⟨P.heap.size,2,none⟩=some (.int .i64 0):=z1.c 2 rfl;have gr2:=z1.frozen 2;have fr3:t1.cell? ⟨P.heap.size,3,none⟩=some (.bool false):=z1.c 3 rfl;have gr3:=z1.frozen 3;have EY:=qH (And.intro (Bv s1.out (Nat.le_refl _) (.string g1) (.string g2) (.int .i64 g3) (.bool g4)) (put4 z1 (.string g1) (.string g2) (.int .i64 g3) (.bool g4)));have TV:=qH (KT.out _ EY.out.1);clear s1 s1' z1))
          all_goals first|(clear isA;generalize (t1.alloc (.cells #[.string g1,.string g2,.int .i64 g3,.bool g4] 41))=X at *)|generalize ((((t1.setCell ⟨P.heap.size,0,none⟩ (.string g1)).setCell ⟨P.heap.size,1,none⟩ (.string g2)).setCell ⟨P.heap.size,2,none⟩ (.int .i64 g3)).setCell ⟨P.heap.size,3,none⟩ (.bool g4))=X at *
          all_goals
           (try clear T1);(try clear TA);(try clear TV)
           clear T0 TZ
           (try clear fr0 fr1 fr2 fr3 gr0 gr1 gr2 gr3)
           go_wp2;have r3:=qH (Bg EY.out.1);have rw3:=qH (Bg (Ab EY.out.1 (.cells #[.string ⟨#[]⟩,.string ⟨#[]⟩,.int .i64 0,.bool false] 41)));have T0:=qH (KT.out _ r3.out);have TZ:=qH (KT.out _ rw3.out)
           go_region_held3 (fun W=>W.cell? ⟨bw,0,none⟩=some (.pointer (some ⟨j,0,none⟩))∧W.cell? ⟨bw,1,none⟩=some (.slice B3 x3 y3)∧W.cell? ⟨b1,off1+k*12+1,none⟩=some (.string id))
            (first|with_reducible exact T0.out|with_reducible exact TZ.out|with_reducible exact T1.out|with_reducible exact TA.out|with_reducible exact TV.out|go_keep)
            (first
              | (go_at_call 12;refine(GR.out _ (by with_reducible exact r3.out)).mono ?_;clear GR;rintro en t2 ⟨rfl,s1'⟩;have s1:=qH (Ac r3.out s1');have T1:=qH (KT.out _ s1.out);have TA:=qH (KT.out _ (Ab s1.out (.cells #[.string ⟨#[]⟩,.string ⟨#[]⟩,.int .i64 0,.bool false] 41)));have EZ:=qH (bQ EY.out.2 s1' s1.out g1 g2 g3 g4);have TV:=qH (KT.out _ EZ.out.1);have isB:=trivial;clear s1 s1')
              | (go_at_call 12;refine(GR.out _ (by with_reducible exact rw3.out)).mono ?_;clear GR;rintro en t2 ⟨rfl,s1'⟩;have s1:=qH (Ac rw3.out s1');have EZ':=bR EY.out.1.below.size EY.out.2 s1' s1.out g1 g2 g3 g4;have EZ:=qH EZ'.1;have T1:=qH (KT.out _ s1.out);have z1:=EZ'.2;have fr0:=z1.c 0 (v:=.string ⟨#[]⟩) rfl;have gr0:=z1.frozen 0;have fr1:=z1.c 1 (v:=.string ⟨#[]⟩) rfl;have gr1:=z1.frozen 1;have fr2:=z1.c 2 (v:=.int .i64 0) rfl;have gr2:=z1.frozen 2;have fr3:=z1.c 3 (v:=.bool false) rfl;have gr3:=z1.frozen 3;have TV:=qH (KT.out _ EZ.out.1);clear s1 s1' z1 EZ'))
          all_goals first|(clear isB;generalize (t2.alloc (.cells #[.string g1,.string g2,.int .i64 g3,.bool g4] 41))=Y at *)|generalize ((((t2.setCell ⟨X.heap.size,0,none⟩ (.string g1)).setCell ⟨X.heap.size,1,none⟩ (.string g2)).setCell ⟨X.heap.size,2,none⟩ (.int .i64 g3)).setCell ⟨X.heap.size,3,none⟩ (.bool g4))=Y at *
          all_goals
           (try clear T1);(try clear TA);(try clear TV)
           clear T0 TZ EY KT r0 rz r3 rw3
           (try clear fr0 fr1 fr2 fr3 gr0 gr1 gr2 gr3)
           have OY:=qH (OK.out.next EZ.out.1);have w0:=OY.out.bx.c 0 (v:=.pointer (some ⟨j,0,none⟩)) rfl;have w1:=OY.out.bx.c 1 (v:=.slice B3 x3 y3) rfl;have w2:=OY.out.bx.c 2 (v:=.slice B2 q2 r2) rfl;have w3:=OY.out.bx.c 3 (v:=.int .i64 1) rfl
           go_wp2_with fail
           clear w0 w1 w2 w3;refine(SM.out (k+1) bw j B3 B2 x3 y3 q2 r2 Y (by omega) OY.out).mono ?_;rintro e Y2 ⟨rfl,q⟩;have OZ:=qH (OY.out.next q);have hx:=EZ.out.2.1.next q.below;have hy:=EZ.out.2.2.next q.below;have x0':=hx.c 0 (v:=.string g1) rfl;have y0':=hy.c 0 (v:=.string g1) rfl;have x1':=hx.c 1 (v:=.string g2) rfl;have y1':=hy.c 1 (v:=.string g2) rfl;have x2':=hx.c 2 (v:=.int .i64 g3) rfl;have y2':=hy.c 2 (v:=.int .i64 g3) rfl;have x3':=hx.c 3 (v:=.bool g4) rfl;have y3':=hy.c 3 (v:=.bool g4) rfl;clear q hx hy EZ OY OK SM
           have EQ:∀ W:World,(Op.equalIn 10000 41 (.agg #[.string g1,.string g2,.int .i64 g3,.bool g4]) (.agg #[.string g1,.string g2,.int .i64 g3,.bool g4])).run qP W=.ok true W:=fun W=>by rw [Ub];simp
           have GU:=Ua;go_wp2
           go_roundw
           case rel=>exact⟨k+1,B3,x3,y3,hlt,by first|rfl|exact congrArg (Value.int IntKind.i64) (by omega),OZ.out⟩
           case measure=>simp [intOf];omega
        ·have g6:(100:Int)<(rt.size:Int):=by omega
         go_wp2
         go_roundw
         case rel=>exact⟨k+1,A,x,y,hlt,by first|rfl|exact congrArg (Value.int IntKind.i64) (by omega),H0.out.more⟩
         case measure=>simp [intOf];omega
       ·have g5:(100:Int)<(c.size:Int):=by omega
        go_wp2
        go_roundw
        case rel=>exact⟨k+1,A,x,y,hlt,by first|rfl|exact congrArg (Value.int IntKind.i64) (by omega),H0.out.more⟩
        case measure=>simp [intOf];omega
      ·have Q2:=Q.out
       rw [decide_eq_false c4] at Q2;refine Q2.mono ?_;clear Q Q2;rintro e u0 ⟨rfl,q⟩;have H0:=qH (HT.out.next (Ac SB.out q));clear q SB HT HL;go_wp2
       go_roundw
       case rel=>exact⟨k+1,A,x,y,hlt,by first|rfl|exact congrArg (Value.int IntKind.i64) (by omega),H0.out.more⟩
       case measure=>simp [intOf];omega
     ·have g3:(100:Int)<(id.size:Int):=by omega
      go_wp2
      go_roundw
      case rel=>exact⟨k+1,A,x,y,hlt,by first|rfl|exact congrArg (Value.int IntKind.i64) (by omega),HT.out.more⟩
      case measure=>simp [intOf];omega
    ·have g2:(300:Int)<(key.size:Int):=by omega
     go_wp2
     go_roundw
     case rel=>exact⟨k+1,A,x,y,hlt,by first|rfl|exact congrArg (Value.int IntKind.i64) (by omega),HT.out.more⟩
     case measure=>simp [intOf];omega
   ·have g1:(3000:Int)<(raw.size:Int):=by omega
    go_wp2
    go_roundw
    case rel=>exact⟨k+1,A,x,y,hlt,by first|rfl|exact congrArg (Value.int IntKind.i64) (by omega),HT.out.more⟩
    case measure=>simp [intOf];omega
  ·have hi1:¬(k:Int)<(l.length:Int):=by omega
   go_wp2_with fail
   refine(AW.out _ HT.out.sn).mono ?_;rintro e w9 ⟨rfl,q⟩;have S9:=qH (Ac HT.out.sn q);clear AW q;go_wp2
   go_ret
   exact⟨rfl,S9.out⟩
end Go.Proofs.YtkejaepmoabikaaGreatDoor.W
