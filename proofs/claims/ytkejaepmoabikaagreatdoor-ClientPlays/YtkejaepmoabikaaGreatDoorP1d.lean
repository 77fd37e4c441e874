import Derived.Stop.LaidErr
import Derived.MakeChecks
import Derived.LaidHandle
import Derived.Lib.LaidTab
import Derived.Shelf.Vars
import Derived.Test.YtkejaepmoabikaaGreatDoorP1a
import Derived.Test.YtkejaepmoabikaaGreatDoorP1c
import Derived.Test.YtkejaepmoabikaaGreatDoorPXRead
import Derived.Test.YtkejaepmoabikaaGreatDoorP0d
import Derived.Test.YtkejaepmoabikaaGreatDoorP0f
import Derived.Test.YtkejaepmoabikaaGreatDoorP1b
import Derived.Test.YtkejaepmoabikaaGreatDoorP0g
import Derived.Test.YtkejaepmoabikaaGreatDoorP0c
namespace Go.Proofs.YtkejaepmoabikaaGreatDoor.W
open Go.RowKit
open Lib renaming hid → qH
open _root_.Go.Proofs.Tryz renaming prog → qP
set_option maxHeartbeats 4000000
set_option maxRecDepth 100000
def MU (h:Int):Bool:=decide (0<h∧h≤1099511627776)
theorem Fe (h:Int) (w:World):Calls qP 59 #[.int .i64 h] w fun e w'=>e=.returned (.bool (MU h))∧w'=w:=by
 unfold MU;by_cases h1:0<h
 ·by_cases h2:h≤1099511627776
  ·rw [decide_eq_true (And.intro h1 h2)]
   go_enter Tryz.func59,Tryz.ntmps59;go_wp2
   go_ret
   exact⟨rfl,rfl⟩
  ·rw [decide_eq_false (fun x=>h2 x.2)]
   go_enter Tryz.func59,Tryz.ntmps59;go_wp2
   go_ret
   exact⟨rfl,rfl⟩
 ·rw [decide_eq_false (fun x=>h1 x.1)]
  go_enter Tryz.func59,Tryz.ntmps59;go_wp2
  go_ret
  exact⟨rfl,rfl⟩
def exV (e:Int):Value:=if e=0 then .nilIface else .iface 160 (.agg #[.int .i64 e])
def FC (r:Hdr×Int):Value:=.tuple #[hdV r.1,exV r.2]
def Ud (c:Clt) (raw:ByteArray):Hdr×Int :=
 if (CR raw).2≠0 then (Hdr.zero,(CR raw).2) else if (CR raw).1.chain≠c.chain∨EC c.key (CR raw).1=false then (Hdr.zero,24) else if (CR raw).1.height<1∨1099511627776<(CR raw).1.height then (Hdr.zero,13) else ((CR raw).1,0)
theorem VC {c:Clt} (h:c.frozen=false) (raw:ByteArray):DH c raw=Ud c raw:=by unfold DH;rw [if_neg (by simp [h])];rfl
theorem VD (c k raw:ByteArray) (ht:Int) (h1:ByteArray) (h2 h3:Int) (h4 h5:ByteArray) (e:Int) (g fr:Bool) (w:World)
  (P1:Hid (∀ W,Aa w W→Calls qP 94 #[.string raw] W fun en w'=>en=.returned (.tuple #[.agg #[.string h1,.int .i64 h2,.int .i64 h3,.string h4,.string h5],.int .i64 e])∧Aa W w'))
  (P2:Hid (∀ W,Aa w W→Calls qP 95 #[.string k,.agg #[.string h1,.int .i64 h2,.int .i64 h3,.string h4,.string h5]] W fun en w'=>en=.returned (.bool g)∧Aa W w')) :
  Calls qP 49 #[.agg #[.string c,.string k,.int .i64 ht,.bool fr],.string raw] w fun en w'=>en=.returned (FC (if e≠0 then (Hdr.zero,e) else if h1≠c∨g=false then (Hdr.zero,24) else if h2<1∨1099511627776<h2 then (Hdr.zero,13) else (⟨h1,h2,h3,h4,h5⟩,0)))∧Aa w w':=by
 obtain⟨ans,hr⟩:∃ x:Hdr×Int,x=(if e≠0 then (Hdr.zero,e) else if h1≠c∨g=false then (Hdr.zero,24) else if h2<1∨1099511627776<h2 then (Hdr.zero,13) else (⟨h1,h2,h3,h4,h5⟩,0)):=⟨_,rfl⟩;rw [←hr];have HR:=qH hr;clear hr
 have z0:(w.alloc (.cells #[.string c,.string k,.int .i64 ht,.bool fr] 41)).heap.size=w.heap.size+1:=by simp
 have C0:=qH ((Blk.new w 41 #[.string c,.string k,.int .i64 ht,.bool fr]).alloc (.cells #[.string ⟨#[]⟩,.int .i64 0,.int .i64 0,.string ⟨#[]⟩,.string ⟨#[]⟩] 34));have O:=Blk.new (w.alloc (.cells #[.string c,.string k,.int .i64 ht,.bool fr] 41)) 34 #[.string ⟨#[]⟩,.int .i64 0,.int .i64 0,.string ⟨#[]⟩,.string ⟨#[]⟩];rw [z0] at O;have O0:=qH O;have S0:=qH (Ab (Ab (Aa.refl w) (.cells #[.string c,.string k,.int .i64 ht,.bool fr] 41)) (.cells #[.string ⟨#[]⟩,.int .i64 0,.int .i64 0,.string ⟨#[]⟩,.string ⟨#[]⟩] 34));clear z0 O;go_enter Tryz.func49,Tryz.ntmps49
 go_wp2_with fail
 refine(P1.out _ S0.out).mono ?_;rintro en w1 ⟨rfl,q⟩;have C1:=qH ((C0.out.next q.below).alloc (.cells #[.string h1,.int .i64 h2,.int .i64 h3,.string h4,.string h5] 34));have O1:=qH ((O0.out.next q.below).alloc (.cells #[.string h1,.int .i64 h2,.int .i64 h3,.string h4,.string h5] 34));have S1:=qH (Ab (Ac S0.out q) (.cells #[.string h1,.int .i64 h2,.int .i64 h3,.string h4,.string h5] 34));have X1:=qH (Blk.new w1 34 #[.string h1,.int .i64 h2,.int .i64 h3,.string h4,.string h5]);clear C0 O0 S0 P1 q;by_cases he:e=0
 ·subst he
  have y0:(w1.alloc (.cells #[.string h1,.int .i64 h2,.int .i64 h3,.string h4,.string h5] 34)).cell? ⟨w.heap.size,0,none⟩=some (.string c):=C1.out.c 0 rfl;have y1:(w1.alloc (.cells #[.string h1,.int .i64 h2,.int .i64 h3,.string h4,.string h5] 34)).cell? ⟨w.heap.size,1,none⟩=some (.string k):=C1.out.c 1 rfl;have x0:(w1.alloc (.cells #[.string h1,.int .i64 h2,.int .i64 h3,.string h4,.string h5] 34)).cell? ⟨w1.heap.size,0,none⟩=some (.string h1):=X1.out.c 0 rfl;have x1:(w1.alloc (.cells #[.string h1,.int .i64 h2,.int .i64 h3,.string h4,.string h5] 34)).cell? ⟨w1.heap.size,1,none⟩=some (.int .i64 h2):=X1.out.c 1 rfl;have x2:(w1.alloc (.cells #[.string h1,.int .i64 h2,.int .i64 h3,.string h4,.string h5] 34)).cell? ⟨w1.heap.size,2,none⟩=some (.int .i64 h3):=X1.out.c 2 rfl;have x3:(w1.alloc (.cells #[.string h1,.int .i64 h2,.int .i64 h3,.string h4,.string h5] 34)).cell? ⟨w1.heap.size,3,none⟩=some (.string h4):=X1.out.c 3 rfl;have x4:(w1.alloc (.cells #[.string h1,.int .i64 h2,.int .i64 h3,.string h4,.string h5] 34)).cell? ⟨w1.heap.size,4,none⟩=some (.string h5):=X1.out.c 4 rfl;by_cases hc:h1=c
  ·subst hc
   go_wp2_with fail
   refine(P2.out _ S1.out).mono ?_;rintro en w2 ⟨rfl,q⟩;have O2:=qH (O1.out.next q.below);have X2:=qH (X1.out.next q.below);have S2:=qH (Ac S1.out q);clear P2 q C1 O1 X1 S1 x0 x1 x2 x3 x4 y0 y1;have d0:w2.cell? ⟨w.heap.size+1,0,none⟩=some (.string ⟨#[]⟩):=O2.out.c 0 rfl;have d1:w2.cell? ⟨w.heap.size+1,1,none⟩=some (.int .i64 0):=O2.out.c 1 rfl;have d2:w2.cell? ⟨w.heap.size+1,2,none⟩=some (.int .i64 0):=O2.out.c 2 rfl;have d3:w2.cell? ⟨w.heap.size+1,3,none⟩=some (.string ⟨#[]⟩):=O2.out.c 3 rfl;have d4:w2.cell? ⟨w.heap.size+1,4,none⟩=some (.string ⟨#[]⟩):=O2.out.c 4 rfl;have f0:=O2.out.frozen 0;have f1:=O2.out.frozen 1;have f2:=O2.out.frozen 2;have f3:=O2.out.frozen 3;have f4:=O2.out.frozen 4;have x0:w2.cell? ⟨w1.heap.size,0,none⟩=some (.string h1):=X2.out.c 0 rfl;have x1:w2.cell? ⟨w1.heap.size,1,none⟩=some (.int .i64 h2):=X2.out.c 1 rfl;have x2:w2.cell? ⟨w1.heap.size,2,none⟩=some (.int .i64 h3):=X2.out.c 2 rfl;have x3:w2.cell? ⟨w1.heap.size,3,none⟩=some (.string h4):=X2.out.c 3 rfl;have x4:w2.cell? ⟨w1.heap.size,4,none⟩=some (.string h5):=X2.out.c 4 rfl;have DY:=qH (And.intro (CK O2.out (.string h1) (.int .i64 h2) (.int .i64 h3) (.string h4) (.string h5)) (AE (b:=w.heap.size+1) S2.out (by omega) (.string h1) (.int .i64 h2) (.int .i64 h3) (.string h4) (.string h5)));have D:=qH (And.intro (CK O2.out (.string ⟨#[]⟩) (.int .i64 0) (.int .i64 0) (.string ⟨#[]⟩) (.string ⟨#[]⟩)) (AE (b:=w.heap.size+1) S2.out (by omega) (.string ⟨#[]⟩) (.int .i64 0) (.int .i64 0) (.string ⟨#[]⟩) (.string ⟨#[]⟩)));clear O2 X2 S2
   cases g with
   | false =>
     have hr:=HR.out;rw [if_neg (by simp),if_pos (.inr rfl)] at hr;subst hr;clear HR;go_wp2;have D1:=D.out.1;refine bodyPost_ret (v:=FC (Hdr.zero,24)) (by simp [results,Tryz.results49,go_sem,FC,exV,hdV,Hdr.zero,D1.c 0 rfl,D1.c 1 rfl,D1.c 2 rfl,D1.c 3 rfl,D1.c 4 rfl]) rfl ?_;exact⟨rfl,D.out.2⟩
   | true =>
     by_cases hh:h2<1∨1099511627776<h2
     ·have hr:=HR.out
      rw [if_neg (by simp),if_neg (by simp),if_pos hh] at hr;subst hr;clear HR;have ha:MU h2=false:=decide_eq_false (by omega);have HA:=qH (fun W=>ha▸Fe h2 W);clear hh ha
      go_wp2_with fail
      refine(HA.out _).mono ?_;rintro en w3 ⟨rfl,rfl⟩;go_wp2
      all_goals have D1:=D.out.1
      all_goals refine bodyPost_ret (v:=FC (Hdr.zero,13)) (by simp [results,Tryz.results49,go_sem,FC,exV,hdV,Hdr.zero,D1.c 0 rfl,D1.c 1 rfl,D1.c 2 rfl,D1.c 3 rfl,D1.c 4 rfl]) rfl ?_
      all_goals exact⟨rfl,D.out.2⟩
     ·have hr:=HR.out
      rw [if_neg (by simp),if_neg (by simp),if_neg hh] at hr;subst hr;clear HR;have ha:MU h2=true:=decide_eq_true (by omega);have HA:=qH (fun W=>ha▸Fe h2 W);clear hh ha D
      go_wp2_with fail
      refine(HA.out _).mono ?_;rintro en w3 ⟨rfl,rfl⟩;go_wp2;have D:=DY;have D1:=D.out.1;refine bodyPost_ret (v:=FC (⟨h1,h2,h3,h4,h5⟩,0)) (by simp [results,Tryz.results49,go_sem,FC,exV,hdV,D1.c 0 rfl,D1.c 1 rfl,D1.c 2 rfl,D1.c 3 rfl,D1.c 4 rfl]) rfl ?_;exact⟨rfl,D.out.2⟩
  ·have hcb:=Nu hc
   have hr:=HR.out;rw [if_neg (by simp),if_pos (.inl hc)] at hr;subst hr;clear HR;have d0:(w1.alloc (.cells #[.string h1,.int .i64 h2,.int .i64 h3,.string h4,.string h5] 34)).cell? ⟨w.heap.size+1,0,none⟩=some (.string ⟨#[]⟩):=O1.out.c 0 rfl;have d1:(w1.alloc (.cells #[.string h1,.int .i64 h2,.int .i64 h3,.string h4,.string h5] 34)).cell? ⟨w.heap.size+1,1,none⟩=some (.int .i64 0):=O1.out.c 1 rfl;have d2:(w1.alloc (.cells #[.string h1,.int .i64 h2,.int .i64 h3,.string h4,.string h5] 34)).cell? ⟨w.heap.size+1,2,none⟩=some (.int .i64 0):=O1.out.c 2 rfl;have d3:(w1.alloc (.cells #[.string h1,.int .i64 h2,.int .i64 h3,.string h4,.string h5] 34)).cell? ⟨w.heap.size+1,3,none⟩=some (.string ⟨#[]⟩):=O1.out.c 3 rfl;have d4:(w1.alloc (.cells #[.string h1,.int .i64 h2,.int .i64 h3,.string h4,.string h5] 34)).cell? ⟨w.heap.size+1,4,none⟩=some (.string ⟨#[]⟩):=O1.out.c 4 rfl;have f0:=O1.out.frozen 0;have f1:=O1.out.frozen 1;have f2:=O1.out.frozen 2;have f3:=O1.out.frozen 3;have f4:=O1.out.frozen 4;have D:=qH (And.intro (CK O1.out (.string ⟨#[]⟩) (.int .i64 0) (.int .i64 0) (.string ⟨#[]⟩) (.string ⟨#[]⟩)) (AE (b:=w.heap.size+1) S1.out (by omega) (.string ⟨#[]⟩) (.int .i64 0) (.int .i64 0) (.string ⟨#[]⟩) (.string ⟨#[]⟩)));clear hc P2 C1 O1 X1 S1;go_wp2;have D1:=D.out.1;refine bodyPost_ret (v:=FC (Hdr.zero,24)) (by simp [results,Tryz.results49,go_sem,FC,exV,hdV,Hdr.zero,D1.c 0 rfl,D1.c 1 rfl,D1.c 2 rfl,D1.c 3 rfl,D1.c 4 rfl]) rfl ?_;exact⟨rfl,D.out.2⟩
 ·have heb:(e != 0)=true:=by rw [bne_iff_ne];exact he
  have hr:=HR.out;rw [if_pos he] at hr;subst hr;clear HR;have d0:(w1.alloc (.cells #[.string h1,.int .i64 h2,.int .i64 h3,.string h4,.string h5] 34)).cell? ⟨w.heap.size+1,0,none⟩=some (.string ⟨#[]⟩):=O1.out.c 0 rfl;have d1:(w1.alloc (.cells #[.string h1,.int .i64 h2,.int .i64 h3,.string h4,.string h5] 34)).cell? ⟨w.heap.size+1,1,none⟩=some (.int .i64 0):=O1.out.c 1 rfl;have d2:(w1.alloc (.cells #[.string h1,.int .i64 h2,.int .i64 h3,.string h4,.string h5] 34)).cell? ⟨w.heap.size+1,2,none⟩=some (.int .i64 0):=O1.out.c 2 rfl;have d3:(w1.alloc (.cells #[.string h1,.int .i64 h2,.int .i64 h3,.string h4,.string h5] 34)).cell? ⟨w.heap.size+1,3,none⟩=some (.string ⟨#[]⟩):=O1.out.c 3 rfl;have d4:(w1.alloc (.cells #[.string h1,.int .i64 h2,.int .i64 h3,.string h4,.string h5] 34)).cell? ⟨w.heap.size+1,4,none⟩=some (.string ⟨#[]⟩):=O1.out.c 4 rfl;have f0:=O1.out.frozen 0;have f1:=O1.out.frozen 1;have f2:=O1.out.frozen 2;have f3:=O1.out.frozen 3;have f4:=O1.out.frozen 4;have D:=qH (And.intro (CK O1.out (.string ⟨#[]⟩) (.int .i64 0) (.int .i64 0) (.string ⟨#[]⟩) (.string ⟨#[]⟩)) (AE (b:=w.heap.size+1) S1.out (by omega) (.string ⟨#[]⟩) (.int .i64 0) (.int .i64 0) (.string ⟨#[]⟩) (.string ⟨#[]⟩)))
  have hx:exV e=.iface 160 (.agg #[.int .i64 e]):=by unfold exV;rw [if_neg he]
  clear he P2 C1 O1 X1 S1;go_wp2;have D1:=D.out.1;refine bodyPost_ret (v:=FC (Hdr.zero,e)) (by simp [results,Tryz.results49,go_sem,FC,hx,hdV,Hdr.zero,D1.c 0 rfl,D1.c 1 rfl,D1.c 2 rfl,D1.c 3 rfl,D1.c 4 rfl]) rfl ?_;exact⟨rfl,D.out.2⟩
theorem YI (c:Clt) (raw:ByteArray) (w:World) (hR:Ba w) (hr:raw.size≤9223372036854775807) (hk:c.key.size≤1099511627776) :
  Calls qP 49 #[FZ c,.string raw] w fun en w'=>en=.returned (FC (Ud c raw))∧Aa w w':=by
 obtain⟨ch,k,ht,f⟩:=c;exact VD ch k raw ht (CR raw).1.chain (CR raw).1.height (CR raw).1.time (CR raw).1.root (CR raw).1.mac _ _ f w (qH fun W _=>fT raw W hr) (qH fun W hW=>fW k (CR raw).1 W (hR.since hW) hk)
structure Sp (w:World) (b:Nat) (s:ByteArray) (e:Int) (W:World):Prop where
 o:Blk W w.heap.size 62 #[.int .i64 0,.string ⟨#[]⟩]
 r:Rdg w b s e W
 lt:w.heap.size<b
section
variable {w W W':World} {b:Nat} {s s':ByteArray} {e e':Int}
theorem Sp.step (h:Sp w b s e W) {v:Value} {en:Ending} (k:CF W b v s' e' en W'):Sp w b s' e' W' :=
 ⟨h.o.grown k.2.2 (by have:=h.lt;intro x;injection x with x;omega),h.r.step k,h.lt⟩
theorem Sp.alloc (h:Sp w b s e W) (ob:Obj):Sp w b s e (W.alloc ob):=⟨h.o.alloc _,⟨h.r.q.alloc _,Ab h.r.s _,h.r.lt⟩,h.lt⟩
end
theorem bE (j:Nat) (id:ByteArray) (h:Int) (c1 c2:ByteArray) (c3:Int) (c4:Bool) (e:Int) (w:World) (he:e≠0)
  (C:Hid (∀ W,Aa w W→Calls qP 11 #[.pointer (some ⟨j,0,none⟩),.string id] W fun en w'=>en=.returned (.tuple #[.agg #[.string c1,.string c2,.int .i64 c3,.bool c4],.int .i64 e])∧Aa W w')) :
  Calls qP 21 #[.pointer (some ⟨j,0,none⟩),.string id,.int .i64 h] w fun en w'=>en=.returned (Ck (Sn.zero,e))∧Aa w w':=by
 have hb:(e != 0)=true:=by rw [bne_iff_ne];exact he
 clear he;have O0:=qH (Blk.new w 62 #[.int .i64 0,.string ⟨#[]⟩]);have S0:=qH (Ab (Aa.refl w) (.cells #[.int .i64 0,.string ⟨#[]⟩] 62));go_enter Tryz.func21,Tryz.ntmps21
 go_wp2_with fail
 refine(C.out _ S0.out).mono ?_;rintro en w1 ⟨rfl,q⟩;have O1:=qH ((O0.out.next q.below).alloc (.cells #[.string c1,.string c2,.int .i64 c3,.bool c4] 41));have S1:=qH (Ab (Ac S0.out q) (.cells #[.string c1,.string c2,.int .i64 c3,.bool c4] 41));clear C O0 S0 q;have d0:(w1.alloc (.cells #[.string c1,.string c2,.int .i64 c3,.bool c4] 41)).cell? ⟨w.heap.size,0,none⟩=some (.int .i64 0):=O1.out.c 0 rfl;have d1:(w1.alloc (.cells #[.string c1,.string c2,.int .i64 c3,.bool c4] 41)).cell? ⟨w.heap.size,1,none⟩=some (.string ⟨#[]⟩):=O1.out.c 1 rfl;have f0:=O1.out.frozen 0;have f1:=O1.out.frozen 1;have D:=qH (And.intro (put2 O1.out (.int .i64 0) (.string ⟨#[]⟩)) (Cp S1.out (Nat.le_refl _) (.int .i64 0) (.string ⟨#[]⟩)));clear O1 S1;go_wp2;have D1:=D.out.1;refine bodyPost_ret (v:=Ck (Sn.zero,e)) (by simp [results,Tryz.results21,go_sem,Ck,snV,Sn.zero,D1.c 0 rfl,D1.c 1 rfl]) rfl ?_;exact⟨rfl,D.out.2⟩
theorem bF (j:Nat) (id:ByteArray) (h:Int) (c1 c2:ByteArray) (c3:Int) (c4:Bool) (w:World) (hh:MU h=false)
  (C:Hid (∀ W,Aa w W→Calls qP 11 #[.pointer (some ⟨j,0,none⟩),.string id] W fun en w'=>en=.returned (.tuple #[.agg #[.string c1,.string c2,.int .i64 c3,.bool c4],.int .i64 0])∧Aa W w')) :
  Calls qP 21 #[.pointer (some ⟨j,0,none⟩),.string id,.int .i64 h] w fun en w'=>en=.returned (Ck (Sn.zero,13))∧Aa w w':=by
 have HA:=qH (fun W=>hh▸Fe h W);clear hh;have O0:=qH (Blk.new w 62 #[.int .i64 0,.string ⟨#[]⟩]);have S0:=qH (Ab (Aa.refl w) (.cells #[.int .i64 0,.string ⟨#[]⟩] 62));go_enter Tryz.func21,Tryz.ntmps21
 go_wp2_with fail
 refine(C.out _ S0.out).mono ?_;rintro en w1 ⟨rfl,q⟩;have O1:=qH ((O0.out.next q.below).alloc (.cells #[.string c1,.string c2,.int .i64 c3,.bool c4] 41));have S1:=qH (Ab (Ac S0.out q) (.cells #[.string c1,.string c2,.int .i64 c3,.bool c4] 41));clear C O0 S0 q;have d0:(w1.alloc (.cells #[.string c1,.string c2,.int .i64 c3,.bool c4] 41)).cell? ⟨w.heap.size,0,none⟩=some (.int .i64 0):=O1.out.c 0 rfl;have d1:(w1.alloc (.cells #[.string c1,.string c2,.int .i64 c3,.bool c4] 41)).cell? ⟨w.heap.size,1,none⟩=some (.string ⟨#[]⟩):=O1.out.c 1 rfl;have f0:=O1.out.frozen 0;have f1:=O1.out.frozen 1;have D:=qH (And.intro (put2 O1.out (.int .i64 0) (.string ⟨#[]⟩)) (Cp S1.out (Nat.le_refl _) (.int .i64 0) (.string ⟨#[]⟩)));clear O1 S1
 go_wp2_with fail
 refine(HA.out _).mono ?_;rintro en w3 ⟨rfl,rfl⟩;go_wp2;have D1:=D.out.1;refine bodyPost_ret (v:=Ck (Sn.zero,13)) (by simp [results,Tryz.results21,go_sem,Ck,snV,Sn.zero,D1.c 0 rfl,D1.c 1 rfl]) rfl ?_;exact⟨rfl,D.out.2⟩
theorem YJ (j:Nat) (id key v s1 s2:ByteArray) (g:Bool) (h:Int) (c1 c2:ByteArray) (c3:Int) (c4:Bool) (e1 e2:Int) (x1:Nat) (x2:ByteArray) (d:Int) (w:World) (hh:MU h=true)
  (C:Hid (∀ W,Aa w W→Calls qP 11 #[.pointer (some ⟨j,0,none⟩),.string id] W fun en w'=>en=.returned (.tuple #[.agg #[.string c1,.string c2,.int .i64 c3,.bool c4],.int .i64 0])∧Aa W w'))
  (K:Hid (∀ W,Aa w W→Calls qP 60 #[.string id,.int .i64 h] W fun e w'=>e=.returned (.string key)∧Aa W w'))
  (G:Hid (∀ W,Aa w W→Calls qP 33 #[.pointer (some ⟨j,0,none⟩),.string key] W fun e w'=>e=.returned (.tuple #[.string v,.bool g])∧w'=W))
  (N1:Hid (∀ W b,Ci W b v 0→Calls qP 37 #[.pointer (some ⟨b,0,none⟩)] W (CF W b (.int .i64 x1) s1 e1)))
  (N2:Hid (∀ W b,Ci W b s1 e1→Calls qP 36 #[.pointer (some ⟨b,0,none⟩)] W (CF W b (.string x2) s2 e2)))
  (N3:Hid (∀ W b,Ci W b s2 e2→Calls qP 38 #[.pointer (some ⟨b,0,none⟩)] W fun en w'=>en=.returned (.int .i64 d)∧W=w')) :
  Calls qP 21 #[.pointer (some ⟨j,0,none⟩),.string id,.int .i64 h] w fun e w'=>e=.returned (Ck (if d≠0 then (Sn.zero,13) else (⟨x1,x2⟩,0)))∧Aa w w':=by
 obtain⟨ans,hr⟩:∃ x:Sn×Int,x=(if d≠0 then (Sn.zero,13) else (⟨x1,x2⟩,0)):=⟨_,rfl⟩;rw [←hr];have HR:=qH hr;have HA:=qH (fun W=>hh▸Fe h W);clear hr hh;have O0:=qH (Blk.new w 62 #[.int .i64 0,.string ⟨#[]⟩]);have S0:=qH (Ab (Aa.refl w) (.cells #[.int .i64 0,.string ⟨#[]⟩] 62));go_enter Tryz.func21,Tryz.ntmps21
 go_wp2_with fail
 refine(C.out _ S0.out).mono ?_;rintro en w1 ⟨rfl,q⟩;have O1:=qH ((O0.out.next q.below).alloc (.cells #[.string c1,.string c2,.int .i64 c3,.bool c4] 41));have S1:=qH (Ab (Ac S0.out q) (.cells #[.string c1,.string c2,.int .i64 c3,.bool c4] 41));clear C O0 S0 q
 go_wp2_with fail
 refine(HA.out _).mono ?_;rintro en w2 ⟨rfl,rfl⟩
 go_wp2_with fail
 refine(K.out _ S1.out).mono ?_;rintro en w3 ⟨rfl,q⟩;have O2:=qH (O1.out.next q.below);have S2:=qH (Ac S1.out q);clear K O1 S1 q HA
 go_wp2_with fail
 refine(G.out _ S2.out).mono ?_;rintro e w4 ⟨rfl,rfl⟩;clear G
 go_wp2_with fail
 refine(new v _).mono ?_;rintro e w5 ⟨rfl,rfl⟩;have H:Hid (Sp w w4.heap.size v 0 (w4.alloc (.cells #[.string v,.int .i64 0] 149))):=qH ⟨O2.out.alloc _,Rdg.start S2.out v,O2.out.lt⟩;clear S2 O2;generalize (w4.alloc (.cells #[.string v,.int .i64 0] 149))=W0 at *;generalize w4.heap.size=b at *
 go_wp2_with fail
 refine(N1.out _ _ H.out.r.q).mono ?_;rintro e u4 q;have H1:=qH (H.out.step q);obtain⟨rfl,-,-⟩:=q;clear N1 H
 go_wp2_with fail
 refine(N2.out _ _ H1.out.r.q).mono ?_;rintro e u5 q;have H2:=qH (H1.out.step q);obtain⟨rfl,-,-⟩:=q;clear N2 H1
 go_wp2_with fail
 have B6:=qH (Blk.new u5 62 #[.int .i64 x1,.string x2]);have H3:=qH (H2.out.alloc (.cells #[.int .i64 x1,.string x2] 62));clear H2;refine(N3.out _ _ H3.out.r.q).mono ?_;rintro e u6 ⟨rfl,rfl⟩;clear N3;have y0:(u5.alloc (.cells #[.int .i64 x1,.string x2] 62)).cell? ⟨u5.heap.size,0,none⟩=some (.int .i64 x1):=B6.out.c 0 rfl;have y1:(u5.alloc (.cells #[.int .i64 x1,.string x2] 62)).cell? ⟨u5.heap.size,1,none⟩=some (.string x2):=B6.out.c 1 rfl;have d0:=H3.out.o.c 0 (v:=.int .i64 0) rfl;have d1:=H3.out.o.c 1 (v:=.string ⟨#[]⟩) rfl;have f0:=H3.out.o.frozen 0;have f1:=H3.out.o.frozen 1;have DZ:=qH (And.intro (put2 H3.out.o (.int .i64 0) (.string ⟨#[]⟩)) (Cp H3.out.r.s (Nat.le_refl _) (.int .i64 0) (.string ⟨#[]⟩)));have DY:=qH (And.intro (put2 H3.out.o (.int .i64 x1) (.string x2)) (Cp H3.out.r.s (Nat.le_refl _) (.int .i64 x1) (.string x2)));clear H3 B6;generalize u5.alloc (.cells #[.int .i64 x1,.string x2] 62)=W6 at *;by_cases hd:d=0
 ·subst hd
  have hr:=HR.out;rw [if_neg (by simp)] at hr;subst hr;clear HR DZ;go_wp2;have D1:=DY.out.1;refine bodyPost_ret (v:=Ck (⟨x1,x2⟩,0)) (by simp [results,Tryz.results21,go_sem,Ck,snV,D1.c 0 rfl,D1.c 1 rfl]) rfl ?_;exact⟨rfl,DY.out.2⟩
 ·have hdb:(d != 0)=true:=by rw [bne_iff_ne];exact hd
  have hr:=HR.out;rw [if_pos hd] at hr;subst hr;clear HR DY hd;go_wp2;have D1:=DZ.out.1;refine bodyPost_ret (v:=Ck (Sn.zero,13)) (by simp [results,Tryz.results21,go_sem,Ck,snV,Sn.zero,D1.c 0 rfl,D1.c 1 rfl]) rfl ?_;exact⟨rfl,DZ.out.2⟩
theorem Sq:UE ⟨#[]⟩=none:=by decide +kernel
theorem VE (o:Option ByteArray) {α:Type} (f:ByteArray→Option α) (h:f ⟨#[]⟩=none):o.bind f=f (o.getD ⟨#[]⟩):=by cases o<;>simp [h]
theorem YK {w:World} {S:Nat→Prop} {j m:Nat} {Lv:List (List KV)} {L:List KV} (hJ:Jr w S j Lv L m) (hs:BD L) (hL:ED w) (id:ByteArray) (hid:id.size≤1000000) (h:Int) :
  Calls qP 21 #[.pointer (some ⟨j,0,none⟩),.string id,.int .i64 h] w fun e w'=>e=.returned (Ck (Dn L id h))∧Aa w w':=by
 have C:=qH (fun W (hW:Aa w W)=>Qn (hJ.below hW.below) hs (hL.next hW.below) id hid);have hsz:=hs.get (Bf id h);unfold Dn;unfold Cb at C;obtain⟨⟨⟨c1,c2,c3,c4⟩,e⟩,hc⟩:∃ x,AA L id=x:=⟨_,rfl⟩;rw [hc] at C ⊢;simp only;by_cases he:e=0
 ·subst he
  rw [if_neg (by simp)];by_cases hh:h<1∨1099511627776<h
  ·rw [if_pos hh]
   exact bF j id h _ _ _ _ w (decide_eq_false (by omega)) C
  ·rw [if_neg hh]
   have k:=YJ j id (Bf id h) ((AD L (Bf id h)).getD ⟨#[]⟩) _ _ (AD L (Bf id h)).isSome h _ _ _ _ _ _ _ _ _ w (decide_eq_true (by omega)) C (qH fun W hW=>Ql id hid h W (hL.next hW.below)) (qH fun W hW=>fJ (Bf id h) (hJ.below hW.below)) (qH fun W b hR=>Gn b _ _ W hR (by omega)) (qH fun W b hR=>Gc b _ _ W hR (by have:=(Ay ((AD L (Bf id h)).getD ⟨#[]⟩) 0).2.1;omega)) (qH fun W b hR=>Ju b _ _ W hR);refine k.mono fun e w' ⟨he,hs⟩=>⟨?_,hs⟩;rw [he,VE _ _ Sq];unfold UE;simp only;by_cases hd:AG (Aj (Ao ((AD L (Bf id h)).getD ⟨#[]⟩) 0).1.1 (Ao ((AD L (Bf id h)).getD ⟨#[]⟩) 0).1.2).1.1 (Aj (Ao ((AD L (Bf id h)).getD ⟨#[]⟩) 0).1.1 (Ao ((AD L (Bf id h)).getD ⟨#[]⟩) 0).1.2).1.2=0
   ·rw [if_neg (by simp [hd]),if_neg (by simp [hd])]
   ·rw [if_pos hd,if_pos hd]
 ·rw [if_pos he]
  exact bE j id h _ _ _ _ e w he C
def VF (L:List KV) (id:ByteArray):Clt×Int:=if (AA L id).2≠0 then (Clt.zero,(AA L id).2) else if (AA L id).1.frozen=true then (Clt.zero,12) else ((AA L id).1,0)
theorem YL (j:Nat) (id:ByteArray) (c1 c2:ByteArray) (c3:Int) (c4:Bool) (e:Int) (w:World)
  (C:Hid (∀ W,Aa w W→Calls qP 11 #[.pointer (some ⟨j,0,none⟩),.string id] W fun en w'=>en=.returned (.tuple #[.agg #[.string c1,.string c2,.int .i64 c3,.bool c4],.int .i64 e])∧Aa W w')) :
  Calls qP 48 #[.pointer (some ⟨j,0,none⟩),.string id] w fun en w'=>en=.returned (Cb (if e≠0 then (Clt.zero,e) else if c4=true then (Clt.zero,12) else (⟨c1,c2,c3,c4⟩,0)))∧Aa w w':=by
 obtain⟨ans,hr⟩:∃ x:Clt×Int,x=(if e≠0 then (Clt.zero,e) else if c4=true then (Clt.zero,12) else (⟨c1,c2,c3,c4⟩,0)):=⟨_,rfl⟩;rw [←hr];have HR:=qH hr;clear hr;have O0:=qH (Blk.new w 41 #[.string ⟨#[]⟩,.string ⟨#[]⟩,.int .i64 0,.bool false]);have S0:=qH (Ab (Aa.refl w) (.cells #[.string ⟨#[]⟩,.string ⟨#[]⟩,.int .i64 0,.bool false] 41));go_enter Tryz.func48,Tryz.ntmps48
 go_wp2_with fail
 refine(C.out _ S0.out).mono ?_;rintro en w1 ⟨rfl,q⟩;have O1:=qH ((O0.out.next q.below).alloc (.cells #[.string c1,.string c2,.int .i64 c3,.bool c4] 41));have S1:=qH (Ab (Ac S0.out q) (.cells #[.string c1,.string c2,.int .i64 c3,.bool c4] 41));have C1:=qH (Blk.new w1 41 #[.string c1,.string c2,.int .i64 c3,.bool c4]);clear O0 S0 C q;have y0:=C1.out.c 0 (v:=.string c1) rfl;have y1:=C1.out.c 1 (v:=.string c2) rfl;have y2:=C1.out.c 2 (v:=.int .i64 c3) rfl;have y3:=C1.out.c 3 (v:=.bool c4) rfl;have d0:=O1.out.c 0 (v:=.string ⟨#[]⟩) rfl;have d1:=O1.out.c 1 (v:=.string ⟨#[]⟩) rfl;have d2:=O1.out.c 2 (v:=.int .i64 0) rfl;have d3:=O1.out.c 3 (v:=.bool false) rfl;have f0:=O1.out.frozen 0;have f1:=O1.out.frozen 1;have f2:=O1.out.frozen 2;have f3:=O1.out.frozen 3;have DZ:=qH (And.intro (put4 O1.out (.string ⟨#[]⟩) (.string ⟨#[]⟩) (.int .i64 0) (.bool false)) (Bv S1.out (Nat.le_refl _) (.string ⟨#[]⟩) (.string ⟨#[]⟩) (.int .i64 0) (.bool false)));have DY:=qH (And.intro (put4 O1.out (.string c1) (.string c2) (.int .i64 c3) (.bool c4)) (Bv S1.out (Nat.le_refl _) (.string c1) (.string c2) (.int .i64 c3) (.bool c4)));clear O1 S1 C1;by_cases he:e=0
 ·subst he
  cases c4 with
  | true =>
    have hr:=HR.out;rw [if_neg (by simp),if_pos rfl] at hr;subst hr;clear HR DY;go_wp2;have D1:=DZ.out.1;refine bodyPost_ret (v:=Cb (Clt.zero,12)) (by simp [results,Tryz.results48,go_sem,Cb,FZ,Clt.zero,D1.c 0 rfl,D1.c 1 rfl,D1.c 2 rfl,D1.c 3 rfl]) rfl ?_;exact⟨rfl,DZ.out.2⟩
  | false =>
    have hr:=HR.out;rw [if_neg (by simp),if_neg (by simp)] at hr;subst hr;clear HR DZ;go_wp2;have D1:=DY.out.1;refine bodyPost_ret (v:=Cb (⟨c1,c2,c3,false⟩,0)) (by simp [results,Tryz.results48,go_sem,Cb,FZ,D1.c 0 rfl,D1.c 1 rfl,D1.c 2 rfl,D1.c 3 rfl]) rfl ?_;exact⟨rfl,DY.out.2⟩
 ·have heb:(e != 0)=true:=by rw [bne_iff_ne];exact he
  have hr:=HR.out;rw [if_pos he] at hr;subst hr;clear HR DY he;go_wp2;have D1:=DZ.out.1;refine bodyPost_ret (v:=Cb (Clt.zero,e)) (by simp [results,Tryz.results48,go_sem,Cb,FZ,Clt.zero,D1.c 0 rfl,D1.c 1 rfl,D1.c 2 rfl,D1.c 3 rfl]) rfl ?_;exact⟨rfl,DZ.out.2⟩
theorem bG (j:Nat) (id pr:ByteArray) (h:Int) (c1 c2:ByteArray) (c3:Int) (c4:Bool) (e:Int) (w:World) (he:e≠0)
  (C:Hid (∀ W,Aa w W→Calls qP 48 #[.pointer (some ⟨j,0,none⟩),.string id] W fun en w'=>en=.returned (.tuple #[.agg #[.string c1,.string c2,.int .i64 c3,.bool c4],.int .i64 e])∧Aa W w')) :
  Calls qP 54 #[.pointer (some ⟨j,0,none⟩),.string id,.agg #[.int .i64 h,.string pr]] w fun en w'=>en=.returned (.tuple #[.string ⟨#[]⟩,.agg #[.int .i64 0,.int .i64 0,.bool false,.slice none 0 0,.slice none 0 0],.int .i64 e])∧Aa w w':=by
 have hb:(e != 0)=true:=by rw [bne_iff_ne];exact he
 clear he
 have z0:(w.alloc (.cells #[.int .i64 h,.string pr] 58)).heap.size=w.heap.size+1:=by simp
 have A0:=qH ((Blk.new w 58 #[.int .i64 h,.string pr]).alloc (.cells #[.int .i64 0,.int .i64 0,.bool false,.slice none 0 0,.slice none 0 0] 112));have O:=Blk.new (w.alloc (.cells #[.int .i64 h,.string pr] 58)) 112 #[.int .i64 0,.int .i64 0,.bool false,.slice none 0 0,.slice none 0 0];rw [z0] at O;have O0:=qH O;have S0:=qH (Ab (Ab (Aa.refl w) (.cells #[.int .i64 h,.string pr] 58)) (.cells #[.int .i64 0,.int .i64 0,.bool false,.slice none 0 0,.slice none 0 0] 112));clear z0 O;go_enter Tryz.func54,Tryz.ntmps54
 go_wp2_with fail
 refine(C.out _ S0.out).mono ?_;rintro en w1 ⟨rfl,q⟩;have A1':=qH ((A0.out.next q.below).alloc (.cells #[.string c1,.string c2,.int .i64 c3,.bool c4] 41));have O1:=qH ((O0.out.next q.below).alloc (.cells #[.string c1,.string c2,.int .i64 c3,.bool c4] 41));have S1:=qH (Ab (Ac S0.out q) (.cells #[.string c1,.string c2,.int .i64 c3,.bool c4] 41));have C1:=qH (Blk.new w1 41 #[.string c1,.string c2,.int .i64 c3,.bool c4]);clear A0 O0 S0 C q;have d0:(w1.alloc (.cells #[.string c1,.string c2,.int .i64 c3,.bool c4] 41)).cell? ⟨w.heap.size+1,0,none⟩=some (.int .i64 0):=O1.out.c 0 rfl;have d1:(w1.alloc (.cells #[.string c1,.string c2,.int .i64 c3,.bool c4] 41)).cell? ⟨w.heap.size+1,1,none⟩=some (.int .i64 0):=O1.out.c 1 rfl;have d2:(w1.alloc (.cells #[.string c1,.string c2,.int .i64 c3,.bool c4] 41)).cell? ⟨w.heap.size+1,2,none⟩=some (.bool false):=O1.out.c 2 rfl;have d3:(w1.alloc (.cells #[.string c1,.string c2,.int .i64 c3,.bool c4] 41)).cell? ⟨w.heap.size+1,3,none⟩=some (.slice none 0 0):=O1.out.c 3 rfl;have d4:(w1.alloc (.cells #[.string c1,.string c2,.int .i64 c3,.bool c4] 41)).cell? ⟨w.heap.size+1,4,none⟩=some (.slice none 0 0):=O1.out.c 4 rfl;have f0:=O1.out.frozen 0;have f1:=O1.out.frozen 1;have f2:=O1.out.frozen 2;have f3:=O1.out.frozen 3;have f4:=O1.out.frozen 4;have D:=qH (And.intro (CK O1.out (.int .i64 0) (.int .i64 0) (.bool false) (.slice none 0 0) (.slice none 0 0)) (AE (b:=w.heap.size+1) S1.out (by omega) (.int .i64 0) (.int .i64 0) (.bool false) (.slice none 0 0) (.slice none 0 0)));clear A1' O1 S1 C1;go_wp2;have D1:=D.out.1;refine bodyPost_ret (v:=.tuple #[.string ⟨#[]⟩,.agg #[.int .i64 0,.int .i64 0,.bool false,.slice none 0 0,.slice none 0 0],.int .i64 e]) (by simp [results,Tryz.results54,go_sem,D1.c 0 rfl,D1.c 1 rfl,D1.c 2 rfl,D1.c 3 rfl,D1.c 4 rfl]) rfl ?_;exact⟨rfl,D.out.2⟩
theorem bH (j:Nat) (id pr:ByteArray) (h:Int) (c1 c2:ByteArray) (c3:Int) (c4:Bool) (x1:Int) (x2:ByteArray) (e:Int) (w:World) (he:e≠0)
  (C:Hid (∀ W,Aa w W→Calls qP 48 #[.pointer (some ⟨j,0,none⟩),.string id] W fun en w'=>en=.returned (.tuple #[.agg #[.string c1,.string c2,.int .i64 c3,.bool c4],.int .i64 0])∧Aa W w'))
  (X:Hid (∀ W,Aa w W→Calls qP 21 #[.pointer (some ⟨j,0,none⟩),.string id,.int .i64 h] W fun en w'=>en=.returned (.tuple #[.agg #[.int .i64 x1,.string x2],.int .i64 e])∧Aa W w')) :
  Calls qP 54 #[.pointer (some ⟨j,0,none⟩),.string id,.agg #[.int .i64 h,.string pr]] w fun en w'=>en=.returned (.tuple #[.string ⟨#[]⟩,.agg #[.int .i64 0,.int .i64 0,.bool false,.slice none 0 0,.slice none 0 0],.int .i64 e])∧Aa w w':=by
 have hb:(e != 0)=true:=by rw [bne_iff_ne];exact he
 clear he
 have z0:(w.alloc (.cells #[.int .i64 h,.string pr] 58)).heap.size=w.heap.size+1:=by simp
 have A0:=qH ((Blk.new w 58 #[.int .i64 h,.string pr]).alloc (.cells #[.int .i64 0,.int .i64 0,.bool false,.slice none 0 0,.slice none 0 0] 112));have O:=Blk.new (w.alloc (.cells #[.int .i64 h,.string pr] 58)) 112 #[.int .i64 0,.int .i64 0,.bool false,.slice none 0 0,.slice none 0 0];rw [z0] at O;have O0:=qH O;have S0:=qH (Ab (Ab (Aa.refl w) (.cells #[.int .i64 h,.string pr] 58)) (.cells #[.int .i64 0,.int .i64 0,.bool false,.slice none 0 0,.slice none 0 0] 112));clear z0 O;go_enter Tryz.func54,Tryz.ntmps54
 go_wp2_with fail
 refine(C.out _ S0.out).mono ?_;rintro en w1 ⟨rfl,q⟩;have A1':=qH ((A0.out.next q.below).alloc (.cells #[.string c1,.string c2,.int .i64 c3,.bool c4] 41));have O1:=qH ((O0.out.next q.below).alloc (.cells #[.string c1,.string c2,.int .i64 c3,.bool c4] 41));have S1:=qH (Ab (Ac S0.out q) (.cells #[.string c1,.string c2,.int .i64 c3,.bool c4] 41));have C1:=qH (Blk.new w1 41 #[.string c1,.string c2,.int .i64 c3,.bool c4]);clear A0 O0 S0 C q;have a0:(w1.alloc (.cells #[.string c1,.string c2,.int .i64 c3,.bool c4] 41)).cell? ⟨w.heap.size,0,none⟩=some (.int .i64 h):=A1'.out.c 0 rfl
 go_wp2_with fail
 clear a0;refine(X.out _ S1.out).mono ?_;rintro en w2 ⟨rfl,q⟩;have n2:w.heap.size+1≠w2.heap.size:=Nat.ne_of_lt (Nat.lt_of_lt_of_le O1.out.lt q.below.size);have A2':=qH ((A1'.out.next q.below).alloc (.cells #[.int .i64 x1,.string x2] 62));have O2:=qH ((O1.out.next q.below).alloc (.cells #[.int .i64 x1,.string x2] 62));have S2:=qH (Ab (Ac S1.out q) (.cells #[.int .i64 x1,.string x2] 62));have X2:=qH (Blk.new w2 62 #[.int .i64 x1,.string x2]);clear A1' O1 S1 C1 X q;have d0:(w2.alloc (.cells #[.int .i64 x1,.string x2] 62)).cell? ⟨w.heap.size+1,0,none⟩=some (.int .i64 0):=O2.out.c 0 rfl;have d1:(w2.alloc (.cells #[.int .i64 x1,.string x2] 62)).cell? ⟨w.heap.size+1,1,none⟩=some (.int .i64 0):=O2.out.c 1 rfl;have d2:(w2.alloc (.cells #[.int .i64 x1,.string x2] 62)).cell? ⟨w.heap.size+1,2,none⟩=some (.bool false):=O2.out.c 2 rfl;have d3:(w2.alloc (.cells #[.int .i64 x1,.string x2] 62)).cell? ⟨w.heap.size+1,3,none⟩=some (.slice none 0 0):=O2.out.c 3 rfl;have d4:(w2.alloc (.cells #[.int .i64 x1,.string x2] 62)).cell? ⟨w.heap.size+1,4,none⟩=some (.slice none 0 0):=O2.out.c 4 rfl;have f0:=O2.out.frozen 0;have f1:=O2.out.frozen 1;have f2:=O2.out.frozen 2;have f3:=O2.out.frozen 3;have f4:=O2.out.frozen 4;have D:=qH (And.intro (CK O2.out (.int .i64 0) (.int .i64 0) (.bool false) (.slice none 0 0) (.slice none 0 0)) (AE (b:=w.heap.size+1) S2.out (by omega) (.int .i64 0) (.int .i64 0) (.bool false) (.slice none 0 0) (.slice none 0 0)));clear A2' O2 S2 X2;go_wp2;have D1:=D.out.1;refine bodyPost_ret (v:=.tuple #[.string ⟨#[]⟩,.agg #[.int .i64 0,.int .i64 0,.bool false,.slice none 0 0,.slice none 0 0],.int .i64 e]) (by simp [results,Tryz.results54,go_sem,D1.c 0 rfl,D1.c 1 rfl,D1.c 2 rfl,D1.c 3 rfl,D1.c 4 rfl]) rfl ?_;exact⟨rfl,D.out.2⟩
theorem bI (j:Nat) (id pr:ByteArray) (h:Int) (c1 c2:ByteArray) (c3:Int) (c4:Bool) (x1:Int) (x2:ByteArray) (x:Pf) (e:Int) (w:World) (he:e≠0)
  (C:Hid (∀ W,Aa w W→Calls qP 48 #[.pointer (some ⟨j,0,none⟩),.string id] W fun en w'=>en=.returned (.tuple #[.agg #[.string c1,.string c2,.int .i64 c3,.bool c4],.int .i64 0])∧Aa W w'))
  (X:Hid (∀ W,Aa w W→Calls qP 21 #[.pointer (some ⟨j,0,none⟩),.string id,.int .i64 h] W fun en w'=>en=.returned (.tuple #[.agg #[.int .i64 x1,.string x2],.int .i64 0])∧Aa W w'))
  (R:Hid (∀ W,Aa w W→Calls qP 99 #[.string pr] W fun en w'=>∃ n pos there A1 m1 k1 A2 m2 k2,en=.returned (.tuple #[.agg #[.int .i64 n,.int .i64 pos,.bool there,.slice A1 m1 k1,.slice A2 m2 k2],.int .i64 e])∧Prf w' (.agg #[.int .i64 n,.int .i64 pos,.bool there,.slice A1 m1 k1,.slice A2 m2 k2]) x∧Aa W w'∧BP W.heap.size (.agg #[.int .i64 n,.int .i64 pos,.bool there,.slice A1 m1 k1,.slice A2 m2 k2]))) :
  Calls qP 54 #[.pointer (some ⟨j,0,none⟩),.string id,.agg #[.int .i64 h,.string pr]] w fun en w'=>en=.returned (.tuple #[.string ⟨#[]⟩,.agg #[.int .i64 0,.int .i64 0,.bool false,.slice none 0 0,.slice none 0 0],.int .i64 11])∧Aa w w':=by
 have hb:(e != 0)=true:=by rw [bne_iff_ne];exact he
 clear he
 have z0:(w.alloc (.cells #[.int .i64 h,.string pr] 58)).heap.size=w.heap.size+1:=by simp
 have A0:=qH ((Blk.new w 58 #[.int .i64 h,.string pr]).alloc (.cells #[.int .i64 0,.int .i64 0,.bool false,.slice none 0 0,.slice none 0 0] 112));have O:=Blk.new (w.alloc (.cells #[.int .i64 h,.string pr] 58)) 112 #[.int .i64 0,.int .i64 0,.bool false,.slice none 0 0,.slice none 0 0];rw [z0] at O;have O0:=qH O;have S0:=qH (Ab (Ab (Aa.refl w) (.cells #[.int .i64 h,.string pr] 58)) (.cells #[.int .i64 0,.int .i64 0,.bool false,.slice none 0 0,.slice none 0 0] 112));clear z0 O;go_enter Tryz.func54,Tryz.ntmps54
 go_wp2_with fail
 refine(C.out _ S0.out).mono ?_;rintro en w1 ⟨rfl,q⟩;have A1':=qH ((A0.out.next q.below).alloc (.cells #[.string c1,.string c2,.int .i64 c3,.bool c4] 41));have O1:=qH ((O0.out.next q.below).alloc (.cells #[.string c1,.string c2,.int .i64 c3,.bool c4] 41));have S1:=qH (Ab (Ac S0.out q) (.cells #[.string c1,.string c2,.int .i64 c3,.bool c4] 41));have C1:=qH (Blk.new w1 41 #[.string c1,.string c2,.int .i64 c3,.bool c4]);clear A0 O0 S0 C q;have a0:(w1.alloc (.cells #[.string c1,.string c2,.int .i64 c3,.bool c4] 41)).cell? ⟨w.heap.size,0,none⟩=some (.int .i64 h):=A1'.out.c 0 rfl
 go_wp2_with fail
 clear a0;refine(X.out _ S1.out).mono ?_;rintro en w2 ⟨rfl,q⟩;have n2:w.heap.size+1≠w2.heap.size:=Nat.ne_of_lt (Nat.lt_of_lt_of_le O1.out.lt q.below.size);have A2':=qH ((A1'.out.next q.below).alloc (.cells #[.int .i64 x1,.string x2] 62));have O2:=qH ((O1.out.next q.below).alloc (.cells #[.int .i64 x1,.string x2] 62));have S2:=qH (Ab (Ac S1.out q) (.cells #[.int .i64 x1,.string x2] 62));have X2:=qH (Blk.new w2 62 #[.int .i64 x1,.string x2]);clear A1' O1 S1 C1 X q;have a1:(w2.alloc (.cells #[.int .i64 x1,.string x2] 62)).cell? ⟨w.heap.size,1,none⟩=some (.string pr):=A2'.out.c 1 rfl
 go_wp2_with fail
 clear a1;refine(R.out _ S2.out).mono ?_;rintro en w3 ⟨n,pos,there,A1,m1,k1,A2,m2,k2,rfl,hP,q,hF⟩;have FR:=qH hF;have nb:w.heap.size+1<(w2.alloc (.cells #[.int .i64 x1,.string x2] 62)).heap.size:=O2.out.lt;clear hF;have O3:=qH ((O2.out.next q.below).alloc (.cells #[.int .i64 n,.int .i64 pos,.bool there,.slice A1 m1 k1,.slice A2 m2 k2] 112));have X3:=qH ((X2.out.next q.below).alloc (.cells #[.int .i64 n,.int .i64 pos,.bool there,.slice A1 m1 k1,.slice A2 m2 k2] 112));have S3:=qH (Ab (Ac S2.out q) (.cells #[.int .i64 n,.int .i64 pos,.bool there,.slice A1 m1 k1,.slice A2 m2 k2] 112));have Q3:=qH (Blk.new w3 112 #[.int .i64 n,.int .i64 pos,.bool there,.slice A1 m1 k1,.slice A2 m2 k2]);have P3:=qH (hP.below ((Below.refl _ w3).alloc (Nat.le_refl _) (.cells #[.int .i64 n,.int .i64 pos,.bool there,.slice A1 m1 k1,.slice A2 m2 k2] 112)));clear A2' O2 S2 X2 R q hP;have d0:(w3.alloc (.cells #[.int .i64 n,.int .i64 pos,.bool there,.slice A1 m1 k1,.slice A2 m2 k2] 112)).cell? ⟨w.heap.size+1,0,none⟩=some (.int .i64 0):=O3.out.c 0 rfl;have d1:(w3.alloc (.cells #[.int .i64 n,.int .i64 pos,.bool there,.slice A1 m1 k1,.slice A2 m2 k2] 112)).cell? ⟨w.heap.size+1,1,none⟩=some (.int .i64 0):=O3.out.c 1 rfl;have d2:(w3.alloc (.cells #[.int .i64 n,.int .i64 pos,.bool there,.slice A1 m1 k1,.slice A2 m2 k2] 112)).cell? ⟨w.heap.size+1,2,none⟩=some (.bool false):=O3.out.c 2 rfl;have d3:(w3.alloc (.cells #[.int .i64 n,.int .i64 pos,.bool there,.slice A1 m1 k1,.slice A2 m2 k2] 112)).cell? ⟨w.heap.size+1,3,none⟩=some (.slice none 0 0):=O3.out.c 3 rfl;have d4:(w3.alloc (.cells #[.int .i64 n,.int .i64 pos,.bool there,.slice A1 m1 k1,.slice A2 m2 k2] 112)).cell? ⟨w.heap.size+1,4,none⟩=some (.slice none 0 0):=O3.out.c 4 rfl;have f0:=O3.out.frozen 0;have f1:=O3.out.frozen 1;have f2:=O3.out.frozen 2;have f3:=O3.out.frozen 3;have f4:=O3.out.frozen 4
 have D:=qH (And.intro (CK O3.out (.int .i64 0) (.int .i64 0) (.bool false) (.slice none 0 0) (.slice none 0 0)) (AE (b:=w.heap.size+1) S3.out (by omega) (.int .i64 0) (.int .i64 0) (.bool false) (.slice none 0 0) (.slice none 0 0)));clear O3 S3 X3 Q3 P3;go_wp2;have D1:=D.out.1;refine bodyPost_ret (v:=.tuple #[.string ⟨#[]⟩,.agg #[.int .i64 0,.int .i64 0,.bool false,.slice none 0 0,.slice none 0 0],.int .i64 11]) (by simp [results,Tryz.results54,go_sem,D1.c 0 rfl,D1.c 1 rfl,D1.c 2 rfl,D1.c 3 rfl,D1.c 4 rfl]) rfl ?_;exact⟨rfl,D.out.2⟩
theorem bL (j:Nat) (id pr:ByteArray) (h:Int) (c1 c2:ByteArray) (c3:Int) (c4:Bool) (x1:Int) (x2:ByteArray) (x:Pf) (w:World)
  (C:Hid (∀ W,Aa w W→Calls qP 48 #[.pointer (some ⟨j,0,none⟩),.string id] W fun en w'=>en=.returned (.tuple #[.agg #[.string c1,.string c2,.int .i64 c3,.bool c4],.int .i64 0])∧Aa W w'))
  (X:Hid (∀ W,Aa w W→Calls qP 21 #[.pointer (some ⟨j,0,none⟩),.string id,.int .i64 h] W fun en w'=>en=.returned (.tuple #[.agg #[.int .i64 x1,.string x2],.int .i64 0])∧Aa W w'))
  (R:Hid (∀ W,Aa w W→Calls qP 99 #[.string pr] W fun en w'=>∃ n pos there A1 m1 k1 A2 m2 k2,en=.returned (.tuple #[.agg #[.int .i64 n,.int .i64 pos,.bool there,.slice A1 m1 k1,.slice A2 m2 k2],.int .i64 0])∧Prf w' (.agg #[.int .i64 n,.int .i64 pos,.bool there,.slice A1 m1 k1,.slice A2 m2 k2]) x∧Aa W w'∧BP W.heap.size (.agg #[.int .i64 n,.int .i64 pos,.bool there,.slice A1 m1 k1,.slice A2 m2 k2]))) :
  Calls qP 54 #[.pointer (some ⟨j,0,none⟩),.string id,.agg #[.int .i64 h,.string pr]] w fun en w'=>∃ v,en=.returned (.tuple #[.string x2,v,.int .i64 0])∧Prf w' v x∧Aa w w':=by
 have z0:(w.alloc (.cells #[.int .i64 h,.string pr] 58)).heap.size=w.heap.size+1:=by simp
 have A0:=qH ((Blk.new w 58 #[.int .i64 h,.string pr]).alloc (.cells #[.int .i64 0,.int .i64 0,.bool false,.slice none 0 0,.slice none 0 0] 112));have O:=Blk.new (w.alloc (.cells #[.int .i64 h,.string pr] 58)) 112 #[.int .i64 0,.int .i64 0,.bool false,.slice none 0 0,.slice none 0 0];rw [z0] at O;have O0:=qH O;have S0:=qH (Ab (Ab (Aa.refl w) (.cells #[.int .i64 h,.string pr] 58)) (.cells #[.int .i64 0,.int .i64 0,.bool false,.slice none 0 0,.slice none 0 0] 112));clear z0 O;go_enter Tryz.func54,Tryz.ntmps54
 go_wp2_with fail
 refine(C.out _ S0.out).mono ?_;rintro en w1 ⟨rfl,q⟩;have A1':=qH ((A0.out.next q.below).alloc (.cells #[.string c1,.string c2,.int .i64 c3,.bool c4] 41));have O1:=qH ((O0.out.next q.below).alloc (.cells #[.string c1,.string c2,.int .i64 c3,.bool c4] 41));have S1:=qH (Ab (Ac S0.out q) (.cells #[.string c1,.string c2,.int .i64 c3,.bool c4] 41));have C1:=qH (Blk.new w1 41 #[.string c1,.string c2,.int .i64 c3,.bool c4]);clear A0 O0 S0 C q;have a0:(w1.alloc (.cells #[.string c1,.string c2,.int .i64 c3,.bool c4] 41)).cell? ⟨w.heap.size,0,none⟩=some (.int .i64 h):=A1'.out.c 0 rfl
 go_wp2_with fail
 clear a0;refine(X.out _ S1.out).mono ?_;rintro en w2 ⟨rfl,q⟩;have n2:w.heap.size+1≠w2.heap.size:=Nat.ne_of_lt (Nat.lt_of_lt_of_le O1.out.lt q.below.size);have A2':=qH ((A1'.out.next q.below).alloc (.cells #[.int .i64 x1,.string x2] 62));have O2:=qH ((O1.out.next q.below).alloc (.cells #[.int .i64 x1,.string x2] 62));have S2:=qH (Ab (Ac S1.out q) (.cells #[.int .i64 x1,.string x2] 62));have X2:=qH (Blk.new w2 62 #[.int .i64 x1,.string x2]);clear A1' O1 S1 C1 X q;have a1:(w2.alloc (.cells #[.int .i64 x1,.string x2] 62)).cell? ⟨w.heap.size,1,none⟩=some (.string pr):=A2'.out.c 1 rfl
 go_wp2_with fail
 clear a1;refine(R.out _ S2.out).mono ?_;rintro en w3 ⟨n,pos,there,A1,m1,k1,A2,m2,k2,rfl,hP,q,hF⟩;have FR:=qH hF;have nb:w.heap.size+1<(w2.alloc (.cells #[.int .i64 x1,.string x2] 62)).heap.size:=O2.out.lt;clear hF;have O3:=qH ((O2.out.next q.below).alloc (.cells #[.int .i64 n,.int .i64 pos,.bool there,.slice A1 m1 k1,.slice A2 m2 k2] 112));have X3:=qH ((X2.out.next q.below).alloc (.cells #[.int .i64 n,.int .i64 pos,.bool there,.slice A1 m1 k1,.slice A2 m2 k2] 112));have S3:=qH (Ab (Ac S2.out q) (.cells #[.int .i64 n,.int .i64 pos,.bool there,.slice A1 m1 k1,.slice A2 m2 k2] 112));have Q3:=qH (Blk.new w3 112 #[.int .i64 n,.int .i64 pos,.bool there,.slice A1 m1 k1,.slice A2 m2 k2]);have P3:=qH (hP.below ((Below.refl _ w3).alloc (Nat.le_refl _) (.cells #[.int .i64 n,.int .i64 pos,.bool there,.slice A1 m1 k1,.slice A2 m2 k2] 112)));clear A2' O2 S2 X2 R q hP;have d0:(w3.alloc (.cells #[.int .i64 n,.int .i64 pos,.bool there,.slice A1 m1 k1,.slice A2 m2 k2] 112)).cell? ⟨w.heap.size+1,0,none⟩=some (.int .i64 0):=O3.out.c 0 rfl;have d1:(w3.alloc (.cells #[.int .i64 n,.int .i64 pos,.bool there,.slice A1 m1 k1,.slice A2 m2 k2] 112)).cell? ⟨w.heap.size+1,1,none⟩=some (.int .i64 0):=O3.out.c 1 rfl;have d2:(w3.alloc (.cells #[.int .i64 n,.int .i64 pos,.bool there,.slice A1 m1 k1,.slice A2 m2 k2] 112)).cell? ⟨w.heap.size+1,2,none⟩=some (.bool false):=O3.out.c 2 rfl;have d3:(w3.alloc (.cells #[.int .i64 n,.int .i64 pos,.bool there,.slice A1 m1 k1,.slice A2 m2 k2] 112)).cell? ⟨w.heap.size+1,3,none⟩=some (.slice none 0 0):=O3.out.c 3 rfl;have d4:(w3.alloc (.cells #[.int .i64 n,.int .i64 pos,.bool there,.slice A1 m1 k1,.slice A2 m2 k2] 112)).cell? ⟨w.heap.size+1,4,none⟩=some (.slice none 0 0):=O3.out.c 4 rfl;have f0:=O3.out.frozen 0;have f1:=O3.out.frozen 1;have f2:=O3.out.frozen 2;have f3:=O3.out.frozen 3;have f4:=O3.out.frozen 4
 have p0:(w3.alloc (.cells #[.int .i64 n,.int .i64 pos,.bool there,.slice A1 m1 k1,.slice A2 m2 k2] 112)).cell? ⟨w3.heap.size,0,none⟩=some (.int .i64 n):=Q3.out.c 0 rfl;have p1:(w3.alloc (.cells #[.int .i64 n,.int .i64 pos,.bool there,.slice A1 m1 k1,.slice A2 m2 k2] 112)).cell? ⟨w3.heap.size,1,none⟩=some (.int .i64 pos):=Q3.out.c 1 rfl;have p2:(w3.alloc (.cells #[.int .i64 n,.int .i64 pos,.bool there,.slice A1 m1 k1,.slice A2 m2 k2] 112)).cell? ⟨w3.heap.size,2,none⟩=some (.bool there):=Q3.out.c 2 rfl;have p3:(w3.alloc (.cells #[.int .i64 n,.int .i64 pos,.bool there,.slice A1 m1 k1,.slice A2 m2 k2] 112)).cell? ⟨w3.heap.size,3,none⟩=some (.slice A1 m1 k1):=Q3.out.c 3 rfl;have p4:(w3.alloc (.cells #[.int .i64 n,.int .i64 pos,.bool there,.slice A1 m1 k1,.slice A2 m2 k2] 112)).cell? ⟨w3.heap.size,4,none⟩=some (.slice A2 m2 k2):=Q3.out.c 4 rfl;have b1:(w3.alloc (.cells #[.int .i64 n,.int .i64 pos,.bool there,.slice A1 m1 k1,.slice A2 m2 k2] 112)).cell? ⟨w2.heap.size,1,none⟩=some (.string x2):=X3.out.c 1 rfl;have D:=qH (And.intro (CK O3.out (.int .i64 n) (.int .i64 pos) (.bool there) (.slice A1 m1 k1) (.slice A2 m2 k2)) (AE (b:=w.heap.size+1) S3.out (by omega) (.int .i64 n) (.int .i64 pos) (.bool there) (.slice A1 m1 k1) (.slice A2 m2 k2)));have X4:=IN X3.out n2.symm (.int .i64 n) (.int .i64 pos) (.bool there) (.slice A1 m1 k1) (.slice A2 m2 k2);have b2:=X4.c 1 (v:=.string x2) rfl;have P4:=qH (P3.out.kept5 FR.out nb O3.out (.int .i64 n) (.int .i64 pos) (.bool there) (.slice A1 m1 k1) (.slice A2 m2 k2));clear S3 X3 Q3 O3 X4 n2 nb P3 FR
 go_wp2_with fail
 generalize w3.alloc (.cells #[.int .i64 n,.int .i64 pos,.bool there,.slice A1 m1 k1,.slice A2 m2 k2] 112)=V at *
 go_region
 all_goals go_wp2
 all_goals have D1:=CL D.out.1
 all_goals refine bodyPost_ret (v:=.tuple #[.string x2,.agg #[.int .i64 n,.int .i64 pos,.bool there,.slice A1 m1 k1,.slice A2 m2 k2],.int .i64 0]) (by simp [results,Tryz.results54,go_sem,D1.c 0 rfl,D1.c 1 rfl,D1.c 2 rfl,D1.c 3 rfl,D1.c 4 rfl]) rfl ?_
 all_goals exact⟨_,rfl,PR P4.out,Bg D.out.2⟩
section
variable {w:World} {S:Nat→Prop} {j m:Nat} {Lv:List (List KV)} {L:List KV}
theorem Ue (hJ:Jr w S j Lv L m) (hs:BD L) (hL:ED w) (id:ByteArray) (hid:id.size≤1000000) :
  Calls qP 48 #[.pointer (some ⟨j,0,none⟩),.string id] w fun e w'=>e=.returned (Cb (VF L id))∧Aa w w' :=
 YL j id (AA L id).1.chain (AA L id).1.key (AA L id).1.height (AA L id).1.frozen (AA L id).2 w (qH fun _ hW=>Qn (hJ.below hW.below) hs (hL.next hW.below) id hid)
theorem YM (id:ByteArray) (h:Int) (pr:ByteArray):AX L id h pr=if (VF L id).2≠0 then ((Pf.zero,⟨#[]⟩),(VF L id).2) else if (Dn L id h).2≠0 then ((Pf.zero,⟨#[]⟩),(Dn L id h).2) else if (FU pr).2≠0 then ((Pf.zero,⟨#[]⟩),11) else (((FU pr).1,(Dn L id h).1.root),0):=by
 unfold AX VF;by_cases h1:(AA L id).2≠0
 ·rw [if_pos h1,if_pos h1,if_pos h1]
 ·rw [if_neg h1,if_neg h1]
  by_cases h2:(AA L id).1.frozen=true
  ·rw [if_pos h2,if_pos h2,if_pos (by decide)]
  ·rw [if_neg h2,if_neg h2,if_neg (show ¬((AA L id).1,(0:Int)).2≠0 by simp)]
theorem VG (hJ:Jr w S j Lv L m) (hs:BD L) (hL:ED w) (id:ByteArray) (hid:id.size≤1000000) (h:Int) (pr:ByteArray) (hpr:pr.size≤9223372036854775807) :
  Calls qP 54 #[.pointer (some ⟨j,0,none⟩),.string id,.agg #[.int .i64 h,.string pr]] w fun en w'=>∃ v,en=.returned (.tuple #[.string (AX L id h pr).1.2,v,.int .i64 (AX L id h pr).2])∧Prf w' v (AX L id h pr).1.1∧Aa w w':=by
 have C:=qH (fun W (hW:Aa w W)=>Ue (hJ.below hW.below) hs (hL.next hW.below) id hid);have X:=qH (fun W (hW:Aa w W)=>YK (hJ.below hW.below) hs (hL.next hW.below) id hid h);have R:=qH (fun W (_:Aa w W)=>iB pr W hpr);rw [YM];unfold Cb FZ at C;unfold Ck snV at X;obtain⟨⟨⟨c1,c2,c3,c4⟩,e⟩,hc⟩:∃ x,VF L id=x:=⟨_,rfl⟩;obtain⟨⟨⟨x1,x2⟩,f⟩,hx⟩:∃ x,Dn L id h=x:=⟨_,rfl⟩;obtain⟨⟨p,g⟩,hg⟩:∃ x,FU pr=x:=⟨_,rfl⟩;rw [hc] at C;rw [hx] at X;rw [hg] at R;rw [hc,hx,hg];simp only at C X R ⊢;have zero:∀ {er:Int} {e:Ending} {w':World},e=.returned (.tuple #[.string ⟨#[]⟩,.agg #[.int .i64 0,.int .i64 0,.bool false,.slice none 0 0,.slice none 0 0],.int .i64 er])∧Aa w w'→∃ v,e=.returned (.tuple #[.string ⟨#[]⟩,v,.int .i64 er])∧Prf w' v Pf.zero∧Aa w w':=fun⟨he,hs⟩=>⟨_,he,Prf.zero _,hs⟩;by_cases he:e=0
 ·subst he
  rw [if_neg (by simp)];by_cases hf:f=0
  ·subst hf
   rw [if_neg (by simp)]
   have R2:=qH (fun W hW=>(R.out W hW).mono fun en w' (k:∃ v,en=.returned (.tuple #[v,.int .i64 g])∧Prf w' v p∧Aa W w'∧BP W.heap.size v)=>show ∃ n pos there A1 m1 k1 A2 m2 k2,en=.returned (.tuple #[.agg #[.int .i64 n,.int .i64 pos,.bool there,.slice A1 m1 k1,.slice A2 m2 k2],.int .i64 g])∧Prf w' (.agg #[.int .i64 n,.int .i64 pos,.bool there,.slice A1 m1 k1,.slice A2 m2 k2]) p∧Aa W w'∧BP W.heap.size (.agg #[.int .i64 n,.int .i64 pos,.bool there,.slice A1 m1 k1,.slice A2 m2 k2]) from by
    obtain⟨v,k1,k2,k3,k4⟩:=k;have k2':=k2;obtain⟨nv,pv,rfl,⟨B1,r1,rfl,_,_⟩,⟨B2,r2,rfl,_,_⟩⟩:=k2'
    exact⟨_,_,_,_,_,_,_,_,_,k1,k2,k3,k4⟩)
   by_cases hgz:g=0
   ·subst hgz
    rw [if_neg (by simp)];exact bL j id pr h c1 c2 c3 c4 x1 x2 p w C X R2
   ·rw [if_pos hgz]
    exact(bI j id pr h c1 c2 c3 c4 x1 x2 p g w hgz C X R2).mono fun _ _ k=>zero k
  ·rw [if_pos hf]
   exact(bH j id pr h c1 c2 c3 c4 x1 x2 f w hf C X).mono fun _ _ k=>zero k
 ·rw [if_pos he]
  exact(bG j id pr h c1 c2 c3 c4 e w he C).mono fun _ _ k=>zero k
theorem MV (hJ:Jr w S j Lv L m) (hs:BD L) (hL:ED w) (id:ByteArray) (hid:id.size≤1000000) (h:Int) (pr:ByteArray) (hpr:pr.size≤9223372036854775807) (W:World) (hW:Aa w W) :
  Calls qP 54 #[.pointer (some ⟨j,0,none⟩),.string id,.agg #[.int .i64 h,.string pr]] W fun en w'=>∃ n pos there A1 m1 k1 A2 m2 k2,en=.returned (.tuple #[.string (AX L id h pr).1.2,.agg #[.int .i64 n,.int .i64 pos,.bool there,.slice A1 m1 k1,.slice A2 m2 k2],.int .i64 (AX L id h pr).2])∧Prf w' (.agg #[.int .i64 n,.int .i64 pos,.bool there,.slice A1 m1 k1,.slice A2 m2 k2]) (AX L id h pr).1.1∧Aa W w' :=
 (VG (hJ.below hW.below) hs (hL.next hW.below) id hid h pr hpr).mono fun en w' ⟨v,k1,k2,k3⟩=>by
   have k2':=k2;obtain⟨nv,pv,rfl,⟨B1,r1,rfl,_,_⟩,⟨B2,r2,rfl,_,_⟩⟩:=k2';exact⟨_,_,_,_,_,_,_,_,_,k1,k2,k3⟩
end
end Go.Proofs.YtkejaepmoabikaaGreatDoor.W
namespace Go.Proofs.YtkejaepmoabikaaGreatDoor.W
theorem VH {L:List KV} {k v:ByteArray} (hu:Up L) (h:AD L k=some v):Az L k v=L:=by
 unfold AD at h
 cases hf:L.find? (fun x=>decide (x.1=k)) with
 | none=>rw [hf] at h;simp at h
 | some x =>
   rw [hf] at h;obtain⟨hx,A,B,rfl,_⟩:=List.find?_eq_some_iff_append.1 hf
   have h1:x.1=k:=by simpa using hx
   have h2:x.2=v:=by simpa using h
   rw [Mp hu (by rw [h1,DU]),←h1,←h2]
theorem Sr {v:ByteArray} {c:Clt} (h:Gm v=some c):v=bs (BC c)∧c.chain.size≤65536∧c.key.size≤65536∧0≤c.height∧c.height≤9007199254740992:=by
 unfold Gm at h;simp only at h;generalize ha:Aj v 0=a at h;generalize hb:Aj a.1.1 a.1.2=b at h;generalize hc:Ao b.1.1 b.1.2=d at h;generalize hd:Ao d.1.1 d.1.2=f at h
 split at h
 ·cases h
 ·rename_i hn
  have hn0:AG f.1.1 f.1.2=0:=Classical.not_not.1 fun e=>hn (.inl e);have hf1:¬1<f.2:=fun e=>hn (.inr e)
  have e4:f.1.2=0:=Classical.not_not.1 fun e=>by unfold AG at hn0;rw [if_pos e] at hn0;exact e hn0
  rw [e4] at hn0;have z4:=Oi _ hn0
  have e3:d.1.2=0:=Classical.not_not.1 fun e=>by rw [Do _ e] at hd;rw [←hd] at e4;exact e e4
  have e2:b.1.2=0:=Classical.not_not.1 fun e=>by rw [Do _ e] at hc;rw [←hc] at e3;exact e e3
  have e1:a.1.2=0:=Classical.not_not.1 fun e=>by rw [FK _ e] at hb;rw [←hb] at e2;exact e e2
  rw [e1] at hb;rw [e2] at hc;rw [e3] at hd;obtain⟨t1,l1⟩:=KH v (by rw [ha];exact e1);obtain⟨t2,l2⟩:=KH a.1.1 (by rw [hb];exact e2);obtain⟨t3,l3⟩:=Jj b.1.1 (by rw [hc];exact e3);obtain⟨t4,l4⟩:=Jj d.1.1 (by rw [hd];exact e4);rw [ha] at t1 l1;rw [hb] at t2 l2;rw [hc] at t3 l3;rw [hd,z4] at t4
  cases h
  refine⟨?_,l1,l2,Int.natCast_nonneg _,by simp only;omega⟩;rw [←Ch v,t1,t2,t3,t4];unfold BC;rw [Fz l1,Fz l2,Fy (Int.natCast_nonneg _) (by omega),Fy (by unfold fz;split<;>omega) (by unfold fz;split<;>omega)]
  have h5:(fz (decide (f.2=1))).toNat=f.2:=by
   unfold fz;by_cases h6:f.2=1
   ·simp [h6]
   ·have:f.2=0:=by omega
    simp [this]
  rw [h5];simp [Bs]
theorem YN {L:List KV} {id:ByteArray} (h:(AA L id).2=0):AD L (BN id)=some (bs (BC (AA L id).1))∧(AA L id).1.chain.size≤65536∧(AA L id).1.key.size≤65536∧0≤(AA L id).1.height∧(AA L id).1.height≤9007199254740992:=by
 unfold AA at *
 cases hl:AD L (BN id) with
 | none=>rw [hl] at h;simp at h
 | some v =>
   cases hr:Gm v with
   | none=>rw [hl] at h;simp [hr] at h
   | some c =>
     simp only [Option.bind_some,hr];obtain⟨h1,h2⟩:=Sr hr;exact⟨by rw [h1],h2⟩
theorem YO {L:List KV} {id:ByteArray} (hu:Up L) (hg:(AA L id).2=0) {h:Int} {v:ByteArray} (hh:h≤(AA L id).1.height) :
  Az (Az L (Bf id h) v) (BN id) (bs (BC ⟨(AA L id).1.chain,(AA L id).1.key,max (AA L id).1.height h,(AA L id).1.frozen⟩))=Az L (Bf id h) v:=by
 rw [show max (AA L id).1.height h=(AA L id).1.height by omega];refine VH (FP hu) ?_;rw [Bw,if_neg (Dv _ _ _)];exact(YN hg).1
theorem CO (s:ByteArray):(Ai s).1.length≤s.size+8:=by
 unfold Ai
 split
 ·rename_i h
  have:=Cr s.data.toList.length 7 (by rw [Ah];omega)
  show(num s.data.toList.length++s.data.toList).length≤s.size+8
  rw [List.length_append,Di,Ah] at *
  omega
 ·exact Nat.zero_le _
theorem YP (c:Clt):(bs (BC c)).size≤c.chain.size+c.key.size+32:=by
 have h1:=CO c.chain;have h2:=CO c.key;have h3:=Au c.height;have h4:=Au (fz c.frozen);rw [Aw];unfold BC;simp only [List.length_append]
 omega
theorem Kt (t:Int) (r:ByteArray):(bs (Ec t r)).size≤r.size+16:=by
 have h1:=CO r;have h3:=Au t;rw [Aw];unfold Ec;simp only [List.length_append]
 omega
theorem MW (id:ByteArray):(BN id).size≤2*id.size+14:=by
 unfold BN;rw [Aw];have h:=IC Gq [id];have hw:Gq.size=6:=rfl
 have:tot Gq [id]=id.size+7:=by simp only [tot,List.map_cons,List.map_nil,List.sum_cons,List.sum_nil,List.length_cons,List.length_nil,hw];omega
 omega
theorem Gh (id:ByteArray) (n:Int):(Bf id n).size≤2*id.size+40:=by
 unfold Bf;rw [Aw];have h:=IC La [id,nTx n];have h2:=Ns n;have hw:La.size=4:=rfl
 have:tot La [id,nTx n]=id.size+(nTx n).size+6:=by simp only [tot,List.map_cons,List.map_nil,List.sum_cons,List.sum_nil,List.length_cons,List.length_nil,hw];omega
 omega
theorem LP:Ce.size≤100:=by decide +kernel
theorem Ss (s:ByteArray) (e:Int):(Aj s e).2.size≤s.size:=by
 have h:=Dp s e 65536;unfold Aj;simp only
 split
 ·exact Nat.zero_le _
 ·split
  ·exact Nat.zero_le _
  ·simp only [←Ah,FJ,List.length_take,List.length_drop]
   rw [Ah,Ah]
   omega
theorem MX (s:ByteArray):(CR s).1.root.size≤s.size∧(CR s).1.root.size≤65536∧0≤(CR s).1.time∧(CR s).1.time≤9007199254740992:=by
 unfold CR;simp only
 split
 ·exact⟨Nat.zero_le _,Nat.zero_le _,Int.le_refl _,show(0:Int)≤9007199254740992 by decide⟩
 ·have z1:=(AV s 0).1
  have z2:=(Ay (Aj s 0).1.1 (Aj s 0).1.2).2.1;have z3:=Ay (Ao (Aj s 0).1.1 (Aj s 0).1.2).1.1 (Ao (Aj s 0).1.1 (Aj s 0).1.2).1.2;have z4:=Ss (Ao (Ao (Aj s 0).1.1 (Aj s 0).1.2).1.1 (Ao (Aj s 0).1.1 (Aj s 0).1.2).1.2).1.1 (Ao (Ao (Aj s 0).1.1 (Aj s 0).1.2).1.1 (Ao (Aj s 0).1.1 (Aj s 0).1.2).1.2).1.2;have z5:=(AV (Ao (Ao (Aj s 0).1.1 (Aj s 0).1.2).1.1 (Ao (Aj s 0).1.1 (Aj s 0).1.2).1.2).1.1 (Ao (Ao (Aj s 0).1.1 (Aj s 0).1.2).1.1 (Ao (Aj s 0).1.1 (Aj s 0).1.2).1.2).1.2).2;refine⟨by simp only;omega,z5,Int.natCast_nonneg _,by have:=z3.1;simp only;omega⟩
theorem Uf (h:Hdr):(Gk h).1.length≤h.chain.size+h.root.size+h.mac.size+48:=by
 unfold Gk Br;have b1:=CO h.chain;have b2:=Au h.height;have b3:=Au h.time;have b4:=CO h.root;have b5:=CO h.mac;have a1:=AZ ([],0) (Ai h.chain);have a2:=AZ (Ar ([],0) (Ai h.chain)) (Ag h.height);have a3:=AZ (Ar (Ar ([],0) (Ai h.chain)) (Ag h.height)) (Ag h.time);have a4:=AZ (Ar (Ar (Ar ([],0) (Ai h.chain)) (Ag h.height)) (Ag h.time)) (Ai h.root);have a5:=AZ (Ar (Ar (Ar (Ar ([],0) (Ai h.chain)) (Ag h.height)) (Ag h.time)) (Ai h.root)) (Ai h.mac);simp only [List.length_nil] at a1
 omega
theorem Qp {key:ByteArray} {h:Hdr} (hc:h.chain.size≤1000) (hr:h.root.size≤1000):(Ef key h).size≤3000:=by
 unfold Ef AO;rw [Aw]
 split
 ·have:=Uf Hdr.zero
  show(Gk Hdr.zero).1.length≤3000
  have e1:Hdr.zero.chain.size=0:=rfl;have e2:Hdr.zero.root.size=0:=rfl;have e3:Hdr.zero.mac.size=0:=rfl
  omega
 ·have:=Uf ⟨h.chain,h.height,h.time,h.root,bs (Ht key.data.toList (Br h).1)⟩
  have e3:(bs (Ht key.data.toList (Br h).1)).size=32:=by rw [Aw];exact Bc _
  simp only at *
  omega
end Go.Proofs.YtkejaepmoabikaaGreatDoor.W
namespace Go.Proofs.YtkejaepmoabikaaGreatDoor.W
open Go.RowKit
open Lib renaming hid → qH
open _root_.Go.Proofs.Tryz renaming prog → qP
structure Fit (w:World):Prop where
 roots:Ba w
 play:ED w
 lay:Lay w
 err:w.cell? ⟨0,0,none⟩=some bM
theorem Fit.since {w W:World} (h:Fit w) (k:Aa w W):Fit W:=⟨h.roots.since k,h.play.next k.below,h.lay.next k.below,k.cell h.err⟩
theorem Ug {V W w':World} {S:Nat→Prop} {j m:Nat} {Lv:List (List KV)} {L:List KV} (hb:Below V.heap.size V W) (h:Jm W S j Lv L m w'):Jm V S j Lv L m w':=by
 obtain⟨k,S',g,hj⟩:=h;exact⟨(At.of_below S hb).step k,S',(AR.refl S V).trans g hb.size,hj⟩
structure DK (c:Clt):Prop where
 chain:c.chain.size≤1000
 key:c.key.size≤60000
 low:0≤c.height
 high:c.height≤9007199254740992
theorem DK.size {c:Clt} (h:DK c):(bs (BC c)).size≤65536:=by have:=YP c;have:=h.chain;have:=h.key;omega
theorem bO (c:Clt) (h:DK c) (w:World):Calls qP 98 #[FZ c] w fun e w'=>e=.returned (.tuple #[.string (bs (BC c)),.int .i64 0])∧Aa w w':=by
 have e1:(Ai c.chain).2=0:=by unfold Ai;rw [if_pos (by have:=h.chain;omega)]
 have e2:(Ai c.key).2=0:=by unfold Ai;rw [if_pos (by have:=h.key;omega)]
 have e3:(Ag c.height).2=0:=by unfold Ag;rw [if_pos ⟨h.low,h.high⟩]
 have e4:(Ag (fz c.frozen)).2=0:=by unfold Ag fz;split<;>(rw [if_pos (by decide)])
 have t1:=AF c.chain;have t2:=AF c.key;have t3:=Au c.height;have t4:=Au (fz c.frozen);exact Yx c.chain c.key c.height c.frozen (fz c.frozen) rfl _ _ _ _ w (by omega) (by omega) (by omega) (by omega) (qH fun W=>e1▸Kx c.chain W) (qH fun W=>e2▸Kx c.key W) (qH fun W=>e3▸QB c.height W) (qH fun W=>e4▸QB (fz c.frozen) W) (qH fun W g hB=>or4 _ 0 0 0 0 W g hB)
section
variable {V w:World} {S:Nat→Prop} {j m:Nat} {L:List KV}
theorem YQ (hJ:Jr V S j [] L m) (hV:Aa V w) (hL:ED V) (id:ByteArray) (hid:id.size≤1000) (c:Clt) (hc:DK c) (v:Value) (P:List KV) (own:w.ownsRow V.heap.size 36 2 v P.length (AH P)) (hn:P.length≤5) (hz:∀ p ∈ P,p.1.size≤65536∧p.2.size≤65536) (hm:m+100≤1000000000) :
  Calls qP 52 #[.pointer (some ⟨j,0,none⟩),.string id,FZ c,v] w fun e w'=>e=.returned (.int .i64 0)∧Jm V S j [] (Az (Fl L P) (BN id) (bs (BC c))) (m+14) w'∧∀ g,g<w.heap.size→¬S g→v.ownBlock≠some g→w'.heap[g]?=w.heap[g]?:=by
 refine Sh V S j id (BN id) (bs (BC c)) c.chain c.key c.height c.frozen v P _ w hV own hn (qH fun W _=>bO c hc W) (qH fun W hW=>LO id (by omega) W (hL.next (Ac hV hW).below)) (qH fun W A cap hW hp hg=>?_)
 have hl:(P++[(BN id,bs (BC c))]).length=P.length+1:=by simp
 have hJ2:=hJ.below hW
 have hp2:Prs W (.slice A (P++[(BN id,bs (BC c))]).length cap) (P++[(BN id,bs (BC c))]):=by rw [hl];exact hp
 have hS:∀ g,(Value.slice A (P++[(BN id,bs (BC c))]).length cap).ownBlock=some g→g<W.heap.size∧¬S g:=fun g e=>by
  rw [hl] at e;exact⟨(hg g e).2,fun hs=>by have:=hJ.bound g hs;have:=(hg g e).1;omega⟩
 have k:=cW hJ2 hp2 hS (fun p hp=>by
  rcases List.mem_append.1 hp with hp|hp
  ·exact hz p hp
  ·obtain rfl:=List.mem_singleton.1 hp
   exact⟨by have:=MW id;show(BN id).size≤65536;omega,hc.size⟩) hm (by rw [hl];omega)
 rw [hl] at k;refine k.mono fun e w' ⟨he,h⟩=>⟨he,?_,h.1⟩
 have e2:Fl L (P++[(BN id,bs (BC c))])=Az (Fl L P) (BN id) (bs (BC c)):=by unfold Fl;rw [List.foldl_append];rfl
 rw [e2] at h;exact Ug hW (h.mono (by omega))
theorem Jb (W:World) {B:Nat} (b:Nat) (hb:B≤b) (x:KV) (h:Blk W b 36 #[.string x.1,.string x.2]):W.ownsRow B 36 2 (.slice (some ⟨b,0,none⟩) 1 1) [x].length (AH [x]) :=
 ⟨by simp [AH],.inr ⟨b,1,#[.string x.1,.string x.2],rfl,hb,h,by simp,by unfold maxLen;omega,by simp,by simp [AH]⟩⟩
def jM (L:List KV) (id:ByteArray) (c:Clt) (h:Hdr):List KV:=Az (Az L (Bf id h.height) (bs (Ec h.time h.root))) (BN id) (bs (BC ⟨c.chain,c.key,max c.height h.height,c.frozen⟩))
theorem jN (hJ:Jr V S j [] L m) (hV:Aa V w) (hL:ED V) (id:ByteArray) (hid:id.size≤1000) (hg:(AA L id).2=0) (hc:DK (AA L id).1) (h:Hdr) (h1:1≤h.height) (h2:h.height≤1099511627776) (h3:0≤h.time) (h4:h.time≤9007199254740992) (h5:h.root.size≤60000) (hm:m+100≤1000000000) :
  Calls qP 51 #[.pointer (some ⟨j,0,none⟩),.string id,FZ (AA L id).1,hdV h] w fun e w'=>e=.returned (.int .i64 0)∧Jm V S j [] (jM L id (AA L id).1 h) (m+14) w':=by
 have e1:(Ag h.time).2=0:=by unfold Ag;rw [if_pos ⟨h3,h4⟩]
 have e2:(Ai h.root).2=0:=by unfold Ai;rw [if_pos (by omega)]
 have t1:=Au h.time;have t2:=AF h.root
 have hk:(Bf id h.height).size≤65536:=by have:=Gh id h.height;omega
 have hs:(bs (Ec h.time h.root)).size≤65536:=by have:=Kt h.time h.root;omega
 have hup:=hJ.up;unfold jM;refine Yz j id (Bf id h.height) (AA L id).1.chain (AA L id).1.key (AA L id).1.height (AA L id).1.frozen h.chain h.height h.time h.root h.mac (Ag h.time).1 (Ai h.root).1 _ w (by omega) (by omega) (qH fun W _=>e1▸(QB h.time W).mono fun _ _ ⟨he,hb⟩=>⟨he,Ad hb⟩) (qH fun W _=>e2▸(Kx h.root W).mono fun _ _ ⟨he,hb⟩=>⟨he,Ad hb⟩) (qH fun W g hB=>or2 _ 0 0 W g hB) (qH fun W hW=>Ql id (by omega) h.height W (hL.next (Ac hV hW).below)) (fun hh=>qH fun W b hW hb hB=>?_) (fun hh=>qH fun W b hW hb hB=>?_)
 ·rw [YO hup hg hh]
  have hVW:=Ac hV hW;have hp:Prs W (.slice (some ⟨b,0,none⟩) [((Bf id h.height,bs (Ec h.time h.root)):KV)].length 1) [(Bf id h.height,bs (Ec h.time h.root))]:=Prs.of_own (Jb W (B:=0) b (Nat.zero_le _) (Bf id h.height,bs (Ec h.time h.root)) hB)
  have k:=cW (hJ.below hVW.below) hp (fun g e=>by
   have e2:b=g:=by simpa [Value.ownBlock] using e
   rw [←e2]
   exact⟨hB.lt,fun hs=>by have h7:=hJ.bound b hs;have h8:=hV.below.size;omega⟩) (fun p hp=>by obtain rfl:=List.mem_singleton.1 hp;exact⟨hk,hs⟩) hm (by simp)
  exact k.mono fun e w' ⟨he,h⟩=>⟨he,Ug hVW.below (h.mono (show m+2+2*1≤m+14 by omega))⟩
 ·have hc2:DK ⟨(AA L id).1.chain,(AA L id).1.key,h.height,(AA L id).1.frozen⟩:=⟨hc.chain,hc.key,by simp only;omega,by simp only;omega⟩
  have hVW:=Ac hV hW;rw [show max (AA L id).1.height h.height=h.height by omega];exact(YQ hJ hVW hL id hid _ hc2 _ _ (Jb W b (Nat.le_trans hV.below.size hb) (Bf id h.height,bs (Ec h.time h.root)) hB) (by simp) (fun p hp=>by obtain rfl:=List.mem_singleton.1 hp;exact⟨hk,hs⟩) hm).mono fun e w' ⟨he,h,_⟩=>⟨he,h⟩
theorem ck6 (l:List UInt8):ck 6 l=if plain l then 0 else 7:=Pm (.inr (.inr (.inr rfl))) l
theorem cY (hJ:Jr w S j [] L m) (hs:BD L) (E:Fit w) (chain key:ByteArray) (hc:chain.size≤1000000) (hk:key.size≤60000) (hn:AL L≤1000000000) (hm:m+100≤1000000000) :
  Calls qP 23 #[.pointer (some ⟨j,0,none⟩),.string chain,.string key] w fun e w'=>e=.returned (.tuple #[.string (IK L chain key).1.2,.int .i64 (IK L chain key).2])∧Jm w S j [] (IK L chain key).1.1 (m+14) w':=by
 unfold IK;by_cases hp:plain chain.data.toList=true
 ·have h0:ck 6 chain.data.toList=0:=by rw [ck6,if_pos hp]
  have hcs:chain.size≤64:=by
   unfold plain at hp;rw [Ah] at hp;simp only [Bool.and_eq_true,decide_eq_true_eq] at hp;exact hp.2
  rw [if_neg (by rw [h0];simp),if_neg (by omega)]
  have e1:(Ag ((AL L:Int)+1)).2=0:=by unfold Ag;rw [if_pos ⟨by omega,by omega⟩]
  have e2:(Ai key).2=0:=by unfold Ai;rw [if_pos (by omega)]
  have hmk:mkE 3 (AL L:Int)=0:=by unfold mkE;rw [if_neg (by decide +kernel),if_neg (by omega)]
  have hid:(bs (mkS 3 (AL L:Int))).size≤1000:=by
   rw [Aw];unfold mkS;rw [if_pos hmk,List.length_append,show(wd 3).length=7 by decide];have:=Fa (Int.toNat (AL L:Int)) (by omega)
   omega
  have hz:(bs (Ag ((AL L:Int)+1)).1).size≤65536:=by rw [Aw];have:=Au ((AL L:Int)+1);omega
  have hx:=LP;refine YD j chain key (bs (mkS 3 (AL L:Int))) Ce (bs (Ai key).1) (bs (Ag ((AL L:Int)+1)).1) (AL L) hn S _ w hJ.bound
   (qH fun W hW=>h0▸(WY 6 chain W (E.since hW).lay hc).mono fun _ _ ⟨he,hb⟩=>⟨he,Ad hb⟩)
   (qH fun W _=>e2▸(Kx key W).mono fun _ _ ⟨he,hb⟩=>⟨he,Ad hb⟩)
   (qH fun W hW=>YE (hJ.below hW.below) hs (E.since hW).play)
   (qH fun W hW=>hmk▸(hH 3 (AL L:Int) W (E.since hW).lay).mono fun _ _ ⟨he,hb⟩=>⟨he,Ad hb⟩)
   (qH fun W _=>e1▸(QB _ W).mono fun _ _ ⟨he,hb⟩=>⟨he,Ad hb⟩)
   (qH fun W g hB=>or2 _ 0 0 W g hB) (qH fun W hW=>Qk W (E.since hW).play) (qH fun W b hW hb hB=>?_)
  exact YQ hJ hW E.play _ hid ⟨chain,key,0,false⟩ ⟨by simp only;omega,hk,Int.le_refl _,show(0:Int)≤9007199254740992 by decide⟩ _ _ (Jb W b hb (Ce,bs (Ag ((AL L:Int)+1)).1) hB) (by simp) (fun p hp=>by obtain rfl:=List.mem_singleton.1 hp;exact⟨by show Ce.size≤65536;omega,hz⟩) hm
 ·have h0:ck 6 chain.data.toList=7:=by rw [ck6,if_neg hp]
  rw [if_pos (by rw [h0];decide)];exact(YC j chain key 7 (by decide) w (qH fun W hW=>h0▸(WY 6 chain W (E.since hW).lay hc).mono fun _ _ ⟨he,hb⟩=>⟨he,Ad hb⟩)).mono fun _ _ ⟨he,hb⟩=>⟨he,(Jm.of_below hJ hb.below).mono (by omega)⟩
theorem cZ (hJ:Jr w S j [] L m) (hs:BD L) (E:Fit w) (id raw:ByteArray) (hid:id.size≤1000) (hraw:raw.size≤60000) (hc:(AA L id).2=0→DK (AA L id).1) (hm:m+100≤1000000000) :
  Calls qP 16 #[.pointer (some ⟨j,0,none⟩),.string id,.string raw] w fun e w'=>e=.returned (.int .i64 (GJ L id raw).2)∧Jm w S j [] (GJ L id raw).1 (m+14) w':=by
 have stay:∀ {w':World},Aa w w'→Jm w S j [] L (m+14) w':=fun h=>(Jm.of_below hJ h.below).mono (by omega);have A:=qH (fun W (hW:Aa w W)=>Ue (hJ.below hW.below) hs (E.since hW).play id (by omega));unfold GJ;unfold VF at A;by_cases h1:(AA L id).2≠0
 ·rw [if_pos h1]
  rw [if_pos h1] at A;exact(YA j id raw _ _ _ _ _ h1 w A).mono fun _ _ ⟨he,hb⟩=>⟨he,stay hb⟩
 ·rw [if_neg h1]
  rw [if_neg h1] at A;have h1':(AA L id).2=0:=Classical.not_not.1 h1;have hC:=hc h1';by_cases h2:(AA L id).1.frozen=true
  ·rw [if_pos h2] at A
   have hh:(DH (AA L id).1 raw)=(Hdr.zero,12):=by unfold DH;rw [if_pos h2]
   rw [hh,if_pos (by decide)];exact(YA j id raw _ _ _ _ _ (by decide) w A).mono fun _ _ ⟨he,hb⟩=>⟨he,stay hb⟩
  ·rw [if_neg h2] at A
   rw [VC (by simpa using h2)];have X:=qH (fun W (hW:Aa w W)=>YI (AA L id).1 raw W (E.since hW).roots (by omega) (by have:=hC.key;omega));obtain⟨⟨h,e⟩,hx⟩:∃ x,Ud (AA L id).1 raw=x:=⟨_,rfl⟩
   have hb:e=0→1≤h.height∧h.height≤1099511627776∧0≤h.time∧h.time≤9007199254740992∧h.root.size≤60000:=by
    intro he;have hz:=MX raw;unfold Ud at hx
    split at hx
    ·rename_i hn
     injection hx with _ hx
     exact absurd (hx.trans he) hn
    ·split at hx
     ·injection hx with _ hx
      rw [←hx] at he;exact absurd he (by decide)
     ·split at hx
      ·injection hx with _ hx
       rw [←hx] at he;exact absurd he (by decide)
      ·injection hx with hx _
       rw [←hx]
       omega
   rw [hx] at X ⊢;simp only;unfold FC exV at X;simp only at X;by_cases he:e=0
   ·subst he
    rw [if_neg (by simp)];rw [if_pos rfl] at X;obtain⟨b1,b2,b3,b4,b5⟩:=hb rfl;have SE:=qH (fun W (hW:Aa w W)=>YK (hJ.below hW.below) hs (E.since hW).play id (by omega) h.height);unfold Mz;obtain⟨⟨⟨x1,x2⟩,f⟩,hsee⟩:∃ x,Dn L id h.height=x:=⟨_,rfl⟩;rw [hsee] at SE ⊢;simp only;by_cases hf:f=0
    ·subst hf
     rw [if_pos rfl];by_cases hq:x1=h.time∧x2=h.root
     ·rw [if_pos hq]
      obtain⟨rfl,rfl⟩:=hq;exact(YB j id raw _ _ _ _ h.chain h.height h.time h.root h.mac w A X SE).mono fun _ _ ⟨he,hb⟩=>⟨he,stay hb⟩
     ·rw [if_neg hq]
      exact aZ j id raw _ _ _ _ h.chain h.height h.time h.root h.mac x1 x2 hq _ w A X SE (qH fun W hW=>(YQ hJ hW E.play id hid ⟨(AA L id).1.chain,(AA L id).1.key,(AA L id).1.height,true⟩ ⟨hC.chain,hC.key,hC.low,hC.high⟩ (.slice none 0 0) [] (World.ownsRow_nil _ _ _ _) (by simp) (fun p hp=>by cases hp) hm).mono fun _ _ ⟨he,h,_⟩=>⟨he,h⟩)
    ·rw [if_neg hf]
     exact aY j id raw _ _ _ _ h.chain h.height h.time h.root h.mac x1 x2 f hf _ w A X SE (qH fun W hW=>jN hJ hW E.play id hid h1' hC h b1 b2 b3 b4 b5 hm)
   ·rw [if_pos he]
    rw [if_neg he] at X;exact(fS j id raw _ _ _ _ h.chain h.height h.time h.root h.mac e w A X (qH fun W hW=>bN e W (E.since hW).err)).mono fun _ _ ⟨he,hb⟩=>⟨he,stay hb⟩
end
end Go.Proofs.YtkejaepmoabikaaGreatDoor.W
namespace Go.Proofs.YtkejaepmoabikaaGreatDoor.W
structure Jc (L:List KV) (k:Nat):Prop where
 sized:BD L
 len:L.length≤6+2*k
 ne:L≠[]
 cnt:AL L≤k+1
 clt:∀ id,(AA L id).2=0→DK (AA L id).1
theorem Ku (L:List KV) (k v:ByteArray):Az L k v≠[]:=by
 cases L with
 | nil=>simp [Az]
 | cons x r=>unfold Az;split;simp;split<;>simp
theorem JI {L:List KV} {k v:ByteArray} (h:Ce≠k):AL (Az L k v)=AL L:=by
 unfold AL;rw [Bw,if_neg h]
theorem Jc.more {L:List KV} {k:Nat} (h:Jc L k):Jc L (k+1):=⟨h.sized,by have:=h.len;omega,h.ne,by have:=h.cnt;omega,h.clt⟩
theorem Jd {L:List KV} {n k:Nat} {id:ByteArray} {c:Clt} (hs:BD L) (hl:L.length≤n) (hc:AL L≤k) (hf:∀ id,(AA L id).2=0→DK (AA L id).1) (hid:id.size≤1000) (h:DK c) :
  BD (Az L (BN id) (bs (BC c)))∧(Az L (BN id) (bs (BC c))).length≤n+1∧AL (Az L (BN id) (bs (BC c)))≤k∧∀ i,(AA (Az L (BN id) (bs (BC c))) i).2=0→DK (AA (Az L (BN id) (bs (BC c))) i).1:=by
 refine⟨BD.set hs (by have:=MW id;omega) (by have:=h.size;omega),?_,?_,fun i=>?_⟩
 ·have:=CJ (k:=BN id) (v:=bs (BC c)) L
  omega
 ·rw [JI (fun e=>Hl id e.symm)]
  exact hc
 ·by_cases e:i=id
  ·subst e
   rw [Kr (by have:=h.chain;omega) (by have:=h.key;omega) h.low h.high];exact fun _=>h
  ·rw [Ex (fun x=>e (Ja x))]
   exact hf i
theorem VI {L:List KV} {k:Nat} {id:ByteArray} {h:Hdr} (g:Jc L k) (hid:id.size≤1000) (hg:(AA L id).2=0) (h2:h.height≤1099511627776) (h3:h.root.size≤60000):Jc (Mz L id (AA L id).1 h).1 (k+1):=by
 have hc:=g.clt id hg;unfold Mz
 split
 ·split
  ·exact g.more
  ·obtain⟨a,b,c,d⟩:=Jd (id:=id) (c:=⟨(AA L id).1.chain,(AA L id).1.key,(AA L id).1.height,true⟩) g.sized g.len g.cnt g.clt hid ⟨hc.chain,hc.key,hc.low,hc.high⟩
   dsimp only;exact⟨a,by omega,Ku _ _ _,by omega,d⟩
 ·have s1:=BD.set g.sized (k:=Bf id h.height) (v:=bs (Ec h.time h.root)) (by have:=Gh id h.height;omega) (by have:=Kt h.time h.root;omega)
  have l1:=CJ (k:=Bf id h.height) (v:=bs (Ec h.time h.root)) L
  have c1:AL (Az L (Bf id h.height) (bs (Ec h.time h.root)))≤k+1:=by rw [JI (fun e=>Gg _ _ e.symm)];exact g.cnt
  have f1:∀ i,(AA (Az L (Bf id h.height) (bs (Ec h.time h.root))) i).2=0→DK (AA (Az L (Bf id h.height) (bs (Ec h.time h.root))) i).1:=fun i=>by rw [Ex (Dv _ _ _)];exact g.clt i
  obtain⟨a,b,c,d⟩:=Jd (id:=id) (c:=⟨(AA L id).1.chain,(AA L id).1.key,max (AA L id).1.height h.height,(AA L id).1.frozen⟩) s1 (n:=6+2*k+1) (by have:=g.len;omega) c1 f1 hid ⟨hc.chain,hc.key,Int.le_trans hc.low (Int.le_max_left ..),Int.max_le.2 ⟨hc.high,Int.le_trans h2 (by decide)⟩⟩;dsimp only;exact⟨a,by omega,Ku _ _ _,by omega,d⟩
theorem bP {c:Clt} {raw:ByteArray} (h:(DH c raw).2=0):0≤(DH c raw).1.height∧(DH c raw).1.height≤1099511627776∧(DH c raw).1.root.size≤raw.size:=by
 have hz:=MX raw;unfold DH at *
 split at h
 ·exact absurd h (by decide)
 ·rename_i h0
  rw [if_neg h0]
  split at h
  ·rename_i h1
   exact absurd h h1
  ·rename_i h1
   rw [if_neg h1]
   split at h
   ·exact absurd h (by decide)
   ·rename_i h2
    rw [if_neg h2]
    split at h
    ·exact absurd h (by decide)
    ·rename_i h3
     rw [if_neg h3];simp only
     omega
theorem Qq {L:List KV} {k:Nat} {id raw:ByteArray} (g:Jc L k) (hid:id.size≤1000) (hr:raw.size≤60000):Jc (GJ L id raw).1 (k+1):=by
 unfold GJ
 split
 ·exact g.more
 ·rename_i h1
  split
  ·exact g.more
  ·rename_i h2
   obtain⟨_,b,c⟩:=bP (Classical.not_not.1 h2);exact VI g hid (Classical.not_not.1 h1) b (by omega)
theorem YR {L:List KV} {k:Nat} {chain key:ByteArray} (g:Jc L k) (hk:key.size≤60000) (hb:k≤1000000):Jc (IK L chain key).1.1 (k+1):=by
 unfold IK
 split
 ·exact g.more
 ·rename_i h1
  split
  ·exact g.more
  ·have hcs:chain.size≤64:=by
    have h2:=Classical.not_not.1 h1;rw [ck6] at h2
    have hp:plain chain.data.toList=true:=by
     cases hq:plain chain.data.toList with
     | true=>rfl
     | false=>rw [hq] at h2;exact absurd h2 (by decide)
    unfold plain at hp;rw [Ah] at hp;simp only [Bool.and_eq_true,decide_eq_true_eq] at hp;exact hp.2
   have hx:=LP
   have hmk:mkE 3 (AL L:Int)=0:=by unfold mkE;rw [if_neg (by decide +kernel),if_neg (by have:=g.cnt;omega)]
   have hid:(bs (mkS 3 (AL L:Int))).size≤1000:=by
    rw [Aw];unfold mkS;rw [if_pos hmk,List.length_append,show(wd 3).length=7 by decide];have:=Fa (Int.toNat (AL L:Int)) (by have:=g.cnt;omega)
    omega
   have s1:=BD.set g.sized (k:=Ce) (v:=bs (Ag ((AL L:Int)+1)).1) (by omega) (by rw [Aw];have:=Au ((AL L:Int)+1);omega);have l1:=CJ (k:=Ce) (v:=bs (Ag ((AL L:Int)+1)).1) L
   have c1:AL (Az L Ce (bs (Ag ((AL L:Int)+1)).1))=AL L+1:=by
    have e:AL (Az L Ce (bs (Ag ((AL L:Int)+1)).1))=Fb (bs (Ag ((AL L+1:Nat):Int)).1):=by
     show Fb ((AD (Az L Ce (bs (Ag ((AL L:Int)+1)).1)) Ce).getD ⟨#[]⟩)=_
     rw [Bw,if_pos rfl]
     rfl
    rw [e];exact fO (by have:=g.cnt;omega)
   have f1:∀ i,(AA (Az L Ce (bs (Ag ((AL L:Int)+1)).1)) i).2=0→DK (AA (Az L Ce (bs (Ag ((AL L:Int)+1)).1)) i).1:=fun i=>by rw [Ex (Hl _)];exact g.clt i
   obtain⟨a,b,c,d⟩:=Jd (id:=bs (mkS 3 (AL L:Int))) (c:=⟨chain,key,0,false⟩) s1 (n:=6+2*k+1) (k:=k+2) (by have:=g.len;omega) (by rw [c1];have:=g.cnt;omega) f1 hid ⟨by simp only;omega,hk,Int.le_refl _,show(0:Int)≤9007199254740992 by decide⟩;dsimp only;exact⟨a,by omega,Ku _ _ _,by omega,d⟩
end Go.Proofs.YtkejaepmoabikaaGreatDoor.W
namespace Go.Proofs.YtkejaepmoabikaaGreatDoor.W
open Go.ChangeShapes Go.WideShapes Go.ChangeAt Go.RowKit Go.Deep
open _root_.Go.Proofs.Tryz renaming prog → qP
set_option maxRecDepth 100000
structure DR where
 kd:Int
 id:ByteArray
 h:Hdr
 key:ByteArray
 raw:ByteArray
 p1:ByteArray
 p2:ByteArray
 ht:Int
abbrev DR.cells (d:DR):Array Value:=jC d.kd d.id d.h d.key d.raw d.p1 d.p2 d.ht
def NR (w:World) (v:Value) (l:List DR):Prop :=
 ∃ A cap,v=.slice A l.length cap∧l.length≤cap∧∀ i (h:i<l.length),∃ b off,A=some ⟨b,off,none⟩∧∀(j:Nat) u,l[i].cells[j]?=some u→w.cell? ⟨b,off+(i*12+j),none⟩=some u
noncomputable def EO:Array Field:=match qP.underlying 38 with
 | some (.struct fs)=>fs
 | _=>#[]
theorem fZ:qP.underlying 38=some (.struct EO):=by kernel_rfl
theorem VK {α:Type} {cs:List α} (h:cs.length=12):∃ c0 c1 c2 c3 c4 c5 c6 c7 c8 c9 c10 c11,cs=[c0,c1,c2,c3,c4,c5,c6,c7,c8,c9,c10,c11]:=by
 match cs,h with
 | [c0,c1,c2,c3,c4,c5,c6,c7,c8,c9,c10,c11],_=>exact⟨c0,c1,c2,c3,c4,c5,c6,c7,c8,c9,c10,c11,rfl⟩
section
variable {H:Type} {enc:TypeId×Value→H} {w:World} {held:Bool}
theorem YV {n:Nat} {c0 c1 c2 c3 c4:Value} {y:DataW H×List MemPlace} (h:DataW.trod enc qP w 0 (fun _=>true) held n 34 [c0,c1,c2,c3,c4]=some y) :
  ∃ x:Hdr,c0=.string x.chain∧c1=.int .i64 x.height∧c2=.int .i64 x.time∧c3=.string x.root∧c4=.string x.mac:=by
 obtain⟨xs,n,_,_,_,hlen,hat⟩:=DataW.trod_struct fY h
 have hone:oneCellFields qP FE=true:=by kernel_rfl
 have hfive:FE.size=5:=by kernel_rfl
 have get:∀ j,j<5→∃ y,DataW.trod enc qP w 0 (fun _=>true) held n ((FE[j]?).getD default).type [[c0,c1,c2,c3,c4].getD j c0]=some y:=by
  intro j hj
  have e:FE[j]?=some ((FE[j]?).getD default):=by
   rw [Array.getElem?_eq_getElem (by omega)]
   rfl
  obtain⟨ho,hk⟩:=hone_of hone j _ e;have h1:=hat j _ e;rw [ho,hk,List.getElem?_eq_getElem (by omega)] at h1;refine⟨xs[j]'(by omega),?_⟩;rw [←h1]
  congr 1
  match j,hj with
  | 0,_=>rfl
  | 1,_=>rfl
  | 2,_=>rfl
  | 3,_=>rfl
  | 4,_=>rfl
 obtain⟨y0,r0⟩:=get 0 (by omega);obtain⟨y1,r1⟩:=get 1 (by omega);obtain⟨y2,r2⟩:=get 2 (by omega);obtain⟨y3,r3⟩:=get 3 (by omega);obtain⟨y4,r4⟩:=get 4 (by omega);clear get hat;obtain⟨a0,q0,_,_⟩:=DataW.trod_string (by kernel_rfl) r0;obtain⟨a1,q1,_,w1⟩:=DataW.trod_int (k:=.i64) (by kernel_rfl) r1;obtain⟨a2,q2,_,w2⟩:=DataW.trod_int (k:=.i64) (by kernel_rfl) r2;obtain⟨a3,q3,_,_⟩:=DataW.trod_string (by kernel_rfl) r3;obtain⟨a4,q4,_,_⟩:=DataW.trod_string (by kernel_rfl) r4;simp only [List.getD_cons_zero,List.getD_cons_succ,List.cons.injEq,and_true] at q0 q1 q2 q3 q4;exact⟨⟨a0,a1,a2,a3,a4⟩,q0,q1,q2,q3,q4⟩
theorem YW {n:Nat} {c0 c1:Value} {y:DataW H×List MemPlace} (h:DataW.trod enc qP w 0 (fun _=>true) held n 36 [c0,c1]=some y) :
  ∃ x:KV,c0=.string x.1∧c1=.string x.2:=by
 obtain⟨xs,n,_,_,_,hlen,hat⟩:=DataW.trod_struct Pz h
 have hone:oneCellFields qP BS=true:=by kernel_rfl
 have htwo:BS.size=2:=by kernel_rfl
 have get:∀ j,j<2→∃ y,DataW.trod enc qP w 0 (fun _=>true) held n ((BS[j]?).getD default).type [[c0,c1].getD j c0]=some y:=by
  intro j hj
  have e:BS[j]?=some ((BS[j]?).getD default):=by
   rw [Array.getElem?_eq_getElem (by omega)]
   rfl
  obtain⟨ho,hk⟩:=hone_of hone j _ e;have h1:=hat j _ e;rw [ho,hk,List.getElem?_eq_getElem (by omega)] at h1;refine⟨xs[j]'(by omega),?_⟩;rw [←h1]
  congr 1
  match j,hj with
  | 0,_=>rfl
  | 1,_=>rfl
 obtain⟨y0,r0⟩:=get 0 (by omega);obtain⟨y1,r1⟩:=get 1 (by omega);clear get hat;obtain⟨a0,q0,_,_⟩:=DataW.trod_string (by kernel_rfl) r0;obtain⟨a1,q1,_,_⟩:=DataW.trod_string (by kernel_rfl) r1;simp only [List.getD_cons_zero,List.getD_cons_succ,List.cons.injEq,and_true] at q0 q1;exact⟨(a0,a1),q0,q1⟩
theorem Qt {fuel:Nat} {cs:List Value} {d:DataW H×List MemPlace} (h:DataW.trod enc qP w 0 (fun _=>true) held fuel 38 cs=some d):∃ x:DR,cs=x.cells.toList:=by
 obtain⟨xs,n,_,_,hl,hlen,hat⟩:=DataW.trod_struct fZ h;have hl12:cs.length=12:=hl.trans (by kernel_rfl);obtain⟨c0,c1,c2,c3,c4,c5,c6,c7,c8,c9,c10,c11,rfl⟩:=VK hl12
 have hsz:EO.size=7:=by kernel_rfl
 have get:∀(j o k:Nat) (t:TypeId),j<7→EO[j]?=some ((EO[j]?).getD default)→((EO[j]?).getD default).offset=o→qP.cellsOf ((EO[j]?).getD default).type=k→((EO[j]?).getD default).type=t→∃ y,DataW.trod enc qP w 0 (fun _=>true) held n t (([c0,c1,c2,c3,c4,c5,c6,c7,c8,c9,c10,c11].drop o).take k)=some y:=by
  intro j o k t hj e ho hk ht;have h1:=hat j _ e;rw [ho,hk,ht,List.getElem?_eq_getElem (by omega)] at h1;exact⟨_,h1⟩
 obtain⟨y0,r0⟩:=get 0 0 1 _ (by omega) (by kernel_rfl) (by kernel_rfl) (by kernel_rfl) rfl;obtain⟨y1,r1⟩:=get 1 1 1 _ (by omega) (by kernel_rfl) (by kernel_rfl) (by kernel_rfl) rfl;obtain⟨y2,r2⟩:=get 2 2 5 34 (by omega) (by kernel_rfl) (by kernel_rfl) (by kernel_rfl) (by kernel_rfl);obtain⟨y3,r3⟩:=get 3 7 1 _ (by omega) (by kernel_rfl) (by kernel_rfl) (by kernel_rfl) rfl;obtain⟨y4,r4⟩:=get 4 8 1 _ (by omega) (by kernel_rfl) (by kernel_rfl) (by kernel_rfl) rfl;obtain⟨y5,r5⟩:=get 5 9 2 36 (by omega) (by kernel_rfl) (by kernel_rfl) (by kernel_rfl) (by kernel_rfl);obtain⟨y6,r6⟩:=get 6 11 1 _ (by omega) (by kernel_rfl) (by kernel_rfl) (by kernel_rfl) rfl;clear get hat;obtain⟨a0,q0,_,_⟩:=DataW.trod_int (k:=.i64) (by kernel_rfl) r0;obtain⟨a1,q1,_,_⟩:=DataW.trod_string (by kernel_rfl) r1;obtain⟨x,e0,e1,e2,e3,e4⟩:=YV r2;obtain⟨a3,q3,_,_⟩:=DataW.trod_string (by kernel_rfl) r3;obtain⟨a4,q4,_,_⟩:=DataW.trod_string (by kernel_rfl) r4;obtain⟨p,e5,e6⟩:=YW r5;obtain⟨a6,q6,_,_⟩:=DataW.trod_int (k:=.i64) (by kernel_rfl) r6;simp only [List.drop_zero,List.drop_succ_cons,List.take_succ_cons,List.take_zero,List.cons.injEq,and_true] at q0 q1 q3 q4 q6;subst q0 q1 q3 q4 q6 e0 e1 e2 e3 e4 e5 e6;exact⟨⟨a0,a1,x,a3,a4,p.1,p.2,a6⟩,rfl⟩
theorem VL {A:Option Addr} {len cap:Nat} {d:DataW H} {p:List MemPlace} (h:DataW.Trod enc qP w 0 (fun _=>true) held 23 (.slice A len cap) d p) :
  ∃ l:List DR,NR w (.slice A len cap) l∧l.length≤maxLen:=by
 obtain⟨fuel,hf⟩:=h
 rcases open_slice Tryz.underlying23 hf with⟨hcs,_⟩|⟨a,l,c,m,n,D,Pl,hcs,_,hl,hm,hmm,_,hx⟩
 ·simp [Value.cells] at hcs
  obtain⟨rfl,rfl,rfl⟩:=hcs;exact⟨[],⟨none,0,rfl,Nat.le_refl _,fun i hi=>absurd hi (by simp)⟩,Nat.zero_le _⟩
 ·simp [Value.cells] at hcs
  obtain⟨rfl,rfl,rfl⟩:=hcs;simp only [if_true] at hmm;subst hmm
  have hC:qP.cellsOf 38=12:=by kernel_rfl
  obtain⟨l,hll,hq⟩:=TF len (fun i (x:DR)=>∃ b off,some a=some ⟨b,off,none⟩∧∀(j:Nat) u,x.cells[j]?=some u→w.cell? ⟨b,off+(i*12+j),none⟩=some u) (fun i hi=>by
   obtain⟨cs,hc,hs⟩:=hx i (by omega);obtain⟨x,rfl⟩:=Qt hs;obtain⟨_,hlc,hat⟩:=World.cells?_some hc
   have hp:∃ b off,a=⟨b,off,none⟩:=by
    obtain⟨cs0,hc0,hs0⟩:=hx 0 (by omega);obtain⟨x0,rfl⟩:=Qt hs0;obtain⟨_,_,hat0⟩:=World.cells?_some hc0;have h1:=hat0 0 (by rw [hC];omega);rw [show(x0.cells.toList)[0]?=some (.int .i64 x0.kd) from rfl,add_add,show 0*qP.cellsOf 38+0=0 by omega] at h1;exact Lm h1
   obtain⟨b,off,rfl⟩:=hp;refine⟨x,b,off,rfl,fun j u hj=>?_⟩;have hjl:j<12:=(Array.getElem?_eq_some_iff.1 hj).1;have h1:=hat j (by rw [hC];exact hjl);rw [hC,add_add,MJ,Array.getElem?_toList,hj] at h1
   exact h1)
  subst hll;exact⟨l,⟨some a,_,rfl,hl,hq⟩,by omega⟩
end
end Go.Proofs.YtkejaepmoabikaaGreatDoor.W
namespace Go.Proofs.YtkejaepmoabikaaGreatDoor.W
open Go.ChangeShapes Go.WideShapes Go.RowKit
open _root_.Go.Proofs.Tryz renaming prog → qP
theorem Zc:(qP.globals[5]?).map (·.type)=some 309:=by kernel_rfl
theorem Zd:qP.cellsOf 309=20:=by kernel_rfl
theorem Ze:qP.cellsOf 224=1:=by kernel_rfl
theorem jV:qP.globalNamed "strconv.ErrSyntax"=some 3:=by kernel_rfl
theorem Zf:(qP.globals[3]?).map (·.type)=some 103:=by kernel_rfl
theorem jW:qP.globalNamed "strconv.ErrRange"=some 4:=by kernel_rfl
theorem Zg:(qP.globals[4]?).map (·.type)=some 103:=by kernel_rfl
theorem Qx:qP.cellsOf 316=1:=by kernel_rfl
theorem Qy:qP.cellsOf 9=1:=by kernel_rfl
theorem jY : "*" ++ "errors.errorString" = "*errors.errorString":=by decide
theorem Zh (u:TypeId) (h:qP.typeName? 3 u=some "*errors.errorString"):u=314 :=
 typeName_ptr_named (nm := "errors.errorString") (by rw [jY];kernel_rfl) (by kernel_rfl) (by decide) u (by rw [jY];exact h)
theorem bV:(Rows.laid_internal_strconv_uint64pow10:DataW Unit)=Lib.tabData .u64 Lib.pow10Tab:=by kernel_rfl
theorem VP:(Rows.laid_footbridge_sha_roots:DataW Unit)=Lib.tabData .u32 (kk.map fun x:Nat=>(x:Int)):=by kernel_rfl
theorem jZ:qP.globalNamed "errors.errorType"=some 0:=by kernel_rfl
theorem hRt:(qP.cutTypes.find? (·.1 == "internal/reflectlite.rtype")).map (·.2)=some 246:=by kernel_rfl
theorem lC:((List.range (449-100)).filter fun t=>qP.rowNamed t [101,114,114,111,114])=[103]:=by kernel_rfl
theorem kA:qP.types.size=449-100:=by kernel_rfl
theorem gE {W:World} (h:laidMetH qP Rows.clientNoneRow.laid W) (hS:W.ShapedOpen qP):Fit W:=by
 have h':laidMet qP [("math/bits.deBruijn32tab",Rows.laid_math_bits_deBruijn32tab),("math/bits.deBruijn64tab",Rows.laid_math_bits_deBruijn64tab),("footbridge/sha.roots",Rows.laid_footbridge_sha_roots),("internal/strconv.uint64pow10",Rows.laid_internal_strconv_uint64pow10),("unicode/utf8.acceptRanges",Rows.laid_unicode_utf8_acceptRanges),("strconv.ErrRange",Rows.laid_strconv_ErrRange),("strconv.ErrSyntax",Rows.laid_strconv_ErrSyntax),("unicode/utf8.first",Rows.laid_unicode_utf8_first)] W∧handlesMet qP [("errors.errorType",Rows.laid_errors_errorType)] W:=h;obtain⟨h1,hh⟩:=h';have h2:=h1.tail.tail;have h3:=h2.tail;rw [VP] at h2;have hr:Lib.TabIs qP W "footbridge/sha.roots" .u32 (kk.map fun x:Nat=>(x:Int)):=Lib.tabIs_of_head YH Sk Tryz.underlying226 Tryz.underlying188 bD Sl h2;obtain⟨a0,s0,hv0,-,-,-⟩:=laid_sentinel h3.tail.tail jW Zg Tryz.underlying103 Zh Tryz.underlying314 Tryz.underlying316 rfl rfl Tryz.underlying9 Qx Qy;obtain⟨a1,s1,hv1,-,-,-⟩:=laid_sentinel h3.tail.tail.tail jV Zf Tryz.underlying103 Zh Tryz.underlying314 Tryz.underlying316 rfl rfl Tryz.underlying9 Qx Qy;rw [bV] at h3;have hp:=Lib.tabIs_of_head gJ Zc Tryz.underlying309 Tryz.underlying224 Ze Zd h3;refine⟨fun i hi=>?_,⟨hp,cell_of_shapedOpen_int (g:=1) (t:=3) (zero:=#[.int .i64 0]) (k:=.i64) hS (by rw [show qP.globals.size=10 by kernel_rfl];decide) (by kernel_rfl) (by kernel_rfl) (by kernel_rfl) (by kernel_rfl) (by kernel_rfl)⟩,⟨hp,⟨_,_,by have h0:=World.var?_cell jV hv1 0;simpa using h0⟩,⟨_,_,by have h0:=World.var?_cell jW hv0 0;simpa using h0⟩⟩,?_⟩
 ·have hc:=hr.cell YH i hi
  rw [hc,VB]
 ·obtain⟨name,u,ty,e1,e2,e3,e4,e5⟩:=hh _ (List.mem_singleton.2 rfl)
  have en:name=[101,114,114,111,114]:=(Option.some.inj e1).symm;subst en;obtain rfl:=Option.some.inj (hRt.symm.trans e2);have hm:ty ∈ (List.range (449-100)).filter fun t=>qP.rowNamed t [101,114,114,111,114]:=List.mem_filter.2 ⟨List.mem_range.2 (by rw [←kA];exact e3),e4⟩;rw [lC] at hm;obtain rfl:=List.mem_singleton.1 hm
  have ht:typeHandle qP 103=.pointer (some ⟨10,103,none⟩):=by kernel_rfl
  rw [ht] at e5
  simpa using World.var?_cell jZ e5 0
end Go.Proofs.YtkejaepmoabikaaGreatDoor.W
