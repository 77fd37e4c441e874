import Derived.Deep.RegionHeld3
import Derived.Test.YtkejaepmoabikaaGreatDoorP0d
import Derived.Test.YtkejaepmoabikaaGreatDoorP0b
namespace Go.Proofs.YtkejaepmoabikaaGreatDoor.W
open Go.RowKit
open List renaming getElem_toArray → qA, getElem_cons_succ → qB, getElem_cons_zero → qC, setIfInBounds_toArray → qD, set_cons_zero → qE, set_cons_succ → qF
open Lib renaming hid → qH
open _root_.Go.Proofs.Tryz renaming prog → qP
set_option maxHeartbeats 4000000
set_option maxRecDepth 100000
theorem In {w W W':World} {b:Nat} (h:Aa w W) (k:W.grownBy W' (some b)) (hb:w.heap.size≤b):Aa w W':=Ad (Jf h.below k hb)
structure DB (w:World) (bx:Nat) (s:ByteArray) (e:Int) (n1 n2:Int) (t:Bool) (nv pv:Value) (W:World):Prop where
 res:Blk W w.heap.size 112 #[.int .i64 0,.int .i64 0,.bool false,.slice none 0 0,.slice none 0 0]
 rd:Ci W (w.heap.size+1) s e
 x:Blk W bx 112 #[.int .i64 n1,.int .i64 n2,.bool t,nv,pv]
 s:Aa w W
 lt:w.heap.size+1<bx
theorem DB.read {w W W':World} {bx:Nat} {s s':ByteArray} {e e' n1 n2:Int} {t:Bool} {nv pv:Value} (h:DB w bx s e n1 n2 t nv pv W) (hr:Ci W' (w.heap.size+1) s' e') (k:W.grownBy W' (some (w.heap.size+1))):DB w bx s' e' n1 n2 t nv pv W' :=
 have hlt:=h.lt
 ⟨h.res.grown k (by intro e;injection e with e;omega),hr,h.x.grown k (by intro e;injection e with e;omega),In h.s k (by omega),hlt⟩
theorem TG {s s1 s2 s3 s4:ByteArray} {e1 e2 e3 e4:Int} {n1 n2 n3 n4:Nat} (h1:Ao s 0=((s1,e1),n1)) (h2:Ao s1 e1=((s2,e2),n2)) (h3:Ao s2 e2=((s3,e3),n3)) (h4:Ao s3 e3=((s4,e4),n4)) :
  FU s=(if e4≠0 then (Pf.zero,e4) else if 1<n3∨2<n4∨(n3=1∧0<n4) then (Pf.zero,6) else Dm n1 n2 n3 (AN n4 (s4,e4) []).2 (AN n4 (s4,e4) []).1.1 (AN n4 (s4,e4) []).1.2):=by
 unfold FU;simp only [h1,h2,h3,h4]
theorem DP {w W:World} {bx:Nat} {s:ByteArray} {e n1 n2 er:Int} {t:Bool} {nv pv:Value} (h:DB w bx s e n1 n2 t nv pv W) :
  ∃ v,Ending.returned (.tuple #[.agg #[.int .i64 0,.int .i64 0,.bool false,.slice none 0 0,.slice none 0 0],.int .i64 er])=.returned (.tuple #[v,.int .i64 er])∧Prf (((((W.setCell ⟨w.heap.size,0,none⟩ (.int .i64 0)).setCell ⟨w.heap.size,1,none⟩ (.int .i64 0)).setCell ⟨w.heap.size,2,none⟩ (.bool false)).setCell ⟨w.heap.size,3,none⟩ (.slice none 0 0)).setCell ⟨w.heap.size,4,none⟩ (.slice none 0 0)) v Pf.zero∧Aa w (((((W.setCell ⟨w.heap.size,0,none⟩ (.int .i64 0)).setCell ⟨w.heap.size,1,none⟩ (.int .i64 0)).setCell ⟨w.heap.size,2,none⟩ (.bool false)).setCell ⟨w.heap.size,3,none⟩ (.slice none 0 0)).setCell ⟨w.heap.size,4,none⟩ (.slice none 0 0))∧BP w.heap.size v :=
 ⟨_,rfl,Prf.zero _,AE h.s (Nat.le_refl _) _ _ _ _ _,BP.nil⟩
theorem DB.drew {w W:World} {bx:Nat} {s:ByteArray} {e n1 n2:Int} {t:Bool} {nv pv:Value} (h:DB w bx s e n1 n2 t nv pv W):DB w bx s e n1 n2 t nv pv W.drew:=⟨h.res,h.rd,h.x,Ad (Below.drewN h.s.below 1),h.lt⟩
theorem DB.alloc {w W:World} {bx:Nat} {s:ByteArray} {e n1 n2:Int} {t:Bool} {nv pv:Value} (h:DB w bx s e n1 n2 t nv pv W) (o:Obj):DB w bx s e n1 n2 t nv pv (W.alloc o):=⟨h.res.alloc o,Blk.alloc h.rd o,h.x.alloc o,Ad (h.s.below.alloc h.s.2.2.2.1 o),h.lt⟩
theorem DB.grown {w W W':World} {bx:Nat} {s:ByteArray} {e n1 n2:Int} {t:Bool} {nv pv:Value} {row:Option Nat} (h:DB w bx s e n1 n2 t nv pv W) (k:W.grownBy W' row) (hr:∀ g,row=some g→bx<g):DB w bx s e n1 n2 t nv pv W':=by
 have hlt:=h.lt;exact⟨h.res.grown k (fun e=>by have:=hr _ e.symm;omega),Blk.grown h.rd k (fun e=>by have:=hr _ e.symm;omega),h.x.grown k (fun e=>by have:=hr _ e.symm;omega),Ad (h.s.below.grown k h.s.2.2.2.1 (fun g hg=>by have:=hr g hg;omega)),hlt⟩
theorem DB.put3 {w W:World} {bx:Nat} {s:ByteArray} {e n1 n2:Int} {t:Bool} {nv pv:Value} (h:DB w bx s e n1 n2 t nv pv W) (v:Value):DB w bx s e n1 n2 t v pv (W.setCell ⟨bx,3,none⟩ v):=by
 have hlt:=h.lt;exact⟨h.res.far (p:=⟨bx,3,none⟩) (by simp only;omega) v,Blk.far h.rd (p:=⟨bx,3,none⟩) (by simp only;omega) v,h.x.set_ 3 v,Ak h.s (by simp only;omega) v,hlt⟩
theorem DB.put4 {w W:World} {bx:Nat} {s:ByteArray} {e n1 n2:Int} {t:Bool} {nv pv:Value} (h:DB w bx s e n1 n2 t nv pv W) (v:Value):DB w bx s e n1 n2 t nv v (W.setCell ⟨bx,4,none⟩ v):=by
 have hlt:=h.lt;exact⟨h.res.far (p:=⟨bx,4,none⟩) (by simp only;omega) v,Blk.far h.rd (p:=⟨bx,4,none⟩) (by simp only;omega) v,h.x.set_ 4 v,Ak h.s (by simp only;omega) v,hlt⟩
theorem DB.put2 {w W:World} {bx:Nat} {s:ByteArray} {e n1 n2:Int} {t:Bool} {nv pv:Value} (h:DB w bx s e n1 n2 t nv pv W) (b:Bool):DB w bx s e n1 n2 b nv pv (W.setCell ⟨bx,2,none⟩ (.bool b)):=by
 have hlt:=h.lt;exact⟨h.res.far (p:=⟨bx,2,none⟩) (by simp only;omega) _,Blk.far h.rd (p:=⟨bx,2,none⟩) (by simp only;omega) _,h.x.set_ 2 _,Ak h.s (by simp only;omega) _,hlt⟩
theorem DB.bxlt {w W:World} {bx:Nat} {s:ByteArray} {e n1 n2:Int} {t:Bool} {nv pv:Value} (h:DB w bx s e n1 n2 t nv pv W):bx<W.heap.size:=h.x.lt
structure NAt (w:World) (bx B n1 n2 n4:Nat) (t:Bool) (s4:ByteArray) (k:Nat) (nv:Value) (acc:List KV) (sj:ByteArray) (ej:Int) (wr:World):Prop where
 st:AN n4 (s4,0) []=AN (n4-k) (sj,ej) acc
 len:acc.length=k
 sz:sj.size≤9223372036854775807
 at_:DB w bx sj ej n1 n2 t nv (.slice none 0 0) wr
 row:wr.ownsRow B 36 2 nv k (AH acc)
 ge:B≤wr.heap.size
 lt:bx<B
def kN (w:World) (bx B n1 n2 n4:Nat) (t:Bool) (s4:ByteArray) (i:Value) (wr:World):Prop:=∃ k nv acc sj ej,k≤n4∧i=.int .i64 (k:Nat)∧NAt w bx B n1 n2 n4 t s4 k nv acc sj ej wr
theorem NAt.next {w wr w5 w6 w9:World} {bx B n1 n2 n4 k gg cap:Nat} {t:Bool} {s4 sj sa sb ta tb:ByteArray} {ej ea eb:Int} {nv:Value} {acc:List KV} (h:NAt w bx B n1 n2 n4 t s4 k nv acc sj ej wr) (hk:k<n4) (h1:Aj sj ej=((sa,ea),ta)) (h2:Aj sa ea=((sb,eb),tb))
  (R5:Ci w5 (w.heap.size+1) sa ea) (G5:wr.drew.grownBy w5 (some (w.heap.size+1))) (R6:Ci w6 (w.heap.size+1) sb eb) (G6:w5.grownBy w6 (some (w.heap.size+1)))
  (hown9:w9.ownsRow B 36 2 (.slice (some ⟨gg,0,none⟩) (k+1) cap) (k+1) (AH acc++[.string ta,.string tb])) (hgrow9:(w6.alloc (.cells #[.string ta,.string tb] 36)).grownBy w9 nv.ownBlock) :
  DB w bx sb eb n1 n2 t nv (.slice none 0 0) w9∧NAt w bx B n1 n2 n4 t s4 (k+1) (.slice (some ⟨gg,0,none⟩) (k+1) cap) (acc++[(ta,tb)]) sb eb (w9.setCell ⟨bx,3,none⟩ (.slice (some ⟨gg,0,none⟩) (k+1) cap)):=by
 have hlt:=h.lt
 have hrow:∀ g,nv.ownBlock=some g→bx<g:=fun g hg=>by have:=(h.row.lt g hg).1;omega
 have A:=((((h.at_.drew.read R5 G5).read R6 G6).alloc (.cells #[.string ta,.string tb] 36)).grown hgrow9 hrow);have f1:=AV sj ej;have f2:=AV sa ea;rw [h1] at f1;rw [h2] at f2;have hsz:=h.sz;have g5:wr.heap.size≤w5.heap.size:=G5.size;have g6:=G6.size;have g9:w6.heap.size≤w9.heap.size:=Nat.le_trans (by simp) hgrow9.size;have hge:=h.ge;refine⟨A,⟨?_,by rw [List.length_append,h.len];rfl,by simp only at f1 f2;omega,A.put3 _,?_,by simp [World.setCell];omega,hlt⟩⟩
 ·rw [h.st,show n4-k=(n4-(k+1))+1 by omega]
  simp only [AN,h1,h2]
 ·have e:AH (acc++[(ta,tb)])=AH acc++[.string ta,.string tb]:=by rw [Fi];rfl
  rw [e]
  exact hown9.kept (row:=some bx) ⟨rfl,rfl,rfl,by simp [World.setCell],fun k _ hk=>Below.heap_setCell _ _ _ _ (fun e=>hk (by simp [e]))⟩ (.inr (by intro e;injection e with e;have e2:gg=bx:=e;have:=hown9.lt gg rfl;omega))
theorem IT {w:World} {B k n:Nat} {e:TypeId} {v:Value} {xs:List Value} (h:w.ownsRow B e k v n xs):∃ A cap,v=.slice A n cap∧n≤cap:=by
 rcases h.2 with⟨rfl,rfl⟩|⟨g,cap,cur,rfl,_,_,hc,_⟩
 ·exact⟨none,0,rfl,Nat.le_refl _⟩
 ·exact⟨_,_,rfl,hc⟩
theorem Kq {w w':World} {B k n b:Nat} {e:TypeId} {v:Value} {xs:List Value} (h:w.ownsRow B e k v n xs) (g:w.grownBy w' (some b)) (hb:b<B):w'.ownsRow B e k v n xs :=
 h.kept g (.inr fun e=>by have:=(h.lt b e).1;omega)
theorem Ru {B n:Nat} {v:Value} {L:List (List (List UInt8))} {us:List Value} {W W':World} (hrow:W.ownsRow B 74 1 v n us) (h3:∀(i:Nat) u q,us[i]?=some u→L[i]?=some q→Txs W W.heap.size u (bss q)∧BU u∧∀ g,u.ownBlock=some g→B≤g∧g<W.heap.size∧some g≠v.ownBlock) {b:Nat} (k:W.grownBy W' (some b)) (hb:b<B) :
  W'.ownsRow B 74 1 v n us∧∀(i:Nat) u q,us[i]?=some u→L[i]?=some q→Txs W' W'.heap.size u (bss q)∧BU u∧∀ g,u.ownBlock=some g→B≤g∧g<W'.heap.size∧some g≠v.ownBlock:=by
 refine⟨Kq hrow k hb,fun i u q h1 h2=>?_⟩;obtain⟨j1,j2,j3⟩:=h3 i u q h1 h2
 exact⟨(j1.moved fun g hg=>k.block g (j3 g hg).2.1 (by intro e;injection e with e;have:=(j3 g hg).1;omega)).more k.size,j2,fun g hg=>⟨(j3 g hg).1,Nat.lt_of_lt_of_le (j3 g hg).2.1 k.size,(j3 g hg).2.2⟩⟩
theorem Ln {B gg cap n:Nat} {v u:Value} {L:List (List (List UInt8))} {q:List (List UInt8)} {us:List Value} {w5 w9:World} (hn:L.length=n) (h0:us.length=L.length) (hrow:w5.ownsRow B 74 1 v n us)
  (h3:∀(i:Nat) u q,us[i]?=some u→L[i]?=some q→Txs w5 w5.heap.size u (bss q)∧BU u∧∀ g,u.ownBlock=some g→B≤g∧g<w5.heap.size∧some g≠v.ownBlock) (hB:B≤w5.heap.size)
  (hT:Txs w5 w5.heap.size u (bss q)) (hroom:BU u) (hu:∀ g,u.ownBlock=some g→B≤g∧g<w5.heap.size∧some g≠v.ownBlock) (hown9:w9.ownsRow B 74 1 (.slice (some ⟨gg,0,none⟩) (n+1) cap) (n+1) (us++[u])) (hgrow9:(w5.alloc (.cells #[u] 74)).grownBy w9 v.ownBlock) (hat9:v.ownBlock=some gg∨gg=w5.heap.size+1) :
  AM B (.slice (some ⟨gg,0,none⟩) (n+1) cap) (L++[q]) w9∧Below B w5 w9:=by
 subst hn;have hlt:∀ g,v.ownBlock=some g→B≤g∧g<w5.heap.size:=hrow.lt;have b6:Below w5.heap.size w5 (w5.alloc (.cells #[u] 74)):=(Below.refl _ w5).alloc (Nat.le_refl _) _
 have s6:(w5.alloc (.cells #[u] 74)).heap.size=w5.heap.size+1:=by simp
 have hbel:Below B w5 w9:=(b6.mono hB).grown hgrow9 (by omega) (fun g hg=>(hlt g hg).1);refine⟨?_,hbel⟩;refine AM.more (w:=w5.alloc (.cells #[u] 74)) (v:=v) (u:=u) h0 (fun i u' q' h1 h2=>?_) ((hT.below b6).more (by omega)) hroom (fun g hg=>⟨(hu g hg).1,by have:=(hu g hg).2.1;omega,(hu g hg).2.2⟩) hown9 (by have:=hbel.size;omega) hgrow9 ?_
 ·obtain⟨j1,j2,j3⟩:=h3 i u' q' h1 h2
  exact⟨(j1.below b6).more b6.size,j2,fun g hg=>⟨(j3 g hg).1,Nat.lt_of_lt_of_le (j3 g hg).2.1 b6.size,(j3 g hg).2.2⟩⟩
 ·rcases hat9 with h|h
  ·exact .inl (by rw [h];rfl)
  ·exact .inr ⟨gg,rfl,by omega⟩
structure PAt (w W8:World) (bx B n1 n2 np:Nat) (t:Bool) (sp:ByteArray) (ep:Int) (nv:Value) (k:Nat) (pv:Value) (acc:List (List (List UInt8))) (sj:ByteArray) (ej:Int) (wr:World):Prop where
 st:AJ np (sp,ep) []=AJ (np-k) (sj,ej) acc
 len:acc.length=k
 sz:sj.size≤9223372036854775807
 at_:DB w bx sj ej n1 n2 t nv pv wr
 own:AM B pv acc wr
 keep:∀ g,g<B→g≠bx→g≠w.heap.size+1→wr.heap[g]?=W8.heap[g]?
 ge:B≤wr.heap.size
 lt:bx<B
def iA (w W8:World) (bx B n1 n2 np:Nat) (t:Bool) (sp:ByteArray) (ep:Int) (nv:Value) (i:Value) (wr:World):Prop:=∃ k pv acc sj ej,k≤np∧i=.int .i64 (k:Nat)∧PAt w W8 bx B n1 n2 np t sp ep nv k pv acc sj ej wr
theorem PA (s:ByteArray) (e:Int):(Bk s e).1.1.size≤s.size:=by
 have key:∀(k:Nat) (s:ByteArray) (acc:List ByteArray),(AU k s acc).1.1.size≤s.size:=by
  intro k
  induction k with
  | zero=>intro s acc;simp [AU]
  | succ k ih =>
    intro s acc;have h1:=(AV s 0).1;rw [AU]
    split
    ·exact h1
    ·exact Nat.le_trans (ih _ _) h1
 have h1:=(Dp s e 256).2;unfold Bk;simp only
 split
 ·exact h1
 ·exact Nat.le_trans (key _ _ _) h1
theorem PAt.next {w W8 wr w5 w9:World} {bx B n1 n2 np k gg cap:Nat} {t:Bool} {sp sj sa:ByteArray} {ep ej ea:Int} {la:List ByteArray} {nv pv u:Value} {acc:List (List (List UInt8))} {us:List Value} (h:PAt w W8 bx B n1 n2 np t sp ep nv k pv acc sj ej wr) (hk:k<np) (h1:Bk sj ej=((sa,ea),la))
  (h0:us.length=acc.length) (hrow:wr.ownsRow B 74 1 pv k us) (h3:∀(i:Nat) u q,us[i]?=some u→acc[i]?=some q→Txs wr wr.heap.size u (bss q)∧BU u∧∀ g,u.ownBlock=some g→B≤g∧g<wr.heap.size∧some g≠pv.ownBlock)
  (hT:Txs w5 w5.heap.size u la) (hu:∀ g,u.ownBlock=some g→wr.drew.heap.size≤g∧g<w5.heap.size) (hroom:BU u) (R5:Ci w5 (w.heap.size+1) sa ea) (G5:wr.drew.grownBy w5 (some (w.heap.size+1)))
  (hown9:w9.ownsRow B 74 1 (.slice (some ⟨gg,0,none⟩) (k+1) cap) (k+1) (us++[u])) (hgrow9:(w5.alloc (.cells #[u] 74)).grownBy w9 pv.ownBlock) (hat9:pv.ownBlock=some gg∨gg=w5.heap.size+1) :
  DB w bx sa ea n1 n2 t nv pv w9∧PAt w W8 bx B n1 n2 np t sp ep nv (k+1) (.slice (some ⟨gg,0,none⟩) (k+1) cap) (acc++[unb la]) sa ea (w9.setCell ⟨bx,4,none⟩ (.slice (some ⟨gg,0,none⟩) (k+1) cap)):=by
 have hlt:=h.lt;have hlt1:=h.at_.lt;have hge:=h.ge;have hplt:∀ g,pv.ownBlock=some g→B≤g∧g<wr.heap.size:=hrow.lt
 have hrow':∀ g,pv.ownBlock=some g→bx<g:=fun g hg=>by have:=(hplt g hg).1;omega
 have g5:wr.heap.size≤w5.heap.size:=G5.size;have A:=((h.at_.drew.read R5 G5).alloc (.cells #[u] 74)).grown hgrow9 hrow';obtain⟨r5,h5⟩:=Ru (W:=wr.drew) (W':=w5) (L:=acc) (us:=us) hrow h3 G5 (by omega)
 obtain⟨o9,b9⟩:=Ln h.len h0 r5 h5 (by omega) (show Txs w5 w5.heap.size u (bss (unb la)) by rw [Tc];exact hT) hroom (fun g hg=>by
  have l1:=hu g hg;have l2:wr.heap.size≤g:=l1.1
  exact⟨by omega,l1.2,fun e=>by have:=hplt g e.symm;omega⟩) hown9 hgrow9 hat9
 have g9:=b9.size;have hz:=PA sj ej;rw [h1] at hz;have hsz:=h.sz;refine⟨A,⟨?_,by rw [List.length_append,h.len];rfl,by simp only at hz;omega,A.put4 _,o9.set_ _ hlt _,fun g l1 l2 l3=>?_,by simp [World.setCell];omega,hlt⟩⟩
 ·rw [h.st,show np-k=(np-(k+1))+1 by omega]
  simp only [AJ,h1]
 ·exact(Below.heap_setCell w9 ⟨bx,4,none⟩ _ g l2).trans ((b9.block g l1).trans ((G5.block g (by show g<wr.heap.size;omega) (by intro e;injection e with e;omega)).trans (h.keep g l1 l2 l3)))
theorem PC {w W8 wr:World} {bx B n1 n2 np n3:Nat} {t:Bool} {sp sj:ByteArray} {ep ej:Int} {nv pv:Value} {k:Nat} {acc:List (List (List UInt8))} {near:List KV} (h:PAt w W8 bx B n1 n2 np t sp ep nv k pv acc sj ej wr) (hp:∀ W,(∀ g,g<B→g≠bx→g≠w.heap.size+1→g≠w.heap.size→W.heap[g]?=W8.heap[g]?)→Prs W nv near) (ht:t=decide (n3=1)) {v0 v1 v2 v3 v4:Value} :
  ∃ v,Ending.returned (.tuple #[.agg #[.int .i64 n1,.int .i64 n2,.bool t,nv,pv],.int .i64 0])=.returned (.tuple #[v,.int .i64 0])∧Prf (((((wr.setCell ⟨w.heap.size,0,none⟩ v0).setCell ⟨w.heap.size,1,none⟩ v1).setCell ⟨w.heap.size,2,none⟩ v2).setCell ⟨w.heap.size,3,none⟩ v3).setCell ⟨w.heap.size,4,none⟩ v4) v ⟨n1,n2,decide (n3=1),near,acc⟩ ∧
   Aa w (((((wr.setCell ⟨w.heap.size,0,none⟩ v0).setCell ⟨w.heap.size,1,none⟩ v1).setCell ⟨w.heap.size,2,none⟩ v2).setCell ⟨w.heap.size,3,none⟩ v3).setCell ⟨w.heap.size,4,none⟩ v4)∧BP w.heap.size v:=by
 have hl:=h.lt;have hl1:=h.at_.lt;refine⟨_,rfl,⟨_,_,by rw [←ht],hp _ fun g h1 h2 h3 h4=>(Ev wr h4 v0 v1 v2 v3 v4).trans (h.keep g h1 h2 h3),?_⟩,AE h.at_.s (Nat.le_refl _) _ _ _ _ _,BP.of fun g hg=>?_⟩
 rotate_left
 ·obtain⟨us,_,hrow,_⟩:=h.own
  have:=(hrow.lt g hg).1
  omega
 exact(((((h.own.set_ ⟨w.heap.size,0,none⟩ (by simp only;omega) v0).set_ ⟨w.heap.size,1,none⟩ (by simp only;omega) v1).set_ ⟨w.heap.size,2,none⟩ (by simp only;omega) v2).set_ ⟨w.heap.size,3,none⟩ (by simp only;omega) v3).set_ ⟨w.heap.size,4,none⟩ (by simp only;omega) v4).pths
theorem UW {w wr:World} {bx B n1 n2 n4 k:Nat} {t:Bool} {s4 sj:ByteArray} {ej:Int} {nv:Value} {acc:List KV} (h:NAt w bx B n1 n2 n4 t s4 k nv acc sj ej wr) {w8:World} (G8:wr.grownBy w8 (some (w.heap.size+1))) :
  ∀ W,(∀ g,g<w8.heap.size→g≠bx→g≠w.heap.size+1→g≠w.heap.size→W.heap[g]?=w8.heap[g]?)→Prs W nv acc:=by
 intro W hW;have hrow:=h.row;rw [←h.len] at hrow;have hlt:=h.lt;have hlt1:=h.at_.lt;refine(Prs.of_own hrow).moved fun g hg=>?_;have l1:=hrow.lt g hg;have l2:=G8.size;rw [hW g (by omega) (by omega) (by omega) (by omega)]
 exact G8.block g l1.2 (by intro e;injection e with e;omega)
theorem UX {n1 n2 n3:Nat} {k:Nat} {s4 sj:ByteArray} {ej:Int} {acc:List KV} (h:AN k (s4,0) []=((sj,ej),acc)):Dm n1 n2 n3 (AN k (s4,0) []).2 (AN k (s4,0) []).1.1 (AN k (s4,0) []).1.2=Dm n1 n2 n3 acc sj ej:=by rw [h]
theorem Lo {n1 n2 n3 np:Nat} {sj sp:ByteArray} {ej:Int} {acc:List KV} (h:Ao sj ej=((sp,0),np)) (hp:2<np):Dm n1 n2 n3 acc sj ej=(Pf.zero,6):=by
 unfold Dm;rw [h,if_pos ⟨rfl,hp⟩]
theorem Gd {n1 n2 n3 np:Nat} {sj sp sk:ByteArray} {ej ep ek:Int} {acc:List KV} {acc2:List (List (List UInt8))} (h:Ao sj ej=((sp,ep),np)) (h2:AJ np (sp,ep) []=((sk,ek),acc2)) (hb:¬(ep=0∧2<np)) :
  Dm n1 n2 n3 acc sj ej=if AG sk ek≠0 then (Pf.zero,AG sk ek) else (⟨n1,n2,decide (n3=1),acc,acc2⟩,0):=by
 unfold Dm;rw [h];simp only;rw [if_neg hb,h2]
theorem iB (s:ByteArray) (w:World) (hs:s.size≤9223372036854775807) :
  Calls qP 99 #[.string s] w fun e w'=>∃ v,e=.returned (.tuple #[v,.int .i64 (FU s).2])∧Prf w' v (FU s).1∧Aa w w'∧BP w.heap.size v:=by
 obtain⟨⟨⟨s1,e1⟩,n1⟩,h1⟩:∃ r,Ao s 0=r:=⟨_,rfl⟩;obtain⟨⟨⟨s2,e2⟩,n2⟩,h2⟩:∃ r,Ao s1 e1=r:=⟨_,rfl⟩;obtain⟨⟨⟨s3,e3⟩,n3⟩,h3⟩:∃ r,Ao s2 e2=r:=⟨_,rfl⟩;obtain⟨⟨⟨s4,e4⟩,n4⟩,h4⟩:∃ r,Ao s3 e3=r:=⟨_,rfl⟩;have g1:=Ay s 0;have g2:=Ay s1 e1;have g3:=Ay s2 e2;have g4:=Ay s3 e3;rw [h1] at g1;rw [h2] at g2;rw [h3] at g3;rw [h4] at g4;simp only at g1 g2 g3 g4;have HRD:=qH (TG h1 h2 h3 h4);have N1:=qH (fun W (h:Ci W (w.heap.size+1) s 0)=>by have:=Gn _ s 0 W h hs;rw [h1] at this;exact this);have N2:=qH (fun W (h:Ci W (w.heap.size+1) s1 e1)=>by have:=Gn _ s1 e1 W h (by omega);rw [h2] at this;exact this);have N3:=qH (fun W (h:Ci W (w.heap.size+1) s2 e2)=>by have:=Gn _ s2 e2 W h (by omega);rw [h3] at this;exact this);have N4:=qH (fun W (h:Ci W (w.heap.size+1) s3 e3)=>by have:=Gn _ s3 e3 W h (by omega);rw [h4] at this;exact this)
 have hz4:s4.size≤9223372036854775807:=by omega
 obtain⟨b1,_,_⟩:=g1;obtain⟨b2,_,_⟩:=g2;obtain⟨b3,_,_⟩:=g3;obtain⟨b4,_,_⟩:=g4;have k0:=Blk.new w 112 #[.int .i64 0,.int .i64 0,.bool false,.slice none 0 0,.slice none 0 0];have s0:Aa w (w.alloc (.cells #[.int .i64 0,.int .i64 0,.bool false,.slice none 0 0,.slice none 0 0] 112)):=Ad ((Below.refl _ w).alloc (Nat.le_refl _) _)
 have hz:(w.alloc (.cells #[.int .i64 0,.int .i64 0,.bool false,.slice none 0 0,.slice none 0 0] 112)).heap.size=w.heap.size+1:=by simp
 have HK0:=qH (And.intro k0 (And.intro s0 hz));clear k0 s0 hz h1 h2 h3 h4;go_enter Tryz.func99,Tryz.ntmps99
 go_wp2_with fail
 refine(new s _).mono ?_;rintro e v0 ⟨rfl,rfl⟩;generalize w.alloc (.cells #[.int .i64 0,.int .i64 0,.bool false,.slice none 0 0,.slice none 0 0] 112)=V1 at *;obtain⟨k0,s0,hz⟩:=HK0.out;rw [hz]
 have r1:Ci (V1.alloc (.cells #[.string s,.int .i64 0] 149)) (w.heap.size+1) s 0:=by
  have:=Blk.new V1 149 #[.string s,.int .i64 0];rw [hz] at this;exact this
 have s1':Aa w (V1.alloc (.cells #[.string s,.int .i64 0] 149)):=Ad (s0.below.alloc s0.2.2.2.1 _);have k1:=k0.alloc (.cells #[.string s,.int .i64 0] 149)
 have hz2:(V1.alloc (.cells #[.string s,.int .i64 0] 149)).heap.size=w.heap.size+1+1:=by simp [hz]
 generalize V1.alloc (.cells #[.string s,.int .i64 0] 149)=V2 at *;clear k0 s0 hz HK0
 go_wp2_with fail
 refine(N1.out _ r1).mono ?_;rintro e v1 ⟨rfl,R1,G1⟩
 have k2:=k1.grown G1 (by intro e;injection e with e;omega)
 have s2':=In s1' G1 (by omega);have HS2:=qH (And.intro R1 (And.intro k2 (And.intro s2' (show w.heap.size+1<v1.heap.size by have:=G1.size;omega))));clear N1 r1 s1' k1 hz2 R1 G1 k2 s2'
 go_wp2_with fail
 refine(N2.out _ HS2.out.1).mono ?_;rintro e v2 ⟨rfl,R2,G2⟩
 have hbx:w.heap.size+1<v2.heap.size:=by have:=G2.size;have:=HS2.out.2.2.2;omega
 have k3:=(HS2.out.2.1.grown G2 (by intro e;injection e with e;omega)).alloc (.cells #[.int .i64 n1,.int .i64 n2,.bool false,.slice none 0 0,.slice none 0 0] 112)
 have r3:Ci (v2.alloc (.cells #[.int .i64 n1,.int .i64 n2,.bool false,.slice none 0 0,.slice none 0 0] 112)) (w.heap.size+1) s2 e2:=Blk.alloc R2 _;have s3':=In HS2.out.2.2.1 G2 (by omega);have HI3:=qH (show DB w v2.heap.size s2 e2 n1 n2 false (.slice none 0 0) (.slice none 0 0) (v2.alloc (.cells #[.int .i64 n1,.int .i64 n2,.bool false,.slice none 0 0,.slice none 0 0] 112)) from⟨k3,r3,Blk.new _ _ _,Ad (s3'.below.alloc s3'.2.2.2.1 _),hbx⟩);clear N2 HS2 R2 G2 k3 r3 s3'
 go_wp2_with fail
 generalize hbn:v2.heap.size=bx at *;generalize v2.alloc (.cells #[.int .i64 n1,.int .i64 n2,.bool false,.slice none 0 0,.slice none 0 0] 112)=V3 at *;refine(N3.out _ HI3.out.rd).mono ?_;rintro e v3 ⟨rfl,R3,G3⟩;have HI4:=qH (HI3.out.read R3 G3);clear N3 HI3 R3 G3 hbn
 go_wp2_with fail
 refine(N4.out _ HI4.out.rd).mono ?_;rintro e v4 ⟨rfl,R4,G4⟩;have HI5:=qH (HI4.out.read R4 G4);clear N4 HI4 R4 G4
 go_wp2_with fail
 refine(Hy _ _ _ _ HI5.out.rd).mono ?_;rintro e v5 ⟨rfl,rfl⟩;by_cases he:e4=0
 ·subst he
  have hr1:=HRD.out.trans (if_neg (by simp));by_cases hbad:1<n3∨2<n4∨(n3=1∧0<n4)
  ·have HR2:=qH (hr1.trans (if_pos hbad))
   have d0:=HI5.out.res.c 0 rfl;have d1:=HI5.out.res.c 1 rfl;have d2:=HI5.out.res.c 2 rfl;have d3:=HI5.out.res.c 3 rfl;have d4:=HI5.out.res.c 4 rfl;have f0:=HI5.out.res.frozen 0;have f1:=HI5.out.res.frozen 1;have f2:=HI5.out.res.frozen 2;have f3:=HI5.out.res.frozen 3;have f4:=HI5.out.res.frozen 4;clear hr1 HRD;by_cases c1:1<n3
   ·go_wp2
    have K2:=CK HI5.out.res (.int .i64 0) (.int .i64 0) (.bool false) (.slice none 0 0) (.slice none 0 0);refine bodyPost_ret (v:=.tuple #[.agg #[.int .i64 0,.int .i64 0,.bool false,.slice none 0 0,.slice none 0 0],.int .i64 6]) (by simp [results,Tryz.results99,go_sem,K2.c 0 rfl,K2.c 1 rfl,K2.c 2 rfl,K2.c 3 rfl,K2.c 4 rfl]) rfl ?_;rw [HR2.out];exact DP HI5.out
   ·by_cases c2:2<n4
    ·go_wp2
     have K2:=CK HI5.out.res (.int .i64 0) (.int .i64 0) (.bool false) (.slice none 0 0) (.slice none 0 0);refine bodyPost_ret (v:=.tuple #[.agg #[.int .i64 0,.int .i64 0,.bool false,.slice none 0 0,.slice none 0 0],.int .i64 6]) (by simp [results,Tryz.results99,go_sem,K2.c 0 rfl,K2.c 1 rfl,K2.c 2 rfl,K2.c 3 rfl,K2.c 4 rfl]) rfl ?_;rw [HR2.out];exact DP HI5.out
    ·obtain⟨c3,c4⟩:n3=1∧0<n4:=by omega
     subst c3;go_wp2;have K2:=CK HI5.out.res (.int .i64 0) (.int .i64 0) (.bool false) (.slice none 0 0) (.slice none 0 0);refine bodyPost_ret (v:=.tuple #[.agg #[.int .i64 0,.int .i64 0,.bool false,.slice none 0 0,.slice none 0 0],.int .i64 6]) (by simp [results,Tryz.results99,go_sem,K2.c 0 rfl,K2.c 1 rfl,K2.c 2 rfl,K2.c 3 rfl,K2.c 4 rfl]) rfl ?_;rw [HR2.out];exact DP HI5.out
  ·have hn3:n3≤1:=by omega
   have hk4:n4≤2:=by omega
   have HR0:=qH (hr1.trans (if_neg hbad));have p2:=HI5.out.x.c 2 rfl;have f2x:=HI5.out.x.frozen 2;clear hr1 HRD;obtain⟨t,ht⟩:∃ t,t=decide (n3=1):=⟨_,rfl⟩;have HR1:=HR0;obtain⟨i9,hinf,hz0,hz1,hz2⟩:=info_parts Fq
   rcases(show n3=0∨n3=1∧n4=0 by omega) with rfl|⟨rfl,h4⟩
   all_goals
    first
    | (have ht0:t=decide ((0:Nat)=1):=ht
       have ht1:t=false:=ht;have HN0:=qH (show NAt w bx (v4.setCell ⟨bx,2,none⟩ (.bool false)).heap.size n1 n2 n4 t s4 0 (.slice none 0 0) [] s4 0 (v4.setCell ⟨bx,2,none⟩ (.bool false)) from by rw [ht1];exact⟨rfl,rfl,hz4,HI5.out.put2 false,World.ownsRow_nil _ _ _ _,Nat.le_refl _,(HI5.out.put2 false).bxlt⟩)
       have hbad2:¬2<n4:=by omega
       have HTT:=qH ht1;clear hbad HR0 hz4 ht ht0 ht1;go_wp2;generalize hB:(v4.setCell ⟨bx,2,none⟩ (.bool false)).heap.size=B at *
       generalize v4.setCell ⟨bx,2,none⟩ (.bool false)=V6 at *)
    | (have ht0:t=decide ((1:Nat)=1):=ht
       have ht1:t=true:=ht;have HN0:=qH (show NAt w bx (v4.setCell ⟨bx,2,none⟩ (.bool true)).heap.size n1 n2 n4 t s4 0 (.slice none 0 0) [] s4 0 (v4.setCell ⟨bx,2,none⟩ (.bool true)) from by rw [ht1];exact⟨rfl,rfl,hz4,HI5.out.put2 true,World.ownsRow_nil _ _ _ _,Nat.le_refl _,(HI5.out.put2 true).bxlt⟩)
       have hbad2:¬2<n4:=by omega
       have hnz:¬(0:Int)<(n4:Int):=by omega
       have HTT:=qH ht1;clear hbad HR0 hz4 ht ht0 ht1 h4;go_wp2;generalize hB:(v4.setCell ⟨bx,2,none⟩ (.bool true)).heap.size=B at *
       generalize v4.setCell ⟨bx,2,none⟩ (.bool true)=V6 at *)
    clear hB p2 f2x HI5
    go_loopw [46] (fun i wr=>kN w bx B n1 n2 n4 t s4 i wr) (fun i _=>n4-(intOf i).toNat)
    case atStart=>exact⟨0,_,[],_,_,Nat.zero_le _,rfl,HN0.out⟩
    case round =>
     obtain⟨k,nv,acc,sj,ej,hk,rfl,hN⟩:=hrel;have HN:=qH hN;clear hN;by_cases hlt:k<n4
     ·try exact absurd hlt (by omega)
      all_goals
       obtain⟨⟨⟨sa,ea⟩,ta⟩,hd1⟩:∃ r,Aj sj ej=r:=⟨_,rfl⟩;obtain⟨⟨⟨sb,eb⟩,tb⟩,hd2⟩:∃ r,Aj sa ea=r:=⟨_,rfl⟩;have HROW:=qH HN.out.row;obtain⟨An,cn,rfl,hcn⟩:=IT HROW.out;have p0:=HN.out.at_.x.c 3 rfl;have f1:=AV sj ej;rw [hd1] at f1;have hsz:=HN.out.sz;have T1:=qH (fun W (h:Ci W (w.heap.size+1) sj ej)=>by have:=Gc _ sj ej W h hsz;rw [hd1] at this;exact this);have T2:=qH (fun W (h:Ci W (w.heap.size+1) sa ea)=>by have:=Gc _ sa ea W h (by simp only at f1;omega);rw [hd2] at this;exact this);have HD:=qH (And.intro hd1 hd2);have HK4:=qH (And.intro hlt hk4)
       have i0:(k:Int)<(n4:Int):=by omega
       clear hd1 hd2 f1 hsz HN0;go_wp2;refine wp_region_held_drew (S:=(fun _=>True)) (by kernel_rfl) trivial (fun hHeld=>?_);simp only [List.size_toArray,List.length_cons,List.length_nil,Nat.reduceAdd,Array.replicate_succ,Array.replicate_zero,List.push_toArray,List.nil_append,List.cons_append];refine qT 0 ?_;simp only [qA,qC,Act.put,qD,qE,qF];refine qT 2 ?_;simp only [qA,qB,qC,Act.put,qD,qE,qF];refine qT 4 ?_;simp only [qA,qB,qC,Act.put,qD,qE,qF]
       repeat
        all_goals
         first
         | refine qR 3 fun K hK=>?_
         | refine qR 5 fun K hK=>?_
         | refine qR 7 fun K hK=>?_
         | refine qR 1 fun K hK=>?_
         | refine qR2 1 3 (fun K hK=>?_) fun K hK=>?_
         | refine qR2 1 5 (fun K hK=>?_) fun K hK=>?_
         | refine qR2 1 7 (fun K hK=>?_) fun K hK=>?_
         all_goals
          go_simp
          first
          | (go_at_call 36
             refine(T2.out _ H5.out.1).mono ?_;rintro e w6 ⟨rfl,R6,G6⟩;have H6:=qH (And.intro R6 G6);have q6:w6.cell? ⟨bx,3,none⟩=some (.slice An k cn):=((HN.out.at_.drew.read H5.out.1 H5.out.2).read R6 G6).x.c 3 rfl;have q7:(w6.alloc (.cells #[.string ta,.string tb] 36)).cell? ⟨bx,3,none⟩=some (.slice An k cn):=(((HN.out.at_.drew.read H5.out.1 H5.out.2).read R6 G6).alloc _).x.c 3 rfl;clear R6 G6;refine hK.out _ _ trivial (fun hHeld=>?_);clear hK K;simp only [qD,qE,qF];refine qT 6 ?_
             simp only [qA,qB,qC,Act.put,qD,qE,qF])
          | (go_at_call 36
             refine(T1.out _ HN.out.at_.drew.rd).mono ?_;rintro e w5 ⟨rfl,R5,G5⟩;have H5:=qH (And.intro R5 G5);have q5:w5.cell? ⟨bx,3,none⟩=some (.slice An k cn):=(HN.out.at_.drew.read R5 G5).x.c 3 rfl;clear R5 G5;refine hK.out _ _ trivial (fun hHeld=>?_);clear hK K
             simp only [qD,qE,qF])
          | (refine hK.out _ _ trivial (fun hHeld=>?_)
             clear hK K
             simp only [qD,qE,qF])
       all_goals
        refine qR 8 fun K hK=>?_;refine step_append_lies _ (by rfl) _ _ _ (by rfl) B 36 i9 _ 2 32 Tryz.underlying22 hinf hz0 hz1 hz2 rfl (by omega) (.slice An k cn) k (AH acc) (by rfl) ((Kq (Kq (w:=wr.drew) HROW.out H5.out.2 (by have:=HN.out.lt;have:=HN.out.at_.lt;omega)) H6.out.2 (by have:=HN.out.lt;have:=HN.out.at_.lt;omega)).alloc _) ⟨w6.heap.size,0,none⟩ 1 1 [.string ta,.string tb] (by rfl) (by rfl) (World.news_of_block (cs:=#[.string ta,.string tb]) (t:=36) (fr:=(0,0)) (heap_alloc_new w6 _)) (by simp [Value.oneCell']) (by omega) (by have:=HK4.out;unfold maxLen;omega) (by have:=HK4.out;omega) (by have h7:=HN.out.ge;have h8:=H5.out.2.size;have h9:=H6.out.2.size;simp at h8 ⊢;omega) (w6.heap.size+1) (by simp) ?_;intro gg cap2 w9 hown9 hgrow9 hat9 hlt9;have R9:=qH (HN.out.next HK4.out.1 HD.out.1 HD.out.2 H5.out.1 H5.out.2 H6.out.1 H6.out.2 hown9 hgrow9);have z9:w9.cell? ⟨bx,3,none⟩=some (.slice An k cn):=R9.out.1.x.c 3 rfl;have y9:w9.frozen? ⟨bx,3,none⟩=false:=R9.out.1.x.frozen 3;clear hown9 hgrow9 hat9 hlt9;refine hK.out _ _ trivial (fun hHeld=>?_);clear hK K;simp only [qD,qE,qF];refine qT 9 ?_;simp only [qA,qB,qC,Act.put,qD,qE,qF];refine qR 10 fun K hK=>?_;go_simp;refine hK.out _ _ trivial (fun hHeld=>?_);clear hK K;simp only [qD,qE,qF];refine wpAnyH_done (by kernel_rfl) ?_ _;have RN:=qH R9.out.2;clear R9 z9 y9 HROW;have hk4:=HK4.out;go_wp2
        go_roundw
        case rel=>exact⟨k+1,_,_,_,_,by omega,by first|rfl|(simp;done),RN.out⟩
        case measure=>simp [intOf];omega
     ·obtain rfl:k=n4:=by omega
      have hst:=HN.out.st;rw [Nat.sub_self] at hst;have HST1:=qH (show AN _ (s4,0) []=((sj,ej),acc) from hst);have HTAIL0:=qH (HR1.out.trans (UX HST1.out));obtain⟨⟨⟨sp,ep⟩,np⟩,hnp0⟩:∃ r,Ao sj ej=r:=⟨_,rfl⟩;have gp:=Ay sj ej;rw [hnp0] at gp;simp only at gp;have hszj:=HN.out.sz;have NP:=qH (fun W (h:Ci W (w.heap.size+1) sj ej)=>by have:=Gn _ sj ej W h hszj;rw [hnp0] at this;exact this);have HNP:=qH hnp0;clear hst HST1 HR1 hnp0 HN0
      go_wp2_with fail
      refine(NP.out _ HN.out.at_.rd).mono ?_;rintro e w8 ⟨rfl,R8,G8⟩;have H8:=qH (HN.out.at_.read R8 G8);have HREST:=qH (UW HN.out G8);obtain⟨An,cn,rfl,hcn⟩:=IT HN.out.row;clear NP R8 G8 HN
      go_wp2_with fail
      refine(Hy _ _ _ _ H8.out.rd).mono ?_;rintro e v8 ⟨rfl,rfl⟩;by_cases hbd:ep=0∧2<np
      ·obtain⟨rfl,hp2⟩:=hbd
       have HY:=qH (HTAIL0.out.trans (Lo HNP.out hp2));have d0:=H8.out.res.c 0 rfl;have d1:=H8.out.res.c 1 rfl;have d2:=H8.out.res.c 2 rfl;have d3:=H8.out.res.c 3 rfl;have d4:=H8.out.res.c 4 rfl;have f0:=H8.out.res.frozen 0;have f1:=H8.out.res.frozen 1;have f2:=H8.out.res.frozen 2;have f3:=H8.out.res.frozen 3;have f4:=H8.out.res.frozen 4;clear HTAIL0;go_wp2;have K2:=CK H8.out.res (.int .i64 0) (.int .i64 0) (.bool false) (.slice none 0 0) (.slice none 0 0);refine bodyPost_ret (v:=.tuple #[.agg #[.int .i64 0,.int .i64 0,.bool false,.slice none 0 0,.slice none 0 0],.int .i64 6]) (by simp [results,Tryz.results99,go_sem,K2.c 0 rfl,K2.c 1 rfl,K2.c 2 rfl,K2.c 3 rfl,K2.c 4 rfl]) rfl ?_;rw [HY.out];exact DP H8.out
      ·have hnp:np≤2:=by
        by_cases h:ep=0
        ·omega
        ·have:=gp.2.2 h;omega
       have HTAIL:=HTAIL0
       have hps:sp.size≤9223372036854775807:=by omega
       obtain⟨i9,hinf,hz0,hz1,hz2⟩:=info_parts Rr;generalize hnv:Value.slice An _ cn=nv at *;generalize hW8:w8=W8 at *;have HP0:=qH (show PAt w W8 bx W8.heap.size n1 n2 np t sp ep nv 0 (.slice none 0 0) [] sp ep W8 from⟨rfl,rfl,hps,H8.out,AM.nil (Nat.le_refl _),fun g _ _ _=>rfl,Nat.le_refl _,H8.out.bxlt⟩);generalize hB2:W8.heap.size=B2 at *;by_cases hep:ep=0
       ·subst hep
        have hp3:¬2<np:=by omega
        clear gp;go_wp2
        go_loopw [70] (fun i wr=>iA w W8 bx B2 n1 n2 np t sp 0 nv i wr) (fun i _=>np-(intOf i).toNat)
        case atStart=>exact⟨0,_,[],_,_,Nat.zero_le _,rfl,HP0.out⟩
        case round =>
         obtain⟨k,pv,acc2,sj,ej,hk,rfl,hP⟩:=hrel;have HP:=qH hP;clear hP;by_cases hlt:k<np
         ·obtain⟨⟨⟨sa,ea⟩,la⟩,hd1⟩:∃ r,Bk sj ej=r:=⟨_,rfl⟩
          obtain⟨us,h0,hrow,hB,hel⟩:=HP.out.own;rw [HP.out.len] at hrow;obtain⟨Ap,cp,rfl,hcp⟩:=IT hrow;have HUS:=qH h0;have HROW:=qH hrow;have HEL:=qH hel;have p0:=HP.out.at_.x.c 4 rfl;have hsz:=HP.out.sz;have TL:=qH (fun W (h:Ci W (w.heap.size+1) sj ej)=>by have:=UV _ sj ej W h hsz;rw [hd1] at this;exact this);have HD:=qH hd1;have HKP:=qH (And.intro hlt hnp)
          have i0:(k:Int)<(np:Int):=by omega
          clear hd1 hsz h0 hrow hel HP0 HREST;go_wp2;refine wp_region_held_drew (S:=(fun _=>True)) (by kernel_rfl) trivial (fun hHeld=>?_);simp only [List.size_toArray,List.length_cons,List.length_nil,Nat.reduceAdd,Array.replicate_succ,Array.replicate_zero,List.push_toArray,List.nil_append,List.cons_append];refine qT 0 ?_;simp only [qA,qC,Act.put,qD,qE,qF];refine qT 2 ?_;simp only [qA,qB,qC,Act.put,qD,qE,qF]
          repeat
           all_goals
            first
            | refine qR 3 fun K hK=>?_
            | refine qR 4 fun K hK=>?_
            | refine qR 1 fun K hK=>?_
            | refine qR2 1 3 (fun K hK=>?_) fun K hK=>?_
            | refine qR2 1 4 (fun K hK=>?_) fun K hK=>?_
            all_goals
             go_simp
             first
             | (go_at_call 149
                refine(TL.out _ HP.out.at_.drew.rd).mono ?_;rintro e w5 ⟨u5,rfl,T5,U5,RM5,R5,G5⟩;obtain⟨A5,m5,cap5,rfl,hroom⟩:=RM5;have H5:=qH (And.intro T5 (And.intro U5 (And.intro R5 G5)));have HRM:=qH (show BU (.slice A5 m5 cap5) from⟨_,_,_,rfl,hroom⟩);have q5:w5.cell? ⟨bx,4,none⟩=some (.slice Ap k cp):=(HP.out.at_.drew.read R5 G5).x.c 4 rfl;have q6:(w5.alloc (.cells #[.slice A5 m5 cap5] 74)).cell? ⟨bx,4,none⟩=some (.slice Ap k cp):=((HP.out.at_.drew.read R5 G5).alloc _).x.c 4 rfl;clear T5 U5 R5 G5 hroom;refine hK.out _ _ trivial (fun hHeld=>?_);clear hK K
                simp only [qD,qE,qF])
             | (refine hK.out _ _ trivial (fun hHeld=>?_)
                clear hK K
                simp only [qD,qE,qF])
          all_goals
           refine qR 5 fun K hK=>?_;refine step_append_lies _ (by rfl) _ _ _ (by rfl) B2 74 i9 _ 1 24 Tryz.underlying110 hinf hz0 hz1 hz2 rfl (by omega) (.slice Ap k cp) k us (by rfl) ((Kq (w:=wr.drew) HROW.out H5.out.2.2.2 (by have:=HP.out.lt;have:=HP.out.at_.lt;omega)).alloc _) ⟨w5.heap.size,0,none⟩ 1 1 [.slice A5 m5 cap5] (by rfl) (by rfl) (World.news_of_block (cs:=#[.slice A5 m5 cap5]) (t:=74) (fr:=(0,0)) (heap_alloc_new w5 _)) (by simp [Value.oneCell']) (by omega) (by have:=HKP.out;unfold maxLen;omega) (by have:=HKP.out;omega) (by have h7:=HP.out.ge;have h8:=H5.out.2.2.2.size;simp at h8 ⊢;omega) (w5.heap.size+1) (by simp) ?_;intro gg cap2 w9 hown9 hgrow9 hat9 hlt9;have R9:=qH (HP.out.next HKP.out.1 HD.out HUS.out HROW.out HEL.out H5.out.1 H5.out.2.1 HRM.out H5.out.2.2.1 H5.out.2.2.2 hown9 hgrow9 hat9);have z9:w9.cell? ⟨bx,4,none⟩=some (.slice Ap k cp):=R9.out.1.x.c 4 rfl;have y9:w9.frozen? ⟨bx,4,none⟩=false:=R9.out.1.x.frozen 4;clear hown9 hgrow9 hat9 hlt9;refine hK.out _ _ trivial (fun hHeld=>?_);clear hK K;simp only [qD,qE,qF];refine qT 6 ?_;simp only [qA,qB,qC,Act.put,qD,qE,qF];refine qR 7 fun K hK=>?_;go_simp;refine hK.out _ _ trivial (fun hHeld=>?_);clear hK K;simp only [qD,qE,qF];refine wpAnyH_done (by kernel_rfl) ?_ _;have RN:=qH R9.out.2;clear R9 z9 y9 HROW HEL HUS;have hk4:=HKP.out;go_wp2
           go_roundw
           case rel=>exact⟨k+1,_,_,_,_,by omega,by first|rfl|(simp;done),RN.out⟩
           case measure=>simp [intOf];omega
         ·obtain rfl:k=np:=by omega
          have hst:=HP.out.st;rw [Nat.sub_self] at hst;have HST:=qH (show AJ k (sp,0) []=((sj,ej),acc2) from hst);obtain⟨us,h0,hrow,hB,hel⟩:=HP.out.own;obtain⟨Ap,cp,rfl,hcp⟩:=IT hrow;clear hst h0 hrow hel hB HP0
          have HX:=qH (HTAIL.out.trans (Gd HNP.out HST.out (by first|exact hbd|exact fun e=>hbd ⟨trivial,e.2⟩)))
          go_wp2_with fail
          refine(Ju _ _ _ _ HP.out.at_.rd).mono ?_;rintro e v9 ⟨rfl,rfl⟩;have d0:=HP.out.at_.res.c 0 rfl;have d1:=HP.out.at_.res.c 1 rfl;have d2:=HP.out.at_.res.c 2 rfl;have d3:=HP.out.at_.res.c 3 rfl;have d4:=HP.out.at_.res.c 4 rfl;have f0:=HP.out.at_.res.frozen 0;have f1:=HP.out.at_.res.frozen 1;have f2:=HP.out.at_.res.frozen 2;have f3:=HP.out.at_.res.frozen 3;have f4:=HP.out.at_.res.frozen 4;have x0:wr.cell? ⟨bx,0,none⟩=some (.int .i64 n1):=HP.out.at_.x.c 0 rfl;have x1:wr.cell? ⟨bx,1,none⟩=some (.int .i64 n2):=HP.out.at_.x.c 1 rfl;have x2:wr.cell? ⟨bx,2,none⟩=some (.bool t):=HP.out.at_.x.c 2 rfl;have x3:wr.cell? ⟨bx,3,none⟩=some (nv):=HP.out.at_.x.c 3 rfl;have x4:wr.cell? ⟨bx,4,none⟩=some (.slice Ap acc2.length cp):=HP.out.at_.x.c 4 rfl;generalize hde:AG sj ej=de at *;by_cases hd0:de=0
          ·subst hd0
           have HY:=qH (HX.out.trans (if_neg (by simp)));obtain⟨Am,m,cm,hm⟩:∃ Am m cm,nv=.slice Am m cm:=⟨_,_,_,hnv.symm⟩;clear HX hnv;subst hm;go_wp2;have K2:=CK HP.out.at_.res (.int .i64 n1) (.int .i64 n2) (.bool t) (.slice Am m cm) (.slice Ap acc2.length cp);refine bodyPost_ret (v:=.tuple #[.agg #[.int .i64 n1,.int .i64 n2,.bool t,.slice Am m cm,.slice Ap acc2.length cp],.int .i64 0]) (by simp [results,Tryz.results99,go_sem,K2.c 0 rfl,K2.c 1 rfl,K2.c 2 rfl,K2.c 3 rfl,K2.c 4 rfl]) rfl ?_;rw [HY.out]
           first|exact PC (n3:=0) HP.out HREST.out HTT.out|exact PC (n3:=1) HP.out HREST.out HTT.out
          ·have HY:=qH (HX.out.trans (if_pos hd0))
           have hne:(de != 0)=true:=by rw [bne_iff_ne];exact hd0
           clear HX hd0;go_wp2;have K2:=CK HP.out.at_.res (.int .i64 0) (.int .i64 0) (.bool false) (.slice none 0 0) (.slice none 0 0);refine bodyPost_ret (v:=.tuple #[.agg #[.int .i64 0,.int .i64 0,.bool false,.slice none 0 0,.slice none 0 0],.int .i64 de]) (by simp [results,Tryz.results99,go_sem,K2.c 0 rfl,K2.c 1 rfl,K2.c 2 rfl,K2.c 3 rfl,K2.c 4 rfl]) rfl ?_;rw [HY.out];exact DP HP.out.at_
       ·have hpe:(ep==0)=false:=beq_eq_false_iff_ne.2 hep
        have HNPZ:=qH (gp.2.2 hep);have HEP:=qH hep;clear gp;go_wp2
        go_loopw [70] (fun i wr=>iA w W8 bx B2 n1 n2 np t sp ep nv i wr) (fun i _=>np-(intOf i).toNat)
        case atStart=>exact⟨0,_,[],_,_,Nat.zero_le _,rfl,HP0.out⟩
        case round =>
         obtain⟨k,pv,acc2,sj,ej,hk,rfl,hP⟩:=hrel;have HP:=qH hP;clear hP;by_cases hlt:k<np
         ·exact absurd hlt (by have:=HNPZ.out;omega)
         ·obtain rfl:k=np:=by omega
          have hst:=HP.out.st;rw [Nat.sub_self] at hst;have HST:=qH (show AJ k (sp,ep) []=((sj,ej),acc2) from hst);obtain⟨us,h0,hrow,hB,hel⟩:=HP.out.own;obtain⟨Ap,cp,rfl,hcp⟩:=IT hrow;clear hst h0 hrow hel hB HP0
          have HX:=qH (HTAIL.out.trans (Gd HNP.out HST.out (by first|exact hbd|exact fun e=>hbd ⟨trivial,e.2⟩)))
          go_wp2_with fail
          refine(Ju _ _ _ _ HP.out.at_.rd).mono ?_;rintro e v9 ⟨rfl,rfl⟩;have d0:=HP.out.at_.res.c 0 rfl;have d1:=HP.out.at_.res.c 1 rfl;have d2:=HP.out.at_.res.c 2 rfl;have d3:=HP.out.at_.res.c 3 rfl;have d4:=HP.out.at_.res.c 4 rfl;have f0:=HP.out.at_.res.frozen 0;have f1:=HP.out.at_.res.frozen 1;have f2:=HP.out.at_.res.frozen 2;have f3:=HP.out.at_.res.frozen 3;have f4:=HP.out.at_.res.frozen 4;have x0:wr.cell? ⟨bx,0,none⟩=some (.int .i64 n1):=HP.out.at_.x.c 0 rfl;have x1:wr.cell? ⟨bx,1,none⟩=some (.int .i64 n2):=HP.out.at_.x.c 1 rfl;have x2:wr.cell? ⟨bx,2,none⟩=some (.bool t):=HP.out.at_.x.c 2 rfl;have x3:wr.cell? ⟨bx,3,none⟩=some (nv):=HP.out.at_.x.c 3 rfl;have x4:wr.cell? ⟨bx,4,none⟩=some (.slice Ap acc2.length cp):=HP.out.at_.x.c 4 rfl;generalize hde:AG sj ej=de at *
          have hd0:de≠0:=by
           have hej:=HST.out;rw [HNPZ.out] at hej;have hej2:((sp,ep),([]:List (List (List UInt8))))=((sj,ej),acc2):=hej
           injection hej2 with h1 _
           injection h1 with _ h2
           rw [←hde,←h2];unfold AG;simp [HEP.out]
          ·have HY:=qH (HX.out.trans (if_pos hd0))
           have hne:(de != 0)=true:=by rw [bne_iff_ne];exact hd0
           clear HX hd0;go_wp2;have K2:=CK HP.out.at_.res (.int .i64 0) (.int .i64 0) (.bool false) (.slice none 0 0) (.slice none 0 0);refine bodyPost_ret (v:=.tuple #[.agg #[.int .i64 0,.int .i64 0,.bool false,.slice none 0 0,.slice none 0 0],.int .i64 de]) (by simp [results,Tryz.results99,go_sem,K2.c 0 rfl,K2.c 1 rfl,K2.c 2 rfl,K2.c 3 rfl,K2.c 4 rfl]) rfl ?_;rw [HY.out];exact DP HP.out.at_
 ·have HR2:=qH (HRD.out.trans (if_pos he))
  have hne:(e4 != 0)=true:=by rw [bne_iff_ne];exact he
  have d0:=HI5.out.res.c 0 rfl;have d1:=HI5.out.res.c 1 rfl;have d2:=HI5.out.res.c 2 rfl;have d3:=HI5.out.res.c 3 rfl;have d4:=HI5.out.res.c 4 rfl;have f0:=HI5.out.res.frozen 0;have f1:=HI5.out.res.frozen 1;have f2:=HI5.out.res.frozen 2;have f3:=HI5.out.res.frozen 3;have f4:=HI5.out.res.frozen 4;clear HRD he
  go_wp2_with fail
  refine(Hy _ _ _ _ HI5.out.rd).mono ?_;rintro e v5 ⟨rfl,rfl⟩;go_wp2;have K2:=CK HI5.out.res (.int .i64 0) (.int .i64 0) (.bool false) (.slice none 0 0) (.slice none 0 0);refine bodyPost_ret (v:=.tuple #[.agg #[.int .i64 0,.int .i64 0,.bool false,.slice none 0 0,.slice none 0 0],.int .i64 e4]) (by simp [results,Tryz.results99,go_sem,K2.c 0 rfl,K2.c 1 rfl,K2.c 2 rfl,K2.c 3 rfl,K2.c 4 rfl]) rfl ?_;rw [HR2.out];exact DP HI5.out
end Go.Proofs.YtkejaepmoabikaaGreatDoor.W
