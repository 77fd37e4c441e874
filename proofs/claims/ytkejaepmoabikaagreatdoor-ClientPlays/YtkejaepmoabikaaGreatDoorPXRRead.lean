import Derived.Test.YtkejaepmoabikaaGreatDoorP1b
import Derived.Test.YtkejaepmoabikaaGreatDoorP1c
namespace Go.Proofs.YtkejaepmoabikaaGreatDoor.W
open Go.RowKit
open Lib renaming hid → qH
open _root_.Go.Proofs.Tryz renaming prog → qP
set_option maxHeartbeats 4000000
set_option maxRecDepth 100000
structure N12 (w:World) (br bx B n1 n2 n4:Nat) (t:Bool) (s4:ByteArray) (k:Nat) (nv:Value) (acc:List KV) (sj:ByteArray) (ej:Int) (wr:World):Prop where
 st:Lk (AN n4 (s4,0) []).1 (AN (n4-k) (sj,ej) acc).1∧(AN n4 (s4,0) []).2=(AN (n4-k) (sj,ej) acc).2
 len:acc.length=k
 sz:sj.size≤9223372036854775807
 at_:Cl w br bx sj ej n1 n2 t nv (.slice none 0 0) wr
 row:wr.ownsRow B 36 2 nv k (AH acc)
 ge:B≤wr.heap.size
 lt:bx<B
def eT (w:World) (br bx B n1 n2 n4:Nat) (t:Bool) (s4:ByteArray) (i:Value) (wr:World):Prop:=∃ k nv acc sj ej,k≤n4∧i=.int .i64 (k:Nat)∧N12 w br bx B n1 n2 n4 t s4 k nv acc sj ej wr
theorem Xz {w wr W w9:World} {br bx B n1 n2 n4 k g gg cap:Nat} {t:Bool} {s4 sj sa s5 s6 sb ta tb:ByteArray} {ej ea eb:Int} {nv:Value} {acc:List KV} (h:N12 w br bx B n1 n2 n4 t s4 k nv acc sj ej wr) (hk:k<n4)
  (h1:Aj sj ej=((sa,ea),ta)) (h5:ea=0→s5=sa) (h2:Aj s5 ea=((sb,eb),tb)) (h6:eb=0→s6=sb) (hz6:s6.size≤9223372036854775807) (hM:Mid w br bx B g s6 eb n1 n2 t nv k acc ta tb W) (hB:B≤W.heap.size)
  (hown9:w9.ownsRow B 36 2 (.slice (some ⟨gg,0,none⟩) (k+1) cap) (k+1) (AH (acc++[(ta,tb)]))) (hgrow9:W.grownBy w9 nv.ownBlock) :
  Cl w br bx s6 eb n1 n2 t nv (.slice none 0 0) w9∧N12 w br bx B n1 n2 n4 t s4 (k+1) (.slice (some ⟨gg,0,none⟩) (k+1) cap) (acc++[(ta,tb)]) s6 eb (w9.setCell ⟨bx,3,none⟩ (.slice (some ⟨gg,0,none⟩) (k+1) cap)):=by
 have hlt:=h.lt;have A:=hM.core.grown hgrow9 (fun j hj=>by have:=(hM.row.lt j hj).1;omega);have g9:=hgrow9.size;have l1:Lk (s5,ea) (sa,ea):=⟨rfl,fun e=>h5 e⟩;have l2:=Nw l1;rw [h2] at l2;have l0:Lk (s6,eb) (sb,eb):=⟨rfl,fun e=>h6 e⟩;have l3:Lk (s6,eb) (Aj sa ea).1:=l0.trans l2.1;refine⟨A,⟨?_,by rw [List.length_append,h.len];rfl,hz6,A.put3 _,hown9.kept (row:=some bx) (JB w9 bx 3 _) (.inr fun e=>by have:=(hown9.lt bx e).1;omega),by rw [Lt];omega,hlt⟩⟩;have hst:=h.st;rw [show n4-k=(n4-(k+1))+1 by omega] at hst;simp only [AN,h1] at hst;have e:tb=(Aj sa ea).2:=l2.2;rw [←e] at hst;have l4:=PH (n4-(k+1)) _ _ (acc++[(ta,tb)]) l3.symm;exact⟨hst.1.trans l4.1,hst.2.trans l4.2⟩
structure P12 (w W8:World) (br bx B n1 n2 np:Nat) (t:Bool) (sp:ByteArray) (ep:Int) (nv:Value) (k:Nat) (pv:Value) (acc:List (List (List UInt8))) (sj:ByteArray) (ej:Int) (wr:World):Prop where
 st:Lk (AJ np (sp,ep) []).1 (AJ (np-k) (sj,ej) acc).1∧(AJ np (sp,ep) []).2=(AJ (np-k) (sj,ej) acc).2
 len:acc.length=k
 sz:sj.size≤9223372036854775807
 at_:Cl w br bx sj ej n1 n2 t nv pv wr
 own:AM B pv acc wr
 keep:∀ g,g<B→g≠bx→g≠br→wr.heap[g]?=W8.heap[g]?
 lt:bx<B
def XA (w W8:World) (br bx B n1 n2 np:Nat) (t:Bool) (sp:ByteArray) (ep:Int) (nv:Value) (i:Value) (wr:World):Prop:=∃ k pv acc sj ej,k≤np∧i=.int .i64 (k:Nat)∧P12 w W8 br bx B n1 n2 np t sp ep nv k pv acc sj ej wr
theorem TK {w W8 wr w5:World} {br bx B n1 n2 np k:Nat} {t:Bool} {sp sj s5:ByteArray} {ep ej e5:Int} {nv pv:Value} {acc:List (List (List UInt8))} (h:P12 w W8 br bx B n1 n2 np t sp ep nv k pv acc sj ej wr) (b5:Below wr.heap.size wr w5) :
  AM B pv acc (((w5.alloc (.cells #[.string s5,.int .i64 e5] 93)).setCell ⟨br,0,none⟩ (.string s5)).setCell ⟨br,1,none⟩ (.int .i64 e5))∧Cl w br bx s5 e5 n1 n2 t nv pv (((w5.alloc (.cells #[.string s5,.int .i64 e5] 93)).setCell ⟨br,0,none⟩ (.string s5)).setCell ⟨br,1,none⟩ (.int .i64 e5)) ∧
   (∀ g,g<B→g≠bx→g≠br→(((w5.alloc (.cells #[.string s5,.int .i64 e5] 93)).setCell ⟨br,0,none⟩ (.string s5)).setCell ⟨br,1,none⟩ (.int .i64 e5)).heap[g]?=W8.heap[g]?)∧(((w5.alloc (.cells #[.string s5,.int .i64 e5] 93)).setCell ⟨br,0,none⟩ (.string s5)).setCell ⟨br,1,none⟩ (.int .i64 e5)).heap.size=w5.heap.size+1:=by
 have hlt:=h.lt;have hl2:=h.at_.l2;obtain⟨_,_,_,hB,_⟩:=h.own;have o1:AM B pv acc w5:=h.own.after b5;have b6:Below w5.heap.size w5 (w5.alloc (.cells #[.string s5,.int .i64 e5] 93)):=(Below.refl _ w5).alloc (Nat.le_refl _) _;have o2:=o1.after b6;have hs:=b5.size;refine⟨(o2.set_ ⟨br,0,none⟩ (by simp only;omega) _).set_ ⟨br,1,none⟩ (by simp only;omega) _,((h.at_.next b5).alloc _).setR s5 e5,fun g h1 h2 h3=>?_,by simp [World.setCell]⟩;refine(Below.heap_setCell _ ⟨br,1,none⟩ _ g h3).trans ((Below.heap_setCell _ ⟨br,0,none⟩ _ g h3).trans ?_);exact(b6.block g (by omega)).trans ((b5.block g (by omega)).trans (h.keep g h1 h2 h3))
theorem PQ {w W8 wr Y w9:World} {br bx B n1 n2 np k gg cap:Nat} {t:Bool} {sp sj sa s5:ByteArray} {ep ej ea:Int} {la:List ByteArray} {nv pv u:Value} {acc:List (List (List UInt8))} {us:List Value} (h:P12 w W8 br bx B n1 n2 np t sp ep nv k pv acc sj ej wr) (hk:k<np) (h1:Bk sj ej=((sa,ea),la)) (h5:ea=0→s5=sa) (hz5:s5.size≤9223372036854775807)
  (hY:Cl w br bx s5 ea n1 n2 t nv pv Y) (hkp:∀ g,g<B→g≠bx→g≠br→Y.heap[g]?=W8.heap[g]?) (h0:us.length=acc.length) (hrow:Y.ownsRow B 74 1 pv k us) (hB:B≤Y.heap.size)
  (h3:∀(i:Nat) u q,us[i]?=some u→acc[i]?=some q→Txs Y Y.heap.size u (bss q)∧BU u∧∀ g,u.ownBlock=some g→B≤g∧g<Y.heap.size∧some g≠pv.ownBlock)
  (hT:Txs Y Y.heap.size u la) (hroom:BU u) (hu:∀ g,u.ownBlock=some g→B≤g∧g<Y.heap.size∧some g≠pv.ownBlock)
  (hown9:w9.ownsRow B 74 1 (.slice (some ⟨gg,0,none⟩) (k+1) cap) (k+1) (us++[u])) (hgrow9:(Y.alloc (.cells #[u] 74)).grownBy w9 pv.ownBlock) (hat9:pv.ownBlock=some gg∨gg=Y.heap.size+1) :
  Cl w br bx s5 ea n1 n2 t nv pv w9∧P12 w W8 br bx B n1 n2 np t sp ep nv (k+1) (.slice (some ⟨gg,0,none⟩) (k+1) cap) (acc++[unb la]) s5 ea (w9.setCell ⟨bx,4,none⟩ (.slice (some ⟨gg,0,none⟩) (k+1) cap)):=by
 have hlt:=h.lt;have A:=(hY.alloc (.cells #[u] 74)).grown hgrow9 (fun j hj=>by have:=(hrow.lt j hj).1;omega);obtain⟨o9,b9⟩:=Ln h.len h0 hrow h3 hB (show Txs Y Y.heap.size u (bss (unb la)) by rw [Tc];exact hT) hroom hu hown9 hgrow9 hat9;refine⟨A,⟨?_,by rw [List.length_append,h.len];rfl,hz5,A.put4 _,o9.set_ _ hlt _,fun g l1 l2 l3=>(Below.heap_setCell w9 ⟨bx,4,none⟩ _ g l2).trans ((b9.block g l1).trans (hkp g l1 l2 l3)),hlt⟩⟩;have hst:=h.st;rw [show np-k=(np-(k+1))+1 by omega] at hst;simp only [AJ,h1] at hst;have l4:=Ny (np-(k+1)) (sa,ea) (s5,ea) (acc++[unb la]) ⟨rfl,fun e=>(h5 e).symm⟩;exact⟨hst.1.trans l4.1,hst.2.trans l4.2⟩
theorem XB {w wr W8:World} {br bx B n1 n2 n4 k:Nat} {t:Bool} {s4 sj:ByteArray} {ej:Int} {nv:Value} {acc:List KV} (h:N12 w br bx B n1 n2 n4 t s4 k nv acc sj ej wr) (h8:∀ g,g<wr.heap.size→g≠br→W8.heap[g]?=wr.heap[g]?) (hs:wr.heap.size≤W8.heap.size) :
  ∀ W,(∀ g,g<W8.heap.size→g≠bx→g≠br→g≠w.heap.size→W.heap[g]?=W8.heap[g]?)→Prs W nv acc:=by
 intro W hW;have hrow:=h.row;rw [←h.len] at hrow;have hlt:=h.lt;have l1:=h.at_.l1;have l2:=h.at_.l2;refine(Prs.of_own hrow).moved fun g hg=>?_;have h1:=hrow.lt g hg;rw [hW g (by omega) (by omega) (by omega) (by omega)];exact h8 g h1.2 (by omega)
theorem TM {w W8 wr:World} {br bx B n1 n2 np n3 k:Nat} {t:Bool} {sp sj:ByteArray} {ep ej:Int} {nv pv:Value} {acc:List (List (List UInt8))} {near:List KV} (h:P12 w W8 br bx B n1 n2 np t sp ep nv k pv acc sj ej wr) (hp:∀ W,(∀ g,g<B→g≠bx→g≠br→g≠w.heap.size→W.heap[g]?=W8.heap[g]?)→Prs W nv near) (ht:t=decide (n3=1)) {v0 v1 v2 v3 v4:Value} :
  ∃ v,Ending.returned (.tuple #[.agg #[.int .i64 n1,.int .i64 n2,.bool t,nv,pv],.int .i64 0])=.returned (.tuple #[v,.int .i64 0])∧Prf (((((wr.setCell ⟨w.heap.size,0,none⟩ v0).setCell ⟨w.heap.size,1,none⟩ v1).setCell ⟨w.heap.size,2,none⟩ v2).setCell ⟨w.heap.size,3,none⟩ v3).setCell ⟨w.heap.size,4,none⟩ v4) v ⟨n1,n2,decide (n3=1),near,acc⟩ ∧
   Aa w (((((wr.setCell ⟨w.heap.size,0,none⟩ v0).setCell ⟨w.heap.size,1,none⟩ v1).setCell ⟨w.heap.size,2,none⟩ v2).setCell ⟨w.heap.size,3,none⟩ v3).setCell ⟨w.heap.size,4,none⟩ v4)∧BP w.heap.size v:=by
 have hl:=h.lt;have l1:=h.at_.l1;have l2:=h.at_.l2;refine⟨_,rfl,⟨_,_,by rw [←ht],hp _ fun g h1 h2 h3 h4=>(Ev wr h4 v0 v1 v2 v3 v4).trans (h.keep g h1 h2 h3),?_⟩,AE h.at_.s_ (Nat.le_refl _) _ _ _ _ _,BP.of fun g hg=>?_⟩
 rotate_left
 ·obtain⟨us,_,hrow,_⟩:=h.own
  have:=(hrow.lt g hg).1
  omega
 exact(((((h.own.set_ ⟨w.heap.size,0,none⟩ (by simp only;omega) v0).set_ ⟨w.heap.size,1,none⟩ (by simp only;omega) v1).set_ ⟨w.heap.size,2,none⟩ (by simp only;omega) v2).set_ ⟨w.heap.size,3,none⟩ (by simp only;omega) v3).set_ ⟨w.heap.size,4,none⟩ (by simp only;omega) v4).pths
theorem Hh {w W:World} {br bx:Nat} {s:ByteArray} {e n1 n2 er:Int} {t:Bool} {nv pv:Value} (h:Cl w br bx s e n1 n2 t nv pv W) :
  ∃ v,Ending.returned (.tuple #[.agg #[.int .i64 0,.int .i64 0,.bool false,.slice none 0 0,.slice none 0 0],.int .i64 er])=.returned (.tuple #[v,.int .i64 er])∧Prf (((((W.setCell ⟨w.heap.size,0,none⟩ (.int .i64 0)).setCell ⟨w.heap.size,1,none⟩ (.int .i64 0)).setCell ⟨w.heap.size,2,none⟩ (.bool false)).setCell ⟨w.heap.size,3,none⟩ (.slice none 0 0)).setCell ⟨w.heap.size,4,none⟩ (.slice none 0 0)) v Pf.zero∧Aa w (((((W.setCell ⟨w.heap.size,0,none⟩ (.int .i64 0)).setCell ⟨w.heap.size,1,none⟩ (.int .i64 0)).setCell ⟨w.heap.size,2,none⟩ (.bool false)).setCell ⟨w.heap.size,3,none⟩ (.slice none 0 0)).setCell ⟨w.heap.size,4,none⟩ (.slice none 0 0))∧BP w.heap.size v :=
 ⟨_,rfl,Prf.zero _,AE h.s_ (Nat.le_refl _) _ _ _ _ _,BP.nil⟩
theorem RK (s s4:ByteArray) (n1 n2 n3 n4:Nat) (t:Bool) (w:World) (h4:n4≤2) (hz4:s4.size≤9223372036854775807) (ht:t=decide (n3=1))
  (HD:Hid (∀ W,Aa w W→Calls qP 163 #[.agg #[.string s,.int .i64 0]] W fun e w'=>Aa W w'∧e=.returned (.tuple #[.agg #[.string s4,.int .i64 0],.agg #[.int .i64 n1,.int .i64 n2,.bool t,.slice none 0 0,.slice none 0 0],.int .i64 n4,.int .i64 0])))
  (TX:Hid (∀ s e W,s.size≤9223372036854775807→Calls qP 40 #[.agg #[.string s,.int .i64 e]] W fun en w'=>∃ s',en=.returned (.tuple #[.agg #[.string s',.int .i64 (Aj s e).1.2],.string (Aj s e).2])∧((Aj s e).1.2=0→s'=(Aj s e).1.1)∧s'.size≤9223372036854775807∧Below W.heap.size W w'))
  (NU:Hid (∀ s e W,s.size≤9223372036854775807→Calls qP 41 #[.agg #[.string s,.int .i64 e]] W fun en w'=>en=.returned (.tuple #[.agg #[.string (Ao s e).1.1,.int .i64 (Ao s e).1.2],.int .i64 (Ao s e).2])∧Below W.heap.size W w'))
  (LS:Hid (∀ s e W,s.size≤9223372036854775807→Calls qP 164 #[.agg #[.string s,.int .i64 e]] W fun en w'=>∃ s' A m c,en=.returned (.tuple #[.agg #[.string s',.int .i64 (Bk s e).1.2],.slice A m c])∧((Bk s e).1.2=0→s'=(Bk s e).1.1)∧s'.size≤9223372036854775807∧Txs w' w'.heap.size (.slice A m c) (Bk s e).2∧(∀ g,(Value.slice A m c).ownBlock=some g→W.heap.size≤g∧g<w'.heap.size)∧BU (.slice A m c)∧Below W.heap.size W w'))
  (DN:Hid (∀ s e W,Calls qP 42 #[.agg #[.string s,.int .i64 e]] W fun en w'=>en=.returned (.int .i64 (AG s e))∧Below W.heap.size W w'))
  (R:Pf×Int) (hR:R=Dm n1 n2 n3 (AN n4 (s4,0) []).2 (AN n4 (s4,0) []).1.1 (AN n4 (s4,0) []).1.2) :
  Calls qP 129 #[.string s] w fun e w'=>∃ v,e=.returned (.tuple #[v,.int .i64 R.2])∧Prf w' v R.1∧Aa w w'∧BP w.heap.size v:=by
 have HT:=qH ht;have HR:=qH hR;clear hR;clear ht;have k0:=Blk.new w 112 #[.int .i64 0,.int .i64 0,.bool false,.slice none 0 0,.slice none 0 0];have S0:=qH (show Aa w (w.alloc (.cells #[.int .i64 0,.int .i64 0,.bool false,.slice none 0 0,.slice none 0 0] 112)) from Ad ((Below.refl _ w).alloc (Nat.le_refl _) _));have K0:=qH k0;clear k0;go_enter Tryz.func129,Tryz.ntmps129
 go_wp2_with fail
 refine(HD.out _ S0.out).mono ?_;rintro e w1 ⟨s1,rfl⟩;have S1:=qH (show Aa w w1 from Ad (Ae S0.out.below s1.below));have HC0:=qH (Lq (s:=s4) (e:=0) (n1:=n1) (n2:=n2) (t:=t) (nv:=.slice none 0 0) (pv:=.slice none 0 0) S1.out (K0.out.below s1.below K0.out.lt));clear HD S0 K0 s1 S1;go_wp2;generalize (w1.alloc (.cells #[.string s4,.int .i64 0] 93)).alloc (.cells #[.int .i64 n1,.int .i64 n2,.bool t,.slice none 0 0,.slice none 0 0] 112)=W1 at *;generalize w1.heap.size=br at *;generalize hbx:br+1=bx at *;obtain⟨B,hB⟩:∃ B,B=W1.heap.size:=⟨_,rfl⟩;have HN0:=qH (show N12 w br bx B n1 n2 n4 t s4 0 (.slice none 0 0) [] s4 0 W1 from⟨⟨Lk.refl _,rfl⟩,rfl,hz4,HC0.out,World.ownsRow_nil _ _ _ _,by omega,by rw [hB];exact HC0.out.lt⟩);clear HC0 hbx hB hz4
 go_loopw [8] (fun i wr=>eT w br bx B n1 n2 n4 t s4 i wr) (fun i _=>n4-(intOf i).toNat)
 case atStart=>exact⟨0,_,[],_,_,Nat.zero_le _,rfl,HN0.out⟩
 case round =>
  clear HN0;obtain⟨k,nv,acc,sj,ej,hk,rfl,hN⟩:=hrel;have HN:=qH hN;clear hN;obtain⟨An,cn,rfl,hcn⟩:=Db HN.out.row;by_cases hlt:k<n4
  ·have i1:(k:Int)<(n4:Int):=by omega
   have HK4:=qH hlt
   have HM:=qH (show Mid w br bx B wr.heap.size sj ej n1 n2 t (.slice An k cn) k acc ⟨#[]⟩ ⟨#[]⟩ (wr.alloc (.cells #[.string ⟨#[]⟩,.string ⟨#[]⟩] 36)) from
    ⟨HN.out.at_.alloc _,GM HN.out.row ((Below.refl _ wr).alloc (Nat.le_refl _) _),Blk.new wr 36 #[.string ⟨#[]⟩,.string ⟨#[]⟩],HN.out.lt,HN.out.ge,fun j hj=>(HN.out.row.lt j hj).2⟩)
   obtain⟨⟨⟨sa,ea⟩,ta⟩,hd1⟩:∃ r,Aj sj ej=r:=⟨_,rfl⟩;have T1:=qH (fun W=>TX.out sj ej W HN.out.sz);rw [hd1] at T1;have HD1:=qH hd1;simp only at T1;have a0:=HM.out.core.r0;have a1:=HM.out.core.r1;have a2:=HM.out.core.rf 0;have a3:=HM.out.core.rf 1;clear hd1
   go_wp2_with fail
   generalize wr.alloc (.cells #[.string ⟨#[]⟩,.string ⟨#[]⟩] 36)=W2 at *;generalize wr.heap.size=g at *;refine(T1.out _).mono ?_;rintro e w5 ⟨s5,rfl,hs5,hz5,b5⟩;have HM5:=qH ((HM.out.next b5).alloc (.cells #[.string s5,.int .i64 ea] 93));have HM6:=qH ((HM5.out.setR s5 ea).setX ta);have HS5:=qH (And.intro hs5 hz5);obtain⟨⟨⟨sb,eb⟩,tb⟩,hd2⟩:∃ r,Aj s5 ea=r:=⟨_,rfl⟩;have T2:=qH (fun W=>TX.out s5 ea W hz5);rw [hd2] at T2;have HD2:=qH hd2;simp only at T2;clear a0 a1 a2 a3 HM T1 hs5 hz5 b5 hd2;have a0:=HM5.out.core.r0;have a1:=HM5.out.core.r1;have a2:=HM5.out.core.rf 0;have a3:=HM5.out.core.rf 1;have p0:=HM5.out.p0;have p1:=HM5.out.pf 0;have HM5s:=qH (HM5.out.setR s5 ea);have p2:=HM5s.out.p0;have p3:=HM5s.out.pf 0;have q0:=HM6.out.core.r0;have q1:=HM6.out.core.r1
   go_wp2_with fail
   clear a0 a1 a2 a3 p0 p1 p2 p3 q0 q1 HM5 HM5s;generalize ((((w5.alloc (.cells #[.string s5,.int .i64 ea] 93)).setCell ⟨br,0,none⟩ (.string s5)).setCell ⟨br,1,none⟩ (.int .i64 ea)).setCell ⟨g,0,none⟩ (.string ta))=W5 at *;refine(T2.out _).mono ?_;rintro e w6 ⟨s6,rfl,hs6,hz6,b6⟩;have HM7:=qH ((HM6.out.next b6).alloc (.cells #[.string s6,.int .i64 eb] 93));have HM8:=qH ((HM7.out.setR s6 eb).setY tb);have HM9:=qH (HM8.out.alloc (.cells #[.string ta,.string tb] 36));have HS6:=qH (And.intro hs6 hz6);clear HM6 T2 hs6 hz6 b6;have a0:=HM7.out.core.r0;have a1:=HM7.out.core.r1;have a2:=HM7.out.core.rf 0;have a3:=HM7.out.core.rf 1;have p0:=HM7.out.p1;have p1:=HM7.out.pf 1;have HM7s:=qH (HM7.out.setR s6 eb);have p2:=HM7s.out.p1;have p3:=HM7s.out.pf 1;have q0:=HM8.out.p0;have q1:=HM8.out.p1;have q3:=HM8.out.core.x3
   have hsz9:((((w6.alloc (.cells #[.string s6,.int .i64 eb] 93)).setCell ⟨br,0,none⟩ (.string s6)).setCell ⟨br,1,none⟩ (.int .i64 eb)).setCell ⟨g,1,none⟩ (.string tb)).heap.size=w6.heap.size+1:=by simp [World.setCell]
   have hpb:=Eu ((((w6.alloc (.cells #[.string s6,.int .i64 eb] 93)).setCell ⟨br,0,none⟩ (.string s6)).setCell ⟨br,1,none⟩ (.int .i64 eb)).setCell ⟨g,1,none⟩ (.string tb)) (ta,tb);rw [hsz9] at hpb;have PB:=qH hpb
   have hk4:k≤2:=by omega
   have HLEN:=qH HN.out.len
   have hrow9:(((((w6.alloc (.cells #[.string s6,.int .i64 eb] 93)).setCell ⟨br,0,none⟩ (.string s6)).setCell ⟨br,1,none⟩ (.int .i64 eb)).setCell ⟨g,1,none⟩ (.string tb)).alloc (.cells #[.string ta,.string tb] 36)).ownsRow B 36 2 (.slice An k cn) acc.length (AH acc):=by rw [HN.out.len];exact HM9.out.row
   have HROW:=qH hrow9;have HSB:=qH (show B≤(((((w6.alloc (.cells #[.string s6,.int .i64 eb] 93)).setCell ⟨br,0,none⟩ (.string s6)).setCell ⟨br,1,none⟩ (.int .i64 eb)).setCell ⟨g,1,none⟩ (.string tb)).alloc (.cells #[.string ta,.string tb] 36)).heap.size by have h1:=HM9.out.core.lt;have h2:=HM8.out.bg;have h3:=HM9.out.p.lt;omega);clear hpb hsz9 hrow9
   go_wp2_with (at_builtin;(refine Dz _ rfl _ _ 22 Tryz.underlying22 rfl B (.slice An k cn) (.slice (some ⟨w6.heap.size+1,0,none⟩) 1 1) acc [(ta,tb)] rfl rfl HROW.out PB.out HSB.out (by have:=HLEN.out;simp;omega) ?_;intro v9 w9 o9 gr9 at9;have hl9:(acc++[(ta,tb)]).length=k+1:=(by rw [List.length_append,HLEN.out];rfl);rw [hl9] at o9;obtain⟨gg,cap9,rfl⟩:=MK o9;have R9:=qH (Xz HN.out (HK4.out) HD1.out HS5.out.1 HD2.out HS6.out.1 HS6.out.2 HM9.out HSB.out o9 gr9);have z9:=R9.out.1.x3;have y9:=R9.out.1.xf 3;clear o9 gr9 at9 hl9))
   have RN:=qH R9.out.2;clear R9 HM7s HM7 HM8 HM9 PB HROW HSB HS5 HS6 HD1 HD2
   go_roundw
   case rel=>exact⟨k+1,_,_,_,_,by omega,by first|rfl|go_num,RN.out⟩
   case measure=>simp [intOf];omega
  ·obtain rfl:k=n4:=by omega
   have hst:=HN.out.st;rw [Nat.sub_self] at hst
   have HTAIL:=qH (show R=Dm n1 n2 n3 acc sj ej by
    rw [HR.out,hst.2]
    exact ZW (b:=(sj,ej)) hst.1)
   obtain⟨⟨⟨sp,ep⟩,np⟩,hnp⟩:∃ r,Ao sj ej=r:=⟨_,rfl⟩;have NP:=qH (fun W=>NU.out sj ej W HN.out.sz);rw [hnp] at NP;simp only at NP;have gp:=Ay sj ej;rw [hnp] at gp;simp only at gp
   have hzp:sp.size≤9223372036854775807:=by have:=HN.out.sz;omega
   have HNP:=qH hnp;have a0:=HN.out.at_.r0;have a1:=HN.out.at_.r1;clear hst hnp HR
   go_wp2_with fail
   refine(NP.out _).mono ?_;rintro e w7 ⟨rfl,b7⟩;have HC7:=qH (HN.out.at_.next b7);have HC8:=qH (HC7.out.setR sp ep);have HREST:=qH (XB (W8:=(w7.setCell ⟨br,0,none⟩ (.string sp)).setCell ⟨br,1,none⟩ (.int .i64 ep)) HN.out (fun g h1 h2=>(Below.heap_setCell _ ⟨br,1,none⟩ _ g h2).trans ((Below.heap_setCell _ ⟨br,0,none⟩ _ g h2).trans (b7.block g h1))) (by have:=b7.size;simp [World.setCell];omega));clear a0 a1 b7 NP HN;have a0:=HC7.out.r0;have a1:=HC7.out.r1;have a2:=HC7.out.rf 0;have a3:=HC7.out.rf 1;have q1:=HC8.out.r1;by_cases hbd:ep=0∧2<np
   ·obtain⟨rfl,hp2⟩:=hbd
    have HY:=qH (HTAIL.out.trans (Lo HNP.out hp2))
    have hp3:(2:Int)<(np:Int):=by omega
    have d0:=HC8.out.res.c 0 rfl;have d1:=HC8.out.res.c 1 rfl;have d2:=HC8.out.res.c 2 rfl;have d3:=HC8.out.res.c 3 rfl;have d4:=HC8.out.res.c 4 rfl;have f0:=HC8.out.res.frozen 0;have f1:=HC8.out.res.frozen 1;have f2:=HC8.out.res.frozen 2;have f3:=HC8.out.res.frozen 3;have f4:=HC8.out.res.frozen 4;clear HTAIL hp2 gp;go_wp2;have K2:=CK HC8.out.res (.int .i64 0) (.int .i64 0) (.bool false) (.slice none 0 0) (.slice none 0 0);refine bodyPost_ret (v:=.tuple #[.agg #[.int .i64 0,.int .i64 0,.bool false,.slice none 0 0,.slice none 0 0],.int .i64 6]) (by simp [results,Tryz.results129,go_sem,K2.c 0 rfl,K2.c 1 rfl,K2.c 2 rfl,K2.c 3 rfl,K2.c 4 rfl]) rfl ?_;rw [HY.out];exact Hh HC8.out
   ·have hnp2:np≤2:=by
     by_cases h:ep=0
     ·omega
     ·have:=gp.2.2 h;omega
    have HBD:=qH hbd;clear gp hbd;by_cases hep:ep=0
    ·subst hep
     have hp3:¬(2:Int)<(np:Int):=by omega
     go_wp2;clear a0 a1 a2 a3 q1 HC7 hp3;generalize (w7.setCell ⟨br,0,none⟩ (.string sp)).setCell ⟨br,1,none⟩ (.int .i64 0)=W8 at *;have HP0:=qH (show P12 w W8 br bx W8.heap.size n1 n2 np t sp 0 (.slice An k cn) 0 (.slice none 0 0) [] sp 0 W8 from⟨⟨Lk.refl _,rfl⟩,rfl,hzp,HC8.out,AM.nil (Nat.le_refl _),fun g _ _ _=>rfl,HC8.out.lt⟩);generalize hnv:Value.slice An k cn=nv at *;obtain⟨B2,hB2⟩:∃ B2,B2=W8.heap.size:=⟨_,rfl⟩;rw [←hB2] at HP0 HREST;clear hB2 HC8
     go_loopw [15] (fun i wr=>XA w W8 br bx B2 n1 n2 np t sp 0 nv i wr) (fun i _=>np-(intOf i).toNat)
     case atStart=>exact⟨0,_,[],_,_,Nat.zero_le _,rfl,HP0.out⟩
     case round =>
      clear HP0;obtain⟨k2,pv,acc2,sk,ek,hk2,rfl,hP⟩:=hrel;have HP:=qH hP;clear hP;by_cases hlt2:k2<np
      ·have i1:(k2:Int)<(np:Int):=by omega
       have HKL:=qH hlt2;obtain⟨⟨⟨sa,ea⟩,la⟩,hd⟩:∃ r,Bk sk ek=r:=⟨_,rfl⟩;have L1:=qH (fun W=>LS.out sk ek W HP.out.sz);rw [hd] at L1;have HDL:=qH hd;simp only at L1;have a0:=HP.out.at_.r0;have a1:=HP.out.at_.r1;clear hd
       go_wp2_with fail
       refine(L1.out _).mono ?_;rintro e w5 ⟨s5,A5,m5,c5,rfl,h5,z5,T5,U5,R5,b5⟩;have HM:=qH (TK (s5:=s5) (e5:=ea) HP.out b5);have HCA:=qH ((HP.out.at_.next b5).alloc (.cells #[.string s5,.int .i64 ea] 93))
       have HG:=qH (show ∀ g,(Value.slice A5 m5 c5).ownBlock=some g→br<g∧g<w5.heap.size∧B2≤g∧some g≠pv.ownBlock from fun g hg=>by
        have u1:=U5 g hg;have u2:=HP.out.at_.lt;have u3:=HP.out.at_.l2;obtain⟨_,_,_,u4,_⟩:=HP.out.own
        exact⟨by omega,u1.2,by omega,fun e=>by have:=(HP.out.own.lt g e.symm).2;omega⟩)
       have HTX:=qH (TH (br:=br) (s5:=s5) (e5:=ea) T5 (fun g hg=>⟨(HG.out g hg).1,(HG.out g hg).2.1⟩));have HH:=qH (And.intro h5 (And.intro z5 R5));obtain⟨us,h0,hrow,hB,hel⟩:=HM.out.1;have HU:=qH (And.intro h0 (And.intro hB hel));rw [HP.out.len] at hrow;obtain⟨Ap,cp,rfl,hcp⟩:=Db hrow;have HROW:=qH hrow
       have hk9:k2≤2:=by omega
       clear a0 a1 L1 h5 z5 T5 U5 R5 b5 h0 hrow hB hel;have a0:=HCA.out.r0;have a1:=HCA.out.r1;have a2:=HCA.out.rf 0;have a3:=HCA.out.rf 1;have q4:=HM.out.2.1.x4
       go_wp2_with (at_builtin;(refine Fc rfl _ _ rfl B2 k2 (.slice Ap k2 cp) (.slice A5 m5 c5) us rfl (((w5.alloc (.cells #[.string s5,.int .i64 ea] 93)).setCell ⟨br,0,none⟩ (.string s5)).setCell ⟨br,1,none⟩ (.int .i64 ea)) (w5.heap.size+1) HM.out.2.2.2 rfl HROW.out HU.out.2.1 rfl (by omega) ?_;intro gg cap9 w9 o9 gr9 at9;have R9:=qH (PQ HP.out HKL.out HDL.out HH.out.1 HH.out.2.1 HM.out.2.1 HM.out.2.2.1 HU.out.1 HROW.out HU.out.2.1 HU.out.2.2 HTX.out HH.out.2.2 (fun g hg=>⟨(HG.out g hg).2.2.1,by rw [HM.out.2.2.2];have:=(HG.out g hg).2.1;omega,(HG.out g hg).2.2.2⟩) o9 gr9 at9);have z9:=R9.out.1.x4;have y9:=R9.out.1.xf 4;clear o9 gr9 at9))
       have RN:=qH R9.out.2;clear R9 HM HCA HG HTX HH HU HROW HDL
       go_roundw
       case rel=>exact⟨k2+1,_,_,_,_,by omega,by first|rfl|go_num,RN.out⟩
       case measure=>simp [intOf];omega
      ·obtain rfl:k2=np:=by omega
       have hst2:=HP.out.st;rw [Nat.sub_self] at hst2;obtain⟨⟨⟨sq,eq⟩,lq⟩,hpf⟩:∃ r,AJ k2 (sp,0) []=r:=⟨_,rfl⟩;rw [hpf] at hst2;obtain⟨hst3,hst4⟩:=hst2;have hlq:lq=acc2:=hst4;subst hlq;have hdn:AG sq eq=AG sk ek:=Nx hst3
       have hx:=HTAIL.out.trans (Gd (n1:=n1) (n2:=n2) (n3:=n3) (acc:=acc) HNP.out hpf (by first|exact HBD.out|exact fun e=>HBD.out ⟨trivial,e.2⟩))
       rw [hdn] at hx;have HX:=qH hx;obtain⟨us,h0,hrow,hB,hel⟩:=HP.out.own;rw [HP.out.len] at hrow;obtain⟨Ap,cp,rfl,hcp⟩:=Db hrow;obtain⟨Am,mm,cm,hm⟩:∃ Am mm cm,nv=.slice Am mm cm:=⟨_,_,_,hnv.symm⟩;clear hst3 hst4 hdn hx hpf h0 hrow hB hel hnv;subst hm;have a0:=HP.out.at_.r0;have a1:=HP.out.at_.r1
       go_wp2_with fail
       refine(DN.out sk ek _).mono ?_;rintro e w9 ⟨rfl,b9⟩;have HC9:=qH (HP.out.at_.next b9);have HP9:=qH (show P12 w W8 br bx B2 n1 n2 k2 t sp 0 (.slice Am mm cm) k2 (.slice Ap k2 cp) lq sk ek w9 from⟨HP.out.st,HP.out.len,HP.out.sz,HC9.out,HP.out.own.after b9,fun g g1 g2 g3=>(b9.block g (by obtain⟨_,_,_,u4,_⟩:=HP.out.own;omega)).trans (HP.out.keep g g1 g2 g3),HP.out.lt⟩);clear a0 a1 b9 HP;have d0:=HC9.out.res.c 0 rfl;have d1:=HC9.out.res.c 1 rfl;have d2:=HC9.out.res.c 2 rfl;have d3:=HC9.out.res.c 3 rfl;have d4:=HC9.out.res.c 4 rfl;have f0:=HC9.out.res.frozen 0;have f1:=HC9.out.res.frozen 1;have f2:=HC9.out.res.frozen 2;have f3:=HC9.out.res.frozen 3;have f4:=HC9.out.res.frozen 4;have x0:=HC9.out.x.c 0 rfl;have x1:=HC9.out.x.c 1 rfl;have x2:=HC9.out.x.c 2 rfl;have x3:=HC9.out.x.c 3 rfl;have x4:=HC9.out.x.c 4 rfl;generalize AG sk ek=de at *;by_cases hd0:de=0
       ·subst hd0
        have HY:=qH (HX.out.trans (if_neg (by simp)));clear HX;go_wp2;have K2:=CK HC9.out.res (.int .i64 n1) (.int .i64 n2) (.bool t) (.slice Am mm cm) (.slice Ap k2 cp);refine bodyPost_ret (v:=.tuple #[.agg #[.int .i64 n1,.int .i64 n2,.bool t,.slice Am mm cm,.slice Ap k2 cp],.int .i64 0]) (by simp [results,Tryz.results129,go_sem,K2.c 0 rfl,K2.c 1 rfl,K2.c 2 rfl,K2.c 3 rfl,K2.c 4 rfl]) rfl ?_;rw [HY.out];exact TM HP9.out HREST.out HT.out
       ·have HY:=qH (HX.out.trans (if_pos hd0))
        have hne:(de != 0)=true:=by rw [bne_iff_ne];exact hd0
        clear HX hd0;go_wp2;have K2:=CK HC9.out.res (.int .i64 0) (.int .i64 0) (.bool false) (.slice none 0 0) (.slice none 0 0);refine bodyPost_ret (v:=.tuple #[.agg #[.int .i64 0,.int .i64 0,.bool false,.slice none 0 0,.slice none 0 0],.int .i64 de]) (by simp [results,Tryz.results129,go_sem,K2.c 0 rfl,K2.c 1 rfl,K2.c 2 rfl,K2.c 3 rfl,K2.c 4 rfl]) rfl ?_;rw [HY.out];exact Hh HC9.out
    ·have hpe:(ep==0)=false:=beq_eq_false_iff_ne.2 hep
     clear hep;go_wp2;clear a0 a1 a2 a3 q1 HC7 hpe;generalize (w7.setCell ⟨br,0,none⟩ (.string sp)).setCell ⟨br,1,none⟩ (.int .i64 ep)=W8 at *;have HP0:=qH (show P12 w W8 br bx W8.heap.size n1 n2 np t sp ep (.slice An k cn) 0 (.slice none 0 0) [] sp ep W8 from⟨⟨Lk.refl _,rfl⟩,rfl,hzp,HC8.out,AM.nil (Nat.le_refl _),fun g _ _ _=>rfl,HC8.out.lt⟩);generalize hnv:Value.slice An k cn=nv at *;obtain⟨B2,hB2⟩:∃ B2,B2=W8.heap.size:=⟨_,rfl⟩;rw [←hB2] at HP0 HREST;clear hB2 HC8
     go_loopw [15] (fun i wr=>XA w W8 br bx B2 n1 n2 np t sp ep nv i wr) (fun i _=>np-(intOf i).toNat)
     case atStart=>exact⟨0,_,[],_,_,Nat.zero_le _,rfl,HP0.out⟩
     case round =>
      clear HP0;obtain⟨k2,pv,acc2,sk,ek,hk2,rfl,hP⟩:=hrel;have HP:=qH hP;clear hP;by_cases hlt2:k2<np
      ·have i1:(k2:Int)<(np:Int):=by omega
       have HKL:=qH hlt2;obtain⟨⟨⟨sa,ea⟩,la⟩,hd⟩:∃ r,Bk sk ek=r:=⟨_,rfl⟩;have L1:=qH (fun W=>LS.out sk ek W HP.out.sz);rw [hd] at L1;have HDL:=qH hd;simp only at L1;have a0:=HP.out.at_.r0;have a1:=HP.out.at_.r1;clear hd
       go_wp2_with fail
       refine(L1.out _).mono ?_;rintro e w5 ⟨s5,A5,m5,c5,rfl,h5,z5,T5,U5,R5,b5⟩;have HM:=qH (TK (s5:=s5) (e5:=ea) HP.out b5);have HCA:=qH ((HP.out.at_.next b5).alloc (.cells #[.string s5,.int .i64 ea] 93))
       have HG:=qH (show ∀ g,(Value.slice A5 m5 c5).ownBlock=some g→br<g∧g<w5.heap.size∧B2≤g∧some g≠pv.ownBlock from fun g hg=>by
        have u1:=U5 g hg;have u2:=HP.out.at_.lt;have u3:=HP.out.at_.l2;obtain⟨_,_,_,u4,_⟩:=HP.out.own
        exact⟨by omega,u1.2,by omega,fun e=>by have:=(HP.out.own.lt g e.symm).2;omega⟩)
       have HTX:=qH (TH (br:=br) (s5:=s5) (e5:=ea) T5 (fun g hg=>⟨(HG.out g hg).1,(HG.out g hg).2.1⟩));have HH:=qH (And.intro h5 (And.intro z5 R5));obtain⟨us,h0,hrow,hB,hel⟩:=HM.out.1;have HU:=qH (And.intro h0 (And.intro hB hel));rw [HP.out.len] at hrow;obtain⟨Ap,cp,rfl,hcp⟩:=Db hrow;have HROW:=qH hrow
       have hk9:k2≤2:=by omega
       clear a0 a1 L1 h5 z5 T5 U5 R5 b5 h0 hrow hB hel;have a0:=HCA.out.r0;have a1:=HCA.out.r1;have a2:=HCA.out.rf 0;have a3:=HCA.out.rf 1;have q4:=HM.out.2.1.x4
       go_wp2_with (at_builtin;(refine Fc rfl _ _ rfl B2 k2 (.slice Ap k2 cp) (.slice A5 m5 c5) us rfl (((w5.alloc (.cells #[.string s5,.int .i64 ea] 93)).setCell ⟨br,0,none⟩ (.string s5)).setCell ⟨br,1,none⟩ (.int .i64 ea)) (w5.heap.size+1) HM.out.2.2.2 rfl HROW.out HU.out.2.1 rfl (by omega) ?_;intro gg cap9 w9 o9 gr9 at9;have R9:=qH (PQ HP.out HKL.out HDL.out HH.out.1 HH.out.2.1 HM.out.2.1 HM.out.2.2.1 HU.out.1 HROW.out HU.out.2.1 HU.out.2.2 HTX.out HH.out.2.2 (fun g hg=>⟨(HG.out g hg).2.2.1,by rw [HM.out.2.2.2];have:=(HG.out g hg).2.1;omega,(HG.out g hg).2.2.2⟩) o9 gr9 at9);have z9:=R9.out.1.x4;have y9:=R9.out.1.xf 4;clear o9 gr9 at9))
       have RN:=qH R9.out.2;clear R9 HM HCA HG HTX HH HU HROW HDL
       go_roundw
       case rel=>exact⟨k2+1,_,_,_,_,by omega,by first|rfl|go_num,RN.out⟩
       case measure=>simp [intOf];omega
      ·obtain rfl:k2=np:=by omega
       have hst2:=HP.out.st;rw [Nat.sub_self] at hst2;obtain⟨⟨⟨sq,eq⟩,lq⟩,hpf⟩:∃ r,AJ k2 (sp,ep) []=r:=⟨_,rfl⟩;rw [hpf] at hst2;obtain⟨hst3,hst4⟩:=hst2;have hlq:lq=acc2:=hst4;subst hlq;have hdn:AG sq eq=AG sk ek:=Nx hst3
       have hx:=HTAIL.out.trans (Gd (n1:=n1) (n2:=n2) (n3:=n3) (acc:=acc) HNP.out hpf (by first|exact HBD.out|exact fun e=>HBD.out ⟨trivial,e.2⟩))
       rw [hdn] at hx;have HX:=qH hx;obtain⟨us,h0,hrow,hB,hel⟩:=HP.out.own;rw [HP.out.len] at hrow;obtain⟨Ap,cp,rfl,hcp⟩:=Db hrow;obtain⟨Am,mm,cm,hm⟩:∃ Am mm cm,nv=.slice Am mm cm:=⟨_,_,_,hnv.symm⟩;clear hst3 hst4 hdn hx hpf h0 hrow hB hel hnv;subst hm;have a0:=HP.out.at_.r0;have a1:=HP.out.at_.r1
       go_wp2_with fail
       refine(DN.out sk ek _).mono ?_;rintro e w9 ⟨rfl,b9⟩;have HC9:=qH (HP.out.at_.next b9);have HP9:=qH (show P12 w W8 br bx B2 n1 n2 k2 t sp ep (.slice Am mm cm) k2 (.slice Ap k2 cp) lq sk ek w9 from⟨HP.out.st,HP.out.len,HP.out.sz,HC9.out,HP.out.own.after b9,fun g g1 g2 g3=>(b9.block g (by obtain⟨_,_,_,u4,_⟩:=HP.out.own;omega)).trans (HP.out.keep g g1 g2 g3),HP.out.lt⟩);clear a0 a1 b9 HP;have d0:=HC9.out.res.c 0 rfl;have d1:=HC9.out.res.c 1 rfl;have d2:=HC9.out.res.c 2 rfl;have d3:=HC9.out.res.c 3 rfl;have d4:=HC9.out.res.c 4 rfl;have f0:=HC9.out.res.frozen 0;have f1:=HC9.out.res.frozen 1;have f2:=HC9.out.res.frozen 2;have f3:=HC9.out.res.frozen 3;have f4:=HC9.out.res.frozen 4;have x0:=HC9.out.x.c 0 rfl;have x1:=HC9.out.x.c 1 rfl;have x2:=HC9.out.x.c 2 rfl;have x3:=HC9.out.x.c 3 rfl;have x4:=HC9.out.x.c 4 rfl;generalize AG sk ek=de at *;by_cases hd0:de=0
       ·subst hd0
        have HY:=qH (HX.out.trans (if_neg (by simp)));clear HX;go_wp2;have K2:=CK HC9.out.res (.int .i64 n1) (.int .i64 n2) (.bool t) (.slice Am mm cm) (.slice Ap k2 cp);refine bodyPost_ret (v:=.tuple #[.agg #[.int .i64 n1,.int .i64 n2,.bool t,.slice Am mm cm,.slice Ap k2 cp],.int .i64 0]) (by simp [results,Tryz.results129,go_sem,K2.c 0 rfl,K2.c 1 rfl,K2.c 2 rfl,K2.c 3 rfl,K2.c 4 rfl]) rfl ?_;rw [HY.out];exact TM HP9.out HREST.out HT.out
       ·have HY:=qH (HX.out.trans (if_pos hd0))
        have hne:(de != 0)=true:=by rw [bne_iff_ne];exact hd0
        clear HX hd0;go_wp2;have K2:=CK HC9.out.res (.int .i64 0) (.int .i64 0) (.bool false) (.slice none 0 0) (.slice none 0 0);refine bodyPost_ret (v:=.tuple #[.agg #[.int .i64 0,.int .i64 0,.bool false,.slice none 0 0,.slice none 0 0],.int .i64 de]) (by simp [results,Tryz.results129,go_sem,K2.c 0 rfl,K2.c 1 rfl,K2.c 2 rfl,K2.c 3 rfl,K2.c 4 rfl]) rfl ?_;rw [HY.out];exact Hh HC9.out
theorem Lu (s:ByteArray) (er:Int) (w:World) (he:er≠0)
  (HD:Hid (∀ W,Aa w W→Calls qP 163 #[.agg #[.string s,.int .i64 0]] W fun e w'=>Aa W w'∧∃ s' e' m1 m2 t,e=.returned (.tuple #[.agg #[.string s',.int .i64 e'],.agg #[.int .i64 m1,.int .i64 m2,.bool t,.slice none 0 0,.slice none 0 0],.int .i64 0,.int .i64 er]))) :
  Calls qP 129 #[.string s] w fun e w'=>∃ v,e=.returned (.tuple #[v,.int .i64 er])∧Prf w' v Pf.zero∧Aa w w'∧BP w.heap.size v:=by
 have k0:=Blk.new w 112 #[.int .i64 0,.int .i64 0,.bool false,.slice none 0 0,.slice none 0 0];have S0:=qH (show Aa w (w.alloc (.cells #[.int .i64 0,.int .i64 0,.bool false,.slice none 0 0,.slice none 0 0] 112)) from Ad ((Below.refl _ w).alloc (Nat.le_refl _) _));have K0:=qH k0
 have hen:(er != 0)=true:=by rw [bne_iff_ne];exact he
 clear k0 he;go_enter Tryz.func129,Tryz.ntmps129
 go_wp2_with fail
 refine(HD.out _ S0.out).mono ?_;rintro e w1 ⟨s1,s',e',m1,m2,t,rfl⟩;have S1:=qH (show Aa w w1 from Ad (Ae S0.out.below s1.below));have HC0:=qH (Lq (s:=s') (e:=e') (n1:=m1) (n2:=m2) (t:=t) (nv:=.slice none 0 0) (pv:=.slice none 0 0) S1.out (K0.out.below s1.below K0.out.lt));clear HD S0 K0 s1 S1;have d0:=HC0.out.res.c 0 rfl;have d1:=HC0.out.res.c 1 rfl;have d2:=HC0.out.res.c 2 rfl;have d3:=HC0.out.res.c 3 rfl;have d4:=HC0.out.res.c 4 rfl;have f0:=HC0.out.res.frozen 0;have f1:=HC0.out.res.frozen 1;have f2:=HC0.out.res.frozen 2;have f3:=HC0.out.res.frozen 3;have f4:=HC0.out.res.frozen 4;go_wp2;have K2:=CK HC0.out.res (.int .i64 0) (.int .i64 0) (.bool false) (.slice none 0 0) (.slice none 0 0);refine bodyPost_ret (v:=.tuple #[.agg #[.int .i64 0,.int .i64 0,.bool false,.slice none 0 0,.slice none 0 0],.int .i64 er]) (by simp [results,Tryz.results129,go_sem,K2.c 0 rfl,K2.c 1 rfl,K2.c 2 rfl,K2.c 3 rfl,K2.c 4 rfl]) rfl ?_;exact Hh HC0.out
theorem eU (s:ByteArray) (w:World) (hs:s.size≤9223372036854775807) :
  Calls qP 129 #[.string s] w fun e w'=>∃ v,e=.returned (.tuple #[v,.int .i64 (FU s).2])∧Prf w' v (FU s).1∧Aa w w'∧BP w.heap.size v:=by
 obtain⟨⟨⟨s1,e1⟩,n1⟩,h1⟩:∃ r,Ao s 0=r:=⟨_,rfl⟩;obtain⟨⟨⟨s2,e2⟩,n2⟩,h2⟩:∃ r,Ao s1 e1=r:=⟨_,rfl⟩;obtain⟨⟨⟨s3,e3⟩,n3⟩,h3⟩:∃ r,Ao s2 e2=r:=⟨_,rfl⟩;obtain⟨⟨⟨s4,e4⟩,n4⟩,h4⟩:∃ r,Ao s3 e3=r:=⟨_,rfl⟩;have g1:=Ay s 0;have g2:=Ay s1 e1;have g3:=Ay s2 e2;have g4:=Ay s3 e3;rw [h1] at g1;rw [h2] at g2;rw [h3] at g3;rw [h4] at g4;simp only at g1 g2 g3 g4;have hr:=TG h1 h2 h3 h4
 have HH:∀ W,Calls qP 163 #[rV s 0] W (PE W s4 e4 n1 n2 n3 n4):=fun W =>
  Rv s s1 s2 s3 s4 e1 e2 e3 e4 n1 n2 n3 n4 W (qH fun W=>h1▸GL s 0 W hs) (qH fun W=>h2▸GL s1 e1 W (by omega)) (qH fun W=>h3▸GL s2 e2 W (by omega)) (qH fun W=>h4▸GL s3 e3 W (by omega))
 by_cases he:e4=0
 ·by_cases hb:1<n3∨2<n4∨(n3=1∧0<n4)
  ·rw [if_neg (by simp [he]),if_pos hb] at hr
   rw [hr];refine Lu s 6 w (by decide) (qH fun W _=>(HH W).mono fun e w' ⟨hs,hp⟩=>⟨hs,?_⟩)
   rcases hp with⟨h,_⟩|⟨_,_,s',e',m1,m2,t,h⟩|⟨_,h,_⟩
   ·exact absurd he h
   ·exact⟨s',e',m1,m2,t,h⟩
   ·exact absurd hb h
  ·rw [if_neg (by simp [he]),if_neg hb] at hr
   subst he;refine RK s s4 n1 n2 n3 n4 (decide (n3=1)) w (by omega) (by omega) rfl (qH fun W _=>(HH W).mono fun e w' ⟨hs,hp⟩=>⟨hs,?_⟩) (qH fun s e W hm=>?_) (qH fun s e W hm=>?_) (qH fun s e W hm=>?_) (qH fun s e W=>Tq s e W) (FU s) hr
   ·rcases hp with⟨h,_⟩|⟨_,h,_⟩|⟨_,_,h⟩
    ·exact absurd rfl h
    ·exact absurd h hb
    ·exact h
   ·exact Kn s e W hm
   ·exact GL s e W hm
   ·exact(Ry s e W hm).mono fun en w' ⟨s',v,h1,h2,h3,h4,h5,h6,h7⟩=>by
     obtain⟨A,m,c,rfl,h8⟩:=h6;exact⟨s',A,m,c,h1,h2,h3,h4,h5,⟨A,m,c,rfl,h8⟩,h7⟩
 ·rw [if_pos he] at hr
  rw [hr];refine Lu s e4 w he (qH fun W _=>(HH W).mono fun e w' ⟨hs,hp⟩=>⟨hs,?_⟩)
  rcases hp with⟨_,s',e',m1,m2,t,h⟩|⟨h,_⟩|⟨h,_⟩
  ·exact⟨s',e',m1,m2,t,h⟩
  ·exact absurd h he
  ·exact absurd h he
end Go.Proofs.YtkejaepmoabikaaGreatDoor.W
