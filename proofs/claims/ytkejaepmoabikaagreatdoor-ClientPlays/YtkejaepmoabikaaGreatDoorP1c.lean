import Derived.Deep.RegionHeld3
import Derived.OwnWalk
import Derived.Test.YtkejaepmoabikaaGreatDoorP1b
import Derived.Test.YtkejaepmoabikaaGreatDoorP0d
import Derived.Test.YtkejaepmoabikaaGreatDoorP0b
import Derived.Test.YtkejaepmoabikaaGreatDoorP0f
import Derived.Test.YtkejaepmoabikaaGreatDoorP1a
import Derived.Test.YtkejaepmoabikaaGreatDoorP0c
import Derived.Test.YtkejaepmoabikaaGreatDoorP0g
namespace Go.Proofs.YtkejaepmoabikaaGreatDoor.W
open Go.RowKit
open Lib renaming hid → qH
open _root_.Go.Proofs.Tryz renaming prog → qP
set_option maxHeartbeats 4000000
set_option maxRecDepth 100000
def Dd (l:List KV) (lo k:Nat):List KV:=(l.drop lo).take k
theorem PO {l:List KV} {lo k:Nat} (h:lo+k<l.length):Dd l lo (k+1)=Dd l lo k++[l[lo+k]]:=by
 unfold Dd;rw [List.take_succ_eq_append_getElem (by rw [List.length_drop];omega),List.getElem_drop]
theorem RJ {l:List KV} {lo k:Nat} (h:lo+k≤l.length):(Dd l lo k).length=k:=by unfold Dd;rw [List.length_take,List.length_drop];omega
theorem Vc {l:List KV} {a:Nat} (h:a≤l.length):Dd l (DA a) (CA a l.length-DA a)=GG l a:=by
 have:=EJ h;unfold Dd GG;rw [List.drop_take]
structure RAt (w:World) (b B n N lo:Nat) (l:List KV) (kn kp:Nat) (nv pv:Value) (us:List Value) (wr:World):Prop where
 bx:Blk wr b 112 #[.int .i64 n,.int .i64 N,.bool false,nv,pv]
 res:Blk wr w.heap.size 112 #[.int .i64 0,.int .i64 0,.bool false,.slice none 0 0,.slice none 0 0]
 s:Aa w wr
 lt:w.heap.size<b
 bB:b<B
 size:B≤wr.heap.size
 near:wr.ownsRow B 36 2 nv kn (AH (Dd l lo kn))
 ulen:us.length=kp
 row:wr.ownsRow B 74 1 pv kp us
 at_:∀(i:Nat) u q,us[i]?=some u→(CP l lo kp)[i]?=some q→Txs wr wr.heap.size u (bss q)∧BU u∧∀ g,u.ownBlock=some g→B≤g∧g<wr.heap.size∧some g≠pv.ownBlock∧some g≠nv.ownBlock
 apart:∀ g,nv.ownBlock=some g→some g≠pv.ownBlock
section
variable {w wr W W9:World} {b B n N lo kn kp:Nat} {l:List KV} {nv pv:Value} {us:List Value}
theorem Vd (hs:Aa w W) (hb:Blk W b 112 #[.int .i64 n,.int .i64 N,.bool false,.slice none 0 0,.slice none 0 0]) (hr:Blk W w.heap.size 112 #[.int .i64 0,.int .i64 0,.bool false,.slice none 0 0,.slice none 0 0]) (hlt:w.heap.size<b):RAt w b W.heap.size n N lo l 0 0 (.slice none 0 0) (.slice none 0 0) [] W :=
 ⟨hb,hr,hs,hlt,hb.lt,Nat.le_refl _,World.ownsRow_nil _ _ _ _,rfl,World.ownsRow_nil _ _ _ _,fun i u q h=>by simp at h,fun g h=>by cases h⟩
theorem RAt.next (h:RAt w b B n N lo l kn kp nv pv us wr) (k:Below wr.heap.size wr W):RAt w b B n N lo l kn kp nv pv us W:=by
 refine⟨h.bx.below k h.bx.lt,h.res.below k h.res.lt,Ad (Ae h.s.below k),h.lt,h.bB,Nat.le_trans h.size k.size,GM h.near k,h.ulen,GM h.row k,fun i u q h1 h2=>?_,h.apart⟩;obtain⟨j1,j2,j3⟩:=h.at_ i u q h1 h2;exact⟨(j1.below k).more k.size,j2,fun g hg=>⟨(j3 g hg).1,Nat.lt_of_lt_of_le (j3 g hg).2.1 k.size,(j3 g hg).2.2⟩⟩
theorem RAt.x3 (h:RAt w b B n N lo l kn kp nv pv us wr):wr.cell? ⟨b,3,none⟩=some nv:=h.bx.c 3 rfl
theorem RAt.x4 (h:RAt w b B n N lo l kn kp nv pv us wr):wr.cell? ⟨b,4,none⟩=some pv:=h.bx.c 4 rfl
theorem RAt.xf (h:RAt w b B n N lo l kn kp nv pv us wr) (i:Nat):wr.frozen? ⟨b,i,none⟩=false:=h.bx.frozen i
theorem RAt.noB (h:RAt w b B n N lo l kn kp nv pv us wr):nv.ownBlock≠some b∧pv.ownBlock≠some b:=by
 have:=h.bB;exact⟨fun e=>by have:=(h.near.lt b e).1;omega,fun e=>by have:=(h.row.lt b e).1;omega⟩
theorem RAt.noR (h:RAt w b B n N lo l kn kp nv pv us wr):nv.ownBlock≠some w.heap.size∧pv.ownBlock≠some w.heap.size:=by
 have:=h.bB;have:=h.lt;exact⟨fun e=>by have:=(h.near.lt _ e).1;omega,fun e=>by have:=(h.row.lt _ e).1;omega⟩
theorem RAt.mid3 (h:RAt w b B n N lo l kn kp nv pv us W) (k:W.grownBy W9 nv.ownBlock):W9.cell? ⟨b,3,none⟩=some nv∧W9.frozen? ⟨b,3,none⟩=false :=
 have hb:=h.bx.grown k (by intro e;exact h.noB.1 e.symm)
 ⟨hb.c 3 rfl,hb.frozen 3⟩
theorem RAt.mid4 (h:RAt w b B n N lo l kn kp nv pv us W) (k:W.grownBy W9 pv.ownBlock):W9.cell? ⟨b,4,none⟩=some pv∧W9.frozen? ⟨b,4,none⟩=false :=
 have hb:=h.bx.grown k (by intro e;exact h.noB.2 e.symm)
 ⟨hb.c 4 rfl,hb.frozen 4⟩
theorem JB (W9:World) (b i:Nat) (v:Value):W9.grownBy (W9.setCell ⟨b,i,none⟩ v) (some b) :=
 ⟨rfl,rfl,rfl,by simp [World.setCell],fun k _ hk=>Below.heap_setCell _ _ _ _ (fun e=>hk (by simp [e]))⟩
theorem Lt (W9:World) (b i:Nat) (v:Value):(W9.setCell ⟨b,i,none⟩ v).heap.size=W9.heap.size:=by simp [World.setCell]
theorem RAt.addNear (h:RAt w b B n N lo l kn kp nv pv us W) {gg cap:Nat} (hl:lo+kn<l.length) (hown:W9.ownsRow B 36 2 (.slice (some ⟨gg,0,none⟩) (kn+1) cap) (kn+1) (AH (Dd l lo kn)++[.string l[lo+kn].1,.string l[lo+kn].2])) (k:W.grownBy W9 nv.ownBlock) (hat:nv.ownBlock=some gg∨W.heap.size≤gg) :
  RAt w b B n N lo l (kn+1) kp (.slice (some ⟨gg,0,none⟩) (kn+1) cap) pv us (W9.setCell ⟨b,3,none⟩ (.slice (some ⟨gg,0,none⟩) (kn+1) cap)):=by
 have hbB:=h.bB;have hlt:=h.lt;have hsz:=h.size;have hks:=k.size;have g9:=JB W9 b 3 (.slice (some ⟨gg,0,none⟩) (kn+1) cap);have s9:=Lt W9 b 3 (.slice (some ⟨gg,0,none⟩) (kn+1) cap)
 have hrow9:W9.ownsRow B 74 1 pv kp us:=h.row.kept k (by
  cases e:pv.ownBlock with
  | none=>exact .inl rfl
  | some g=>exact .inr fun e2=>h.apart g e2.symm e.symm)
 have hblk:∀ g,B≤g→g<W.heap.size→some g≠nv.ownBlock→(W9.setCell ⟨b,3,none⟩ (.slice (some ⟨gg,0,none⟩) (kn+1) cap)).heap[g]?=W.heap[g]?:=fun g h1 h2 h3=>(g9.block g (by omega) (by intro e;injection e with e;omega)).trans (k.block g h2 h3)
 have hgB:=(hown.lt gg rfl).1;refine⟨(h.bx.grown k (by intro e;exact h.noB.1 e.symm)).set_ 3 _,(h.res.grown k (by intro e;exact h.noR.1 e.symm)).far (p:=⟨b,3,none⟩) (by simp only;omega) _,Ak (Ad (h.s.below.grown k h.s.2.2.2.1 (fun g hg=>by have:=(h.near.lt g hg).1;omega))) (by simp only;omega) _,hlt,hbB,by omega,?_,h.ulen,hrow9.kept g9 (.inr fun e=>by have:=(hrow9.lt b e).1;omega),fun i u q h1 h2=>?_,fun g hg=>?_⟩
 ·rw [PO hl,Fi]
  exact hown.kept g9 (.inr fun e=>by have:=(hown.lt b e).1;omega)
 ·obtain⟨j1,j2,j3⟩:=h.at_ i u q h1 h2
  refine⟨(j1.moved fun g hg=>hblk g (j3 g hg).1 (j3 g hg).2.1 (j3 g hg).2.2.2).more (by omega),j2,fun g hg=>⟨(j3 g hg).1,by have:=(j3 g hg).2.1;omega,(j3 g hg).2.2.1,fun e=>?_⟩⟩
  injection e with e
  subst e
  rcases hat with h5|h5
  ·exact(j3 _ hg).2.2.2 h5.symm
  ·have:=(j3 _ hg).2.1;omega
 ·have e:gg=g:=by simpa [Value.ownBlock] using hg
  subst e;intro e;have h6:=h.row.lt gg e.symm
  rcases hat with h5|h5
  ·exact h.apart gg h5 e
  ·omega
theorem RAt.addPath (h:RAt w b B n N lo l kn kp nv pv us W) {gg cap:Nat} {u:Value} (hT:Txs W W.heap.size u (bss (pth l (lo+kp)))) (hR:BU u) (hu:∀ g,u.ownBlock=some g→B≤g∧g<W.heap.size∧some g≠pv.ownBlock∧some g≠nv.ownBlock)
  (hown:W9.ownsRow B 74 1 (.slice (some ⟨gg,0,none⟩) (kp+1) cap) (kp+1) (us++[u])) (k:W.grownBy W9 pv.ownBlock) (hat:pv.ownBlock=some gg∨gg=W.heap.size) :
  RAt w b B n N lo l kn (kp+1) nv (.slice (some ⟨gg,0,none⟩) (kp+1) cap) (us++[u]) (W9.setCell ⟨b,4,none⟩ (.slice (some ⟨gg,0,none⟩) (kp+1) cap)):=by
 have hbB:=h.bB;have hlt:=h.lt;have hsz:=h.size;have hks:=k.size;have g9:=JB W9 b 4 (.slice (some ⟨gg,0,none⟩) (kp+1) cap);have s9:=Lt W9 b 4 (.slice (some ⟨gg,0,none⟩) (kp+1) cap)
 have hnear9:W9.ownsRow B 36 2 nv kn (AH (Dd l lo kn)):=h.near.kept k (by
  cases e:nv.ownBlock with
  | none=>exact .inl rfl
  | some g=>exact .inr fun e2=>h.apart g e e2)
 have hblk:∀ g,B≤g→g<W.heap.size→some g≠pv.ownBlock→(W9.setCell ⟨b,4,none⟩ (.slice (some ⟨gg,0,none⟩) (kp+1) cap)).heap[g]?=W.heap[g]?:=fun g h1 h2 h3=>(g9.block g (by omega) (by intro e;injection e with e;omega)).trans (k.block g h2 h3)
 have key:∀(u:Value) (q:List (List UInt8)),(Txs W W.heap.size u (bss q)∧BU u∧∀ g,u.ownBlock=some g→B≤g∧g<W.heap.size∧some g≠pv.ownBlock∧some g≠nv.ownBlock)→Txs (W9.setCell ⟨b,4,none⟩ (.slice (some ⟨gg,0,none⟩) (kp+1) cap)) (W9.setCell ⟨b,4,none⟩ (.slice (some ⟨gg,0,none⟩) (kp+1) cap)).heap.size u (bss q)∧BU u∧∀ g,u.ownBlock=some g→B≤g∧g<(W9.setCell ⟨b,4,none⟩ (.slice (some ⟨gg,0,none⟩) (kp+1) cap)).heap.size∧some g≠(Value.slice (some ⟨gg,0,none⟩) (kp+1) cap).ownBlock∧some g≠nv.ownBlock:=by
  rintro u q ⟨j1,j2,j3⟩;refine⟨(j1.moved fun g hg=>hblk g (j3 g hg).1 (j3 g hg).2.1 (j3 g hg).2.2.1).more (by omega),j2,fun g hg=>⟨(j3 g hg).1,by have:=(j3 g hg).2.1;omega,fun e=>?_,(j3 g hg).2.2.2⟩⟩
  have e:g=gg:=by simpa [Value.ownBlock] using e
  subst e
  rcases hat with h5|h5
  ·exact(j3 _ hg).2.2.1 h5.symm
  ·have:=(j3 _ hg).2.1;omega
 have hul:=h.ulen;refine⟨(h.bx.grown k (by intro e;exact h.noB.2 e.symm)).set_ 4 _,(h.res.grown k (by intro e;exact h.noR.2 e.symm)).far (p:=⟨b,4,none⟩) (by simp only;omega) _,Ak (Ad (h.s.below.grown k h.s.2.2.2.1 (fun g hg=>by have:=(h.row.lt g hg).1;omega))) (by simp only;omega) _,hlt,hbB,by omega,hnear9.kept g9 (.inr fun e=>by have:=(hnear9.lt b e).1;omega),by rw [List.length_append,hul];rfl,hown.kept g9 (.inr fun e=>by have:=(hown.lt b e).1;omega),fun i u' q' h1 h2=>?_,fun g hg e=>?_⟩
 ·rw [Nf] at h2
  by_cases hi:i<us.length
  ·rw [List.getElem?_append_left hi] at h1
   rw [List.getElem?_append_left (by rw [Cx];omega)] at h2;exact key u' q' (h.at_ i u' q' h1 h2)
  ·rw [List.getElem?_append_right (by omega)] at h1
   rw [List.getElem?_append_right (by rw [Cx];omega),Cx] at h2;by_cases hz:i-us.length=0
   ·rw [hz] at h1
    rw [show i-kp=0 by omega] at h2;simp only [List.getElem?_cons_zero,Option.some.injEq] at h1 h2;subst h1 h2;exact key u _ ⟨hT,hR,hu⟩
   ·rw [List.getElem?_eq_none (by simp;omega)] at h1
    cases h1
 ·have e:g=gg:=by simpa [Value.ownBlock] using e
  subst e;have h6:=h.near.lt g hg
  rcases hat with h5|h5
  ·exact h.apart g hg h5.symm
  ·omega
theorem RAt.paths (h:RAt w b B n N lo l kn kp nv pv us W):AM B pv (CP l lo kp) W:=by
 refine⟨us,by rw [h.ulen,Cx],by rw [Cx];exact h.row,h.size,fun i u q h1 h2=>?_⟩;obtain⟨j1,j2,j3⟩:=h.at_ i u q h1 h2;exact⟨j1,j2,fun g hg=>⟨(j3 g hg).1,(j3 g hg).2.1,(j3 g hg).2.2.1⟩⟩
theorem RAt.done {m:Nat} {A1 Ap:Option Addr} {c1 cp:Nat} (h:RAt w b B n N lo l m m (.slice A1 m c1) (.slice Ap m cp) us W) (hm:lo+m≤l.length) {v0 v1 v2 v3 v4:Value} :
  ∃ v,Ending.returned (.agg #[.int .i64 n,.int .i64 N,.bool false,.slice A1 m c1,.slice Ap m cp])=.returned v∧Prf (((((W.setCell ⟨w.heap.size,0,none⟩ v0).setCell ⟨w.heap.size,1,none⟩ v1).setCell ⟨w.heap.size,2,none⟩ v2).setCell ⟨w.heap.size,3,none⟩ v3).setCell ⟨w.heap.size,4,none⟩ v4) v ⟨n,N,false,Dd l lo m,CP l lo m⟩ ∧
   Aa w (((((W.setCell ⟨w.heap.size,0,none⟩ v0).setCell ⟨w.heap.size,1,none⟩ v1).setCell ⟨w.heap.size,2,none⟩ v2).setCell ⟨w.heap.size,3,none⟩ v3).setCell ⟨w.heap.size,4,none⟩ v4):=by
 have h1:=h.lt;have h2:=h.bB;have hn:=RJ hm;have hnear:=h.near;rw [show W.ownsRow B 36 2 (.slice A1 m c1) m (AH (Dd l lo m))=W.ownsRow B 36 2 (.slice A1 m c1) (Dd l lo m).length (AH (Dd l lo m)) by rw [hn]] at hnear;refine⟨_,rfl,⟨_,_,rfl,(Prs.of_own hnear).moved fun g hg=>Ev W (by have:=(hnear.lt g hg).1;omega) v0 v1 v2 v3 v4,?_⟩,AE h.s (by omega) _ _ _ _ _⟩;exact(((((h.paths.set_ ⟨w.heap.size,0,none⟩ (by simp only;omega) v0).set_ ⟨w.heap.size,1,none⟩ (by simp only;omega) v1).set_ ⟨w.heap.size,2,none⟩ (by simp only;omega) v2).set_ ⟨w.heap.size,3,none⟩ (by simp only;omega) v3).set_ ⟨w.heap.size,4,none⟩ (by simp only;omega) v4).pths
end
def Cf (w:World) (r:Option (List UInt8×List (List UInt8))) (m:Nat) (e:Ending) (w':World):Prop :=
 ∃ t u L,e=.returned (.tuple #[.string (bs t),u,.bool r.isSome])∧t.length≤32∧L.length≤m∧(∀ y ∈ L,y.length≤200000)∧(∀ x,r=some x→x=(t,L))∧Aq w.heap.size u (bss L) w w'
theorem PT (w:World) (m:Nat):Cf w none m (.returned (.tuple #[.string (bs []),.slice none 0 0,.bool false])) w:=⟨[],_,[],rfl,by simp,by simp,by simp,(fun x hx=>by cases hx),Eb w⟩
theorem TN (leaf v:Value) (i n:Int) (m:Nat) (w:World) (h:¬(0≤i∧i<n)):Calls qP 165 #[.int .i64 n,.int .i64 i,leaf,v] w (Cf w none m):=by
 have R:=PT w m;by_cases h1:i<0
 ·go_enter Tryz.func165,Tryz.ntmps165
  go_wp2
  go_ret3
  exact R
 ·have h2:n≤i:=by omega
  clear h;go_enter Tryz.func165,Tryz.ntmps165;go_wp2
  go_ret3
  exact R
theorem TO (leaf:List UInt8) (A:Option Addr) (m cap k:Nat) (w:World) (hl:leaf.length≤32) (r:Option (List UInt8×List (List UInt8))) (hr:r.isSome=decide (m=0)) (hr2:∀ x,r=some x→x=(leaf,[])) :
  Calls qP 165 #[.int .i64 1,.int .i64 0,.string (bs leaf),.slice A m cap] w (Cf w r k):=by
 have R:Cf w r k (.returned (.tuple #[.string (bs leaf),.slice none 0 0,.bool r.isSome])) w:=⟨leaf,_,[],rfl,hl,by simp,by simp,hr2,Eb w⟩;rw [hr] at R;clear hr hr2
 cases m with
 | zero =>
   go_enter Tryz.func165,Tryz.ntmps165;go_wp2
   go_ret3
   exact R
 | succ m =>
   have hb:(((m+1:Nat):Int)==0)=false:=by simp;omega
   have hd:decide (m+1=0)=false:=by simp
   rw [hd] at R;clear hd;go_enter Tryz.func165,Tryz.ntmps165;go_wp2
   go_ret3
   exact R
theorem XJ (leaf:Value) (A:Option Addr) (cap m:Nat) (i n:Int) (w:World) (h0:0≤i) (h1:i<n) (h2:n≠1):Calls qP 165 #[.int .i64 n,.int .i64 i,leaf,.slice A 0 cap] w (Cf w none m):=by
 have R:=PT w m;have hb:(n==1)=false:=beq_eq_false_iff_ne.2 h2;clear h2;go_enter Tryz.func165,Tryz.ntmps165;go_wp2
 go_ret3
 exact R
theorem PV {w w8:World} {m M:Nat} {t z:List UInt8} {L:List (List UInt8)} {v7:Value} {r:Option (List UInt8×List (List UInt8))} {f:List UInt8→List UInt8} (hM:M=m+1) (ll:L.length≤m) (ly:∀ y ∈ L,y.length≤200000) (lx:∀ x,r=some x→x=(t,L)) (hz:f t=z) (hzl:z.length≤200000) (o:Aq w.heap.size v7 (bss L++[bs z]) w w8) :
  Cf w (r.map fun t=>(Ax (f t.1),t.2++[f t.1])) M (.returned (.tuple #[.string (bs (Ax z)),v7,.bool r.isSome])) w8:=by
 subst hz hM;refine⟨_,v7,L++[f t],by cases r<;>rfl,by rw [Bc];omega,by rw [List.length_append,List.length_singleton];omega,fun y hy=>?_,fun x hx=>?_,by rw [Co];exact o⟩
 ·rw [List.mem_append,List.mem_singleton] at hy
  rcases hy with hy|rfl
  ·exact ly y hy
  ·exact hzl
 ·rw [Option.map_eq_some_iff] at hx
  obtain⟨u,hu,rfl⟩:=hx;obtain rfl:=lx u hu
  rfl
theorem iH (leaf:Value) (b off m M cap s:Nat) (hM:M=m+1) (x:List UInt8) (i n:Int) (w:World) (h0:0≤i) (h1:i<n) (h2:n≠1) (hn:n≤9223372036854775807) (hm:m≤1000000) (hxl:x.length≤70000) (hs:spl n.toNat=s) (hi:i<s) (r:Option (List UInt8×List (List UInt8)))
  (hc:w.cell? ⟨b,off+m,none⟩=some (.string (bs x)))
  (hs2:∀ W,(Instr.slice 74 (.slice (some ⟨b,off,none⟩) M cap) none (some (.int .i64 m)) none).run qP W=.ok (.slice (some ⟨b,off,none⟩) m cap) W)
  (H1:Hid (∀ W,Aa w W→Calls qP 165 #[.int .i64 s,.int .i64 i,leaf,.slice (some ⟨b,off,none⟩) m cap] W (Cf W r m))) :
  Calls qP 165 #[.int .i64 n,.int .i64 i,leaf,.slice (some ⟨b,off,none⟩) M cap] w (Cf w (r.map fun t=>(Ax (AK t.1 x),t.2++[AK t.1 x])) M):=by
 have K0:=IU n w (by omega);rw [hs] at K0;have K:=qH K0;have hb:(n==1)=false:=beq_eq_false_iff_ne.2 h2
 have hl0:((M:Int)==0)=false:=by simp;omega
 have hmi:IntKind.i64.wrap ((M:Int)-1)=(m:Int):=by rw [IntWalk.i64_in _ (by omega)];omega
 have hm0:(0:Int)≤m:=by omega
 have hm1:(m:Int)<(M:Int):=by omega
 have HM:=qH (And.intro hM (And.intro hm hxl));have H3:=qH (fun(t:List UInt8) (ht:t.length≤32) W=>RF t x W (by omega) hxl);have HF:=qH (fun(w8:World) (t z:List UInt8) (L:List (List UInt8)) (v7:Value)=>PV (w:=w) (w8:=w8) (m:=m) (M:=M) (t:=t) (z:=z) (L:=L) (v7:=v7) (r:=r) (f:=fun t=>AK t x) hM);clear K0 hs h2 hm hM hxl;go_enter Tryz.func165,Tryz.ntmps165
 go_wp2_with fail
 refine K.out.mono ?_;rintro e w1 ⟨rfl,b1⟩;have c1:=(Ad b1).cell hc;have S1:=qH b1;clear K hc b1
 go_wp2_with fail
 refine(H1.out w1 (Ad S1.out)).mono ?_;rintro e w2 ⟨t,u,L,rfl,tl,ll,ly,lx,o2⟩;have O2:=qH (Aq.from S1.out o2);have TL:=qH (And.intro tl (And.intro ll (And.intro ly lx)));clear H1 S1 tl ll ly lx o2 c1
 go_wp2_with fail
 refine(H3.out t TL.out.1 w2).mono ?_;rintro e w3 ⟨rfl,b3⟩;have O3:=qH (O2.out.after b3);have HZ:=qH (EG t x);clear b3 O2 H3;generalize hz:AK t x=z at *;have HE:=qH hz;clear hz;obtain⟨rs,hrs⟩:∃ rs,r.isSome=rs:=⟨_,rfl⟩;have HG:=qH (fun(w8:World) (v7:Value)=>HF.out w8 t z L v7 TL.out.2.1 TL.out.2.2.1 TL.out.2.2.2 HE.out (by rw [HZ.out];have:=TL.out.1;have:=HM.out.2.2;omega));rw [hrs] at HG ⊢;clear HF HE hrs
 go_wp2_with fail
 refine(JY z _ (qH rfl) w3 (by rw [HZ.out];have:=TL.out.1;have:=HM.out.2.2;omega)).mono ?_;rintro e w4 ⟨rfl,b4⟩;have O4:=qH (O3.out.after b4);obtain⟨out,ho⟩:∃ out,Ax z=out:=⟨_,rfl⟩;rw [ho] at HG ⊢;clear b4 O3 ho
 go_wp2_with (at_builtin;refine Bi rfl _ _ rfl w.heap.size u _ rfl w w4 (bs z) O4.out rfl (by rw [BM];have:=TL.out.2.1;have:=HM.out.2.1;omega) ?_;intro v7 w7 o7;have O7:=qH o7;clear o7 O4)
 go_ret3
 exact HG.out w7 v7 O7.out
theorem eV (leaf:Value) (b off m M cap s:Nat) (hM:M=m+1) (x:List UInt8) (i n:Int) (w:World) (h0:0≤i) (h1:i<n) (h2:n≠1) (hn:n≤9223372036854775807) (hm:m≤1000000) (hxl:x.length≤70000) (hs:spl n.toNat=s) (hi:¬i<s) (r:Option (List UInt8×List (List UInt8)))
  (hc:w.cell? ⟨b,off+m,none⟩=some (.string (bs x)))
  (hs2:∀ W,(Instr.slice 74 (.slice (some ⟨b,off,none⟩) M cap) none (some (.int .i64 m)) none).run qP W=.ok (.slice (some ⟨b,off,none⟩) m cap) W)
  (H1:Hid (∀ W,Aa w W→Calls qP 165 #[.int .i64 (n-s),.int .i64 (i-s),leaf,.slice (some ⟨b,off,none⟩) m cap] W (Cf W r m))) :
  Calls qP 165 #[.int .i64 n,.int .i64 i,leaf,.slice (some ⟨b,off,none⟩) M cap] w (Cf w (r.map fun t=>(Ax (AK x t.1),t.2++[AK x t.1])) M):=by
 have K0:=IU n w (by omega);rw [hs] at K0;have K:=qH K0;have hb:(n==1)=false:=beq_eq_false_iff_ne.2 h2
 have hl0:((M:Int)==0)=false:=by simp;omega
 have hmi:IntKind.i64.wrap ((M:Int)-1)=(m:Int):=by rw [IntWalk.i64_in _ (by omega)];omega
 have hwi:IntKind.i64.wrap (i-(s:Int))=i-(s:Int):=IntWalk.i64_in _ (by omega);have hwn:IntKind.i64.wrap (n-(s:Int))=n-(s:Int):=IntWalk.i64_in _ (by omega)
 have hm0:(0:Int)≤m:=by omega
 have hm1:(m:Int)<(M:Int):=by omega
 have HM:=qH (And.intro hM (And.intro hm hxl));have H3:=qH (fun(t:List UInt8) (ht:t.length≤32) W=>RF x t W hxl (by omega));have HF:=qH (fun(w8:World) (t z:List UInt8) (L:List (List UInt8)) (v7:Value)=>PV (w:=w) (w8:=w8) (m:=m) (M:=M) (t:=t) (z:=z) (L:=L) (v7:=v7) (r:=r) (f:=fun t=>AK x t) hM);clear K0 hs h2 hm hM hxl;go_enter Tryz.func165,Tryz.ntmps165
 go_wp2_with fail
 refine K.out.mono ?_;rintro e w1 ⟨rfl,b1⟩;have c1:=(Ad b1).cell hc;have S1:=qH b1;clear K hc b1
 go_wp2_with fail
 refine(H1.out w1 (Ad S1.out)).mono ?_;rintro e w2 ⟨t,u,L,rfl,tl,ll,ly,lx,o2⟩;have O2:=qH (Aq.from S1.out o2);have TL:=qH (And.intro tl (And.intro ll (And.intro ly lx)));clear H1 S1 tl ll ly lx o2 c1
 go_wp2_with fail
 refine(H3.out t TL.out.1 w2).mono ?_;rintro e w3 ⟨rfl,b3⟩;have O3:=qH (O2.out.after b3);have HZ:=qH (EG x t);clear b3 O2 H3;generalize hz:AK x t=z at *;have HE:=qH hz;clear hz;obtain⟨rs,hrs⟩:∃ rs,r.isSome=rs:=⟨_,rfl⟩;have HG:=qH (fun(w8:World) (v7:Value)=>HF.out w8 t z L v7 TL.out.2.1 TL.out.2.2.1 TL.out.2.2.2 HE.out (by rw [HZ.out];have:=TL.out.1;have:=HM.out.2.2;omega));rw [hrs] at HG ⊢;clear HF HE hrs
 go_wp2_with fail
 refine(JY z _ (qH rfl) w3 (by rw [HZ.out];have:=TL.out.1;have:=HM.out.2.2;omega)).mono ?_;rintro e w4 ⟨rfl,b4⟩;have O4:=qH (O3.out.after b4);obtain⟨out,ho⟩:∃ out,Ax z=out:=⟨_,rfl⟩;rw [ho] at HG ⊢;clear b4 O3 ho
 go_wp2_with (at_builtin;refine Bi rfl _ _ rfl w.heap.size u _ rfl w w4 (bs z) O4.out rfl (by rw [BM];have:=TL.out.2.1;have:=HM.out.2.1;omega) ?_;intro v7 w7 o7;have O7:=qH o7;clear o7 O4)
 go_ret3
 exact HG.out w7 v7 O7.out
theorem iI (leaf:List UInt8) (hlf:leaf.length=32) (p:List (List UInt8)):∀(v:Value) (i n:Int) (w:World),Txs w w.heap.size v (bss p)→BU v→n≤9223372036854775807→p.length≤1000000→(∀ y ∈ p,y.length≤70000) →
  Calls qP 165 #[.int .i64 n,.int .i64 i,.string (bs leaf),v] w (Cf w (FQ leaf p i n) p.length):=by
 induction p using GW with
 | h0 =>
   intro v i n w hT hR hn _ _;obtain⟨A,cap,rfl,_⟩:=hT;by_cases h:0≤i∧i<n
   ·by_cases h1:n=1
    ·subst h1
     obtain rfl:i=0:=by omega
     rw [EH,if_pos (by omega)];exact TO leaf A 0 cap _ w (by omega) _ rfl (fun x hx=>by cases hx;rfl)
    ·rw [EH,if_neg (fun e=>h1 e.2.2)]
     exact XJ _ A cap _ i n w h.1 h.2 h1
   ·rw [IG h]
    exact TN _ _ i n _ w h
 | h1 p x ih =>
   intro v i n w hT hR hn hp hy
   have hp':p.length+1≤1000000:=by rw [List.length_append] at hp;exact hp
   have hT0:=hT;obtain⟨A,cap,rfl,hc⟩:=hT0
   have hll:(bss (p++[x])).length=p.length+1:=by rw [BM,List.length_append];rfl
   have hpl:(p++[x]).length=p.length+1:=by rw [List.length_append];rfl
   have hcap:(bss (p++[x])).length≤cap:=by
    obtain⟨A0,n0,c0,e,h⟩:=hR
    cases e
    exact h
   by_cases h:0≤i∧i<n
   ·by_cases h1:n=1
    ·subst h1
     obtain rfl:i=0:=by omega
     rw [Dr,if_neg (fun e=>e.2.2 rfl),hll];exact TO leaf A (p.length+1) cap _ w (by omega) none (by simp) (fun x hx=>by cases hx)
    ·obtain⟨b,off,rfl,hb,c0⟩:=hc p.length (by omega)
     have ec:(bss (p++[x]))[p.length]'(by omega)=bs x:=by simp [bss]
     rw [ec] at c0;obtain⟨hs2,P2⟩:=PN hT hcap p.length (by omega)
     have e1:(bss (p++[x])).take p.length=bss p:=by rw [←PM,List.take_left]
     rw [e1] at P2;rw [hll] at hs2 hcap ⊢;rw [Dr,if_pos ⟨h.1,h.2,h1⟩,hpl];have hxl:=hy x (by simp);by_cases hlt:i<(spl n.toNat:Nat)
     ·rw [if_pos hlt]
      exact iH _ b off p.length _ cap _ rfl x i n w h.1 h.2 h1 hn (by omega) hxl rfl hlt _ c0 hs2
       (qH fun W hW=>ih _ i _ W ((P2.below hW.below).more hW.2.2.2.1) ⟨_,_,_,rfl,by omega⟩ (by have:=(Dj (n:=n.toNat) (by omega) (by omega)).2.1;omega) (by omega) (fun y hy'=>hy y (by simp [hy'])))
     ·rw [if_neg hlt]
      exact eV _ b off p.length _ cap _ rfl x i n w h.1 h.2 h1 hn (by omega) hxl rfl hlt _ c0 hs2
       (qH fun W hW=>ih _ _ _ W ((P2.below hW.below).more hW.2.2.2.1) ⟨_,_,_,rfl,by omega⟩ (by omega) (by omega) (fun y hy'=>hy y (by simp [hy'])))
   ·rw [IG h]
    exact TN _ _ i n _ w h
def JC (w:World) (root tx:List UInt8) (n:Int) (r:Option (List UInt8×List (List UInt8))) (e:Ending) (w':World):Prop :=
 ∃ u L b,e=.returned (.tuple #[.bool b,u])∧Aq w.heap.size u (bss L) w w'∧((r=none∧b=false∧L=[])∨∃ x,r=some x∧b=decide (Ax (Bt n x.1)=root)∧L=[tx]++x.2++[Bt n x.1])
theorem RO (root lf tx:List UInt8) (p:KV) (v:Value) (i n:Int) (m:Nat) (w:World) (r:Option (List UInt8×List (List UInt8))) (hm:m≤1000000) (htx:tx.length≤1000000) (hlf:Ax tx=lf)
  (H0:Hid (∀ W,Aa w W→Calls qP 120 #[.agg #[.string p.1,.string p.2]] W fun e w'=>e=.returned (.string (bs tx))∧Aa w w'))
  (H1:Hid (∀ W,Aa w W→Calls qP 165 #[.int .i64 n,.int .i64 i,.string (bs lf),v] W (Cf W r m)))
  (H2:Hid (∀ t,t.length≤32→∀ W,Calls qP 75 #[.int .i64 n,.string (bs t)] W fun e w'=>e=.returned (.string (bs (Bt n t)))∧Below W.heap.size W w')) :
  Calls qP 130 #[.string (bs root),.agg #[.string p.1,.string p.2],.int .i64 n,.int .i64 i,v] w (JC w root tx n r):=by
 obtain⟨p1,p2⟩:=p;have HB:=qH (Blk.new w 36 #[.string p1,.string p2]);have HW:=qH (Ad ((Below.refl w.heap.size w).alloc (Nat.le_refl _) (.cells #[.string p1,.string p2] 36)));have HM:=qH (And.intro hm htx);have HS:=qH (fun W=>JY tx lf (qH hlf) W htx);simp only at H0;clear hm htx hlf;go_enter Tryz.func130,Tryz.ntmps130
 go_wp2_with fail
 refine(H0.out _ HW.out).mono ?_;rintro e w1 ⟨rfl,s1⟩;clear H0 HB HW
 go_wp2_with fail
 refine(HS.out w1).mono ?_;rintro e w2 ⟨rfl,b2⟩;have S2:=qH (Ae s1.below b2);clear HS s1 b2
 go_wp2_with fail
 refine(H1.out w2 (Ad S2.out)).mono ?_;rintro e w3 ⟨t,u,L,rfl,tl,ll,ly,lx,o3⟩;have O3:=qH (Aq.from S2.out o3);have TL:=qH (And.intro tl (And.intro ll (And.intro ly lx)));clear H1 S2 tl ll ly lx o3
 cases r with
 | none =>
   have R:=qH (show JC w root tx n none (.returned (.tuple #[.bool false,.slice none 0 0])) w3 from⟨_,[],_,rfl,Aq.start O3.out.below,.inl ⟨rfl,rfl,rfl⟩⟩);simp only [Option.isSome_none];clear O3 TL;go_wp2
   go_ret2
   exact R.out
 | some x =>
   obtain rfl:=TL.out.2.2.2 x rfl;simp only [Option.isSome_some]
   go_wp2_with fail
   refine(H2.out t TL.out.1 w3).mono ?_;rintro e w4 ⟨rfl,b4⟩;have O4:=qH (O3.out.after b4);have HT:=qH (GZ n t);clear b4 O3 H2
   have HR:=qH (show ∀(u:Value) w',Aq w.heap.size u ((([bs tx]++bss L)++[bs (Bt n t)])) w w'→JC w root tx n (some (t,L)) (Ending.returned (.tuple #[.bool (decide (Ax (Bt n t)=root)),u])) w' from
    fun u w' o=>⟨u,[tx]++L++[Bt n t],_,rfl,by rw [Co,Co];exact o,.inr ⟨(t,L),rfl,rfl,rfl⟩⟩)
   generalize Bt n t=z at *;have HZ:=qH (show z.length≤1000000 by have:=HT.out;have:=TL.out.1;omega);have HL:=qH (show(bss L).length≤1000000 by rw [BM];have:=TL.out.2.1;have:=HM.out.1;omega);clear HT TL HM
   go_wp2_with (at_builtin;first
    | (refine BQ _ rfl _ _ rfl w.heap.size _ (.slice (some ⟨w4.heap.size,0,none⟩) 1 1) u [bs tx] (bss L) rfl rfl w (NA O4.out.below (bs tx)) (O4.out.alloc _).txs (by have:=HL.out;simp;omega) ?_;intro v5 w5 o5 g5;have O5:=qH o5;clear o5 g5 O4)
    | (refine Bi rfl _ _ rfl w.heap.size v5 _ rfl w w5 (bs z) O5.out rfl (by have:=HL.out;simp;omega) ?_;intro v7 w7 o7;have O7:=qH o7;clear o7 O5))
   refine(JY z _ (qH rfl) w7 HZ.out).mono ?_;rintro e w8 ⟨rfl,b8⟩;have FIN:=qH (HR.out v7 w8 (O7.out.after b8));clear HR b8 O7;generalize Ax z=y at *;by_cases he:y=root
   ·subst he
    rw [decide_eq_true rfl] at FIN;go_wp2
    go_ret2
    exact FIN.out
   ·rw [decide_eq_false he] at FIN
    have hne:=Eh (Tb he);clear he;go_wp2
    go_ret2
    exact FIN.out
theorem XK (root:List UInt8) (p:KV) (q:List (List UInt8)) (v:Value) (i n:Int) (w:World) (hT:Txs w w.heap.size v (bss q)) (hR:BU v) (hn:n≤9223372036854775807) (hq:q.length≤1000000) (hy:∀ y ∈ q,y.length≤70000) :
  Calls qP 130 #[.string (bs root),.agg #[.string p.1,.string p.2],.int .i64 n,.int .i64 i,v] w fun e w'=>∃ u,e=.returned (.tuple #[.bool (El root p q i n),u])∧Aq w.heap.size u (bss (Bz p q i n)) w w':=by
 have ll:=If p
 refine(RO root (Ax (BR p)) (BR p) p v i n q.length w (FQ (Ax (BR p)) q i n) hq (by omega) rfl
  (qH fun W hW=>(Xs p W).mono fun e w' ⟨he,hb⟩=>⟨he,Ad (Ae hW.below hb)⟩)
  (qH fun W hW=>iI _ (Bc _) q v i n W ((hT.below hW.below).more hW.2.2.2.1) hR hn hq hy)
  (qH fun t ht W=>Xt n t W (by omega))).mono ?_
 rintro e w' ⟨u,L,b,rfl,o,⟨h1,rfl,rfl⟩|⟨x,h1,rfl,rfl⟩⟩
 ·rw [KU h1]
  have e2:Bz p q i n=[]:=by unfold Bz;rw [h1]
  rw [e2];exact⟨u,rfl,o⟩
 ·rw [Ig h1,Ke h1]
  exact⟨u,rfl,o⟩
theorem Bx.from {w w1 w2:World} {v:Value} {l:List Int} (h:Below w.heap.size w w1) (k:Bx w1.heap.size v l w1 w2):Bx w.heap.size v l w w2 :=
 ⟨PJ k.1 h.size,Ae h k.below,Nat.le_trans h.size k.2.2⟩
theorem aA (n pos:Int) (t:Bool) (A1 A2:Option Addr) (m1 c1 m2 c2:Nat) (w:World) (h0:-9223372036854775808≤pos) (h2:pos≤9223372036854775807) :
  Calls qP 131 #[.agg #[.int .i64 n,.int .i64 pos,.bool t,.slice A1 m1 c1,.slice A2 m2 c2]] w fun e w'=>∃ v,e=.returned v∧Bx w.heap.size v (Io pos n) w w':=by
 have k1:=Blk.new w 112 #[.int .i64 n,.int .i64 pos,.bool t,.slice A1 m1 c1,.slice A2 m2 c2];have HB:=qH ((Below.refl w.heap.size w).alloc (Nat.le_refl _) (.cells #[.int .i64 n,.int .i64 pos,.bool t,.slice A1 m1 c1,.slice A2 m2 c2] 112))
 have hz:(w.alloc (.cells #[.int .i64 n,.int .i64 pos,.bool t,.slice A1 m1 c1,.slice A2 m2 c2] 112)).heap.size=w.heap.size+1:=by simp
 have q0:=(k1.cell 0).trans (by rfl:_=some (Value.int .i64 n));have q1:=(k1.cell 1).trans (by rfl:_=some (Value.int .i64 pos));clear k1;unfold Io;by_cases ha:0<pos
 ·have w1:IntKind.i64.wrap (pos-1)=pos-1:=IntWalk.i64_in _ (by omega)
  by_cases hn:pos<n
  ·rw [if_pos ha,if_pos hn]
   go_enter Tryz.func131,Tryz.ntmps131
   go_wp2_with (at_builtin;first
    | (refine CQ rfl _ _ rfl (w.alloc (.cells #[.int .i64 n,.int .i64 pos,.bool t,.slice A1 m1 c1,.slice A2 m2 c2] 112)).heap.size v5 _ rfl (w.alloc (.cells #[.int .i64 n,.int .i64 pos,.bool t,.slice A1 m1 c1,.slice A2 m2 c2] 112)) w5 pos _ rfl P5.out rfl (by simp) ?_;intro v7 w7 o7;have O7:=qH (Bx.from HB.out o7);clear o7)
    | (refine CQ rfl _ _ rfl (w.alloc (.cells #[.int .i64 n,.int .i64 pos,.bool t,.slice A1 m1 c1,.slice A2 m2 c2] 112)).heap.size _ _ rfl (w.alloc (.cells #[.int .i64 n,.int .i64 pos,.bool t,.slice A1 m1 c1,.slice A2 m2 c2] 112)) (w.alloc (.cells #[.int .i64 n,.int .i64 pos,.bool t,.slice A1 m1 c1,.slice A2 m2 c2] 112)) (pos-1) _ hz (GN _) rfl (by simp) ?_;intro v5 w5 o5;have O5:=qH (Bx.from HB.out o5);have P5:=qH o5;have z0:=(Ad o5.below).cell q0;have z1:=(Ad o5.below).cell q1;clear o5))
   go_ret
   exact⟨_,rfl,O7.out⟩
  ·rw [if_pos ha,if_neg hn]
   go_enter Tryz.func131,Tryz.ntmps131
   go_wp2_with (at_builtin;(refine CQ rfl _ _ rfl (w.alloc (.cells #[.int .i64 n,.int .i64 pos,.bool t,.slice A1 m1 c1,.slice A2 m2 c2] 112)).heap.size _ _ rfl (w.alloc (.cells #[.int .i64 n,.int .i64 pos,.bool t,.slice A1 m1 c1,.slice A2 m2 c2] 112)) (w.alloc (.cells #[.int .i64 n,.int .i64 pos,.bool t,.slice A1 m1 c1,.slice A2 m2 c2] 112)) (pos-1) _ hz (GN _) rfl (by simp) ?_;intro v5 w5 o5;have O5:=qH (Bx.from HB.out o5);have P5:=qH o5;have z0:=(Ad o5.below).cell q0;have z1:=(Ad o5.below).cell q1;clear o5))
   go_ret
   exact⟨_,rfl,O5.out⟩
 ·by_cases hn:pos<n
  ·rw [if_neg ha,if_pos hn]
   go_enter Tryz.func131,Tryz.ntmps131
   go_wp2_with (at_builtin;(refine CQ rfl _ _ rfl (w.alloc (.cells #[.int .i64 n,.int .i64 pos,.bool t,.slice A1 m1 c1,.slice A2 m2 c2] 112)).heap.size _ _ rfl (w.alloc (.cells #[.int .i64 n,.int .i64 pos,.bool t,.slice A1 m1 c1,.slice A2 m2 c2] 112)) (w.alloc (.cells #[.int .i64 n,.int .i64 pos,.bool t,.slice A1 m1 c1,.slice A2 m2 c2] 112)) pos _ hz (GN _) rfl (by simp) ?_;intro v5 w5 o5;have O5:=qH (Bx.from HB.out o5);have P5:=qH o5;have z0:=(Ad o5.below).cell q0;have z1:=(Ad o5.below).cell q1;clear o5))
   go_ret
   exact⟨_,rfl,O5.out⟩
  ·rw [if_neg ha,if_neg hn]
   have R:=qH (Bx.start HB.out);go_enter Tryz.func131,Tryz.ntmps131;go_wp2
   go_ret
   exact⟨_,rfl,R.out⟩
def Dh (w:World) (b:Bool) (L:List (List UInt8)) (e:Ending) (w':World):Prop:=∃ u M,e=.returned (.tuple #[.bool b,u])∧Aq w.heap.size u (bss M) w w'∧(b=true→M=L)
theorem Em {w w':World} {L:List (List UInt8)} (h:Below w.heap.size w w'):Dh w false L (.returned (.tuple #[.bool false,.slice none 0 0])) w':=⟨_,[],rfl,Aq.start h,fun e=>by cases e⟩
theorem eX (root p1 p2:ByteArray) (n pos:Int) (t:Bool) (A1 A2:Option Addr) (m1 c1 m2 c2:Nat) (L:List (List UInt8)) (w:World) (h:t=false∨m1≠0∨m2≠1) :
  Calls qP 81 #[.string root,.agg #[.string p1,.string p2],.agg #[.int .i64 n,.int .i64 pos,.bool t,.slice A1 m1 c1,.slice A2 m2 c2]] w (Dh w false L):=by
 have R:Below w.heap.size w ((w.alloc (.cells #[.string p1,.string p2] 36)).alloc (.cells #[.int .i64 n,.int .i64 pos,.bool t,.slice A1 m1 c1,.slice A2 m2 c2] 112)):=by go_grown
 have HR:=qH (Em (L:=L) R);clear R
 cases t with
 | false =>
   clear h;go_enter Tryz.func81,Tryz.ntmps81;go_wp2
   go_ret2
   exact HR.out
 | true =>
   by_cases h1:m1=0
   ·subst h1
    have h2:((m2:Int) != 1)=true:=by rw [bne_iff_ne];rcases h with h|h|h<;>first|cases h|omega
    clear h;go_enter Tryz.func81,Tryz.ntmps81;go_wp2
    go_ret2
    exact HR.out
   ·have h2:((m1:Int) != 0)=true:=by rw [bne_iff_ne];omega
    clear h h1;go_enter Tryz.func81,Tryz.ntmps81;go_wp2
    go_ret2
    exact HR.out
theorem aB (root p1 p2:ByteArray) (n pos:Int) (A1:Option Addr) (c1 b off c2:Nat) (u:Value) (w:World) (out:Bool) (L:List (List UInt8)) (hc:w.cell? ⟨b,off,none⟩=some u)
  (H:Hid (∀ W,Aa w W→Calls qP 130 #[.string root,.agg #[.string p1,.string p2],.int .i64 n,.int .i64 pos,u] W fun e w'=>∃ A c,e=.returned (.tuple #[.bool out,.slice A L.length c])∧Aq W.heap.size (.slice A L.length c) (bss L) W w')) :
  Calls qP 81 #[.string root,.agg #[.string p1,.string p2],.agg #[.int .i64 n,.int .i64 pos,.bool true,.slice A1 0 c1,.slice (some ⟨b,off,none⟩) 1 c2]] w (Dh w out L):=by
 have R:Aa w ((w.alloc (.cells #[.string p1,.string p2] 36)).alloc (.cells #[.int .i64 n,.int .i64 pos,.bool true,.slice A1 0 c1,.slice (some ⟨b,off,none⟩) 1 c2] 112)):=Ad (by go_grown);have k1:=(Blk.new w 36 #[.string p1,.string p2]).alloc (.cells #[.int .i64 n,.int .i64 pos,.bool true,.slice A1 0 c1,.slice (some ⟨b,off,none⟩) 1 c2] 112);have k2:=Blk.new (w.alloc (.cells #[.string p1,.string p2] 36)) 112 #[.int .i64 n,.int .i64 pos,.bool true,.slice A1 0 c1,.slice (some ⟨b,off,none⟩) 1 c2];rw [show(w.alloc (.cells #[.string p1,.string p2] 36)).heap.size=w.heap.size+1 by simp] at k2;have q0:=k1.cell 0;have q1:=k1.cell 1;have q2:=k2.cell 0;have q3:=k2.cell 1;have q4:=k2.cell 4;have q5:=R.cell hc;have HR:=qH R;clear R k1 k2 hc;go_enter Tryz.func81,Tryz.ntmps81;go_wp2;generalize (w.alloc (.cells #[.string p1,.string p2] 36)).alloc (.cells #[.int .i64 n,.int .i64 pos,.bool true,.slice A1 0 c1,.slice (some ⟨b,off,none⟩) 1 c2] 112)=V at *;have r0:=HR.out;simp only [List.getElem?_toArray,List.getElem?_cons_zero,List.getElem?_cons_succ] at q0 q1 q2 q3 q4
 go_region_held3 (fun W=>W.cell? ⟨w.heap.size,0,none⟩=some (.string p1)∧W.cell? ⟨w.heap.size,1,none⟩=some (.string p2)∧W.cell? ⟨w.heap.size+1,0,none⟩=some (.int .i64 n)∧W.cell? ⟨w.heap.size+1,1,none⟩=some (.int .i64 pos)∧W.cell? ⟨w.heap.size+1,4,none⟩=some (.slice (some ⟨b,off,none⟩) 1 c2)∧W.cell? ⟨b,off,none⟩=some u)
  (first|exact⟨(Ad o5.below).cell q0,(Ad o5.below).cell q1,(Ad o5.below).cell q2,(Ad o5.below).cell q3,(Ad o5.below).cell q4,(Ad o5.below).cell q5⟩|go_keep)
  (first
    | (go_at_call 130;refine(H.out _ (by exact r0)).mono ?_;clear H;rintro en w5 ⟨A,c,rfl,o5⟩))
 all_goals go_wp2
 all_goals go_ret2
 all_goals exact⟨_,L,rfl,Aq.from (Below.drewN r0.below 1) o5,fun _=>rfl⟩
theorem ND {B:Nat} {v:Value} {L:List (List UInt8)} {W0 w:World} (h:Aq B v (bss L) W0 w):∃ A c,v=.slice A L.length c:=by
 obtain⟨A,c,e,_⟩:=h.txs;rw [BM] at e;exact⟨A,c,e⟩
theorem iK (root:List UInt8) (p:KV) (x:Pf) (v:Value) (w:World) (hP:Prf w v x) (hn:x.n≤9223372036854775807) (hq:∀ q ∈ x.paths,q.length≤1000000∧∀ y ∈ q,y.length≤70000) :
  Calls qP 81 #[.string (bs root),.agg #[.string p.1,.string p.2],v] w (Dh w (OH root p x) (Ws p x)):=by
 obtain⟨n,pos,there,near,paths⟩:=x;obtain⟨nv,pv,rfl,⟨A1,c1,rfl,_,_⟩,⟨A2,c2,rfl,_,hc⟩⟩:=hP;simp only at hn hq hc ⊢;by_cases h:there=true∧near=[]∧paths.length=1
 ·obtain⟨rfl,rfl,h3⟩:=h
  obtain⟨q,rfl⟩:=List.length_eq_one_iff.1 h3;obtain⟨b,off,u,rfl,d,hT,hR⟩:=hc 0 q rfl;have h4:=hq q (by simp);rw [Nat.add_zero] at d
  exact aB (bs root) p.1 p.2 n pos A1 c1 b off c2 u w _ (Bz p q pos n) d (qH fun W hW=>(XK root p q u pos n W ((hT.below hW.below).more hW.2.2.2.1) hR hn h4.1 h4.2).mono fun e w' ⟨u,he,ho⟩=>by
   obtain⟨A,c,rfl⟩:=ND ho
   exact⟨A,c,he,ho⟩)
 ·have e:OH root p ⟨n,pos,there,near,paths⟩=false:=by
   match there,near,paths with
   | false,_,_=>rfl
   | true,_::_,_=>rfl
   | true,[],[]=>rfl
   | true,[],[_]=>exact absurd ⟨rfl,rfl,rfl⟩ h
   | true,[],_::_::_=>rfl
  rw [e];refine eX (bs root) p.1 p.2 n pos there A1 A2 near.length c1 paths.length c2 _ w ?_
  cases there with
  | false=>exact .inl rfl
  | true =>
    right
    by_cases h1:near=[]
    ·exact .inr fun h2=>h ⟨rfl,h1,h2⟩
    ·exact .inl fun h2=>h1 (List.eq_nil_of_length_eq_zero h2)
theorem NK (s t:List UInt8) (e f:Int) (x:Int) (w:World) (hs:s.length≤1000000000) (ht:t.length≤100000)
  (K:Hid (∀ W,Calls qP 123 #[.int .i64 x] W fun e w'=>e=.returned (.tuple #[.string (bs t),.int .i64 f])∧Below W.heap.size W w')) :
  Calls qP 101 #[.string (bs s),.int .i64 e,.int .i64 x] w fun en w'=>en=.returned (AP (Ar (s,e) (t,f)))∧Below w.heap.size w w':=by
 by_cases he:e=0
 ·subst he
  by_cases hf:f=0
  ·subst hf
   have hr:Ar (s,0) (t,0)=(s++t,0):=by simp [Ar]
   have a1:∀ W,(Op.stringOp .add (bs s) (bs t)).run qP W=.ok (.string (bs (s++t))) W:=fun W=>AB W s t (by omega);rw [hr];unfold AP;clear hr hs ht;go_enter Tryz.func101,Tryz.ntmps101
   go_wp2_with fail
   refine(K.out _).mono ?_;rintro en w1 ⟨rfl,b1⟩;go_wp2
   go_ret2
   exact⟨rfl,b1⟩
  ·have hr:Ar (s,0) (t,f)=([],f):=by simp [Ar,hf]
   have hfn:(f != 0)=true:=by rw [bne_iff_ne];exact hf
   rw [hr];unfold AP;clear hr hs ht hf;go_enter Tryz.func101,Tryz.ntmps101
   go_wp2_with fail
   refine(K.out _).mono ?_;rintro en w1 ⟨rfl,b1⟩;go_wp2
   go_ret2
   exact⟨rfl,b1⟩
 ·have hr:Ar (s,e) (t,f)=([],e):=by simp [Ar,he]
  have hen:(e != 0)=true:=by rw [bne_iff_ne];exact he
  rw [hr];unfold AP;clear hr hs ht he;go_enter Tryz.func101,Tryz.ntmps101;go_wp2
  go_ret2
  exact⟨rfl,Below.refl _ _⟩
theorem aP (st:List UInt8×Int) (x:Int) (w:World) (hs:st.1.length≤1000000000) :
  Calls qP 101 #[.string (bs st.1),.int .i64 st.2,.int .i64 x] w fun en w'=>en=.returned (AP (Ar st (Ag x)))∧Aa w w' :=
 (NK st.1 (Ag x).1 st.2 (Ag x).2 x w hs (by have:=Au x;omega) (qH fun W=>cN x _ _ rfl W)).mono fun e w' ⟨he,hb⟩=>⟨he,Ad hb⟩
theorem Ma (s t:List UInt8) (e f:Int) (x:ByteArray) (w:World) (hs:s.length≤1000000000) (ht:t.length≤100000)
  (K:Hid (∀ W,Calls qP 93 #[.string x] W fun e w'=>e=.returned (.tuple #[.string (bs t),.int .i64 f])∧Below W.heap.size W w')) :
  Calls qP 102 #[.string (bs s),.int .i64 e,.string x] w fun en w'=>en=.returned (AP (Ar (s,e) (t,f)))∧Below w.heap.size w w':=by
 by_cases he:e=0
 ·subst he
  by_cases hf:f=0
  ·subst hf
   have hr:Ar (s,0) (t,0)=(s++t,0):=by simp [Ar]
   have a1:∀ W,(Op.stringOp .add (bs s) (bs t)).run qP W=.ok (.string (bs (s++t))) W:=fun W=>AB W s t (by omega);rw [hr];unfold AP;clear hr hs ht;go_enter Tryz.func102,Tryz.ntmps102
   go_wp2_with fail
   refine(K.out _).mono ?_;rintro en w1 ⟨rfl,b1⟩;go_wp2
   go_ret2
   exact⟨rfl,b1⟩
  ·have hr:Ar (s,0) (t,f)=([],f):=by simp [Ar,hf]
   have hfn:(f != 0)=true:=by rw [bne_iff_ne];exact hf
   rw [hr];unfold AP;clear hr hs ht hf;go_enter Tryz.func102,Tryz.ntmps102
   go_wp2_with fail
   refine(K.out _).mono ?_;rintro en w1 ⟨rfl,b1⟩;go_wp2
   go_ret2
   exact⟨rfl,b1⟩
 ·have hr:Ar (s,e) (t,f)=([],e):=by simp [Ar,he]
  have hen:(e != 0)=true:=by rw [bne_iff_ne];exact he
  rw [hr];unfold AP;clear hr hs ht he;go_enter Tryz.func102,Tryz.ntmps102;go_wp2
  go_ret2
  exact⟨rfl,Below.refl _ _⟩
theorem Yk (st:List UInt8×Int) (x:ByteArray) (w:World) (hs:st.1.length≤1000000000) :
  Calls qP 102 #[.string (bs st.1),.int .i64 st.2,.string x] w fun en w'=>en=.returned (AP (Ar st (Ai x)))∧Aa w w' :=
 (Ma st.1 (Ai x).1 st.2 (Ai x).2 x w hs (by have:=AF x;omega) (qH fun W=>RC x _ _ rfl W)).mono fun e w' ⟨he,hb⟩=>⟨he,Ad hb⟩
theorem Kc (n pos:Int) (t:Bool) (near:List KV) (paths:List (List (List UInt8))) (tn:Int) (ht:tn=if t then 1 else 0) :
  (Mx ⟨n,pos,t,near,paths⟩).foldl Ar ([],0)=(AI paths).foldl Ar (Ar ((BF near).foldl Ar (Ar (Ar (Ar (Ar ([],0) (Ag n)) (Ag pos)) (Ag tn)) (Ag near.length))) (Ag paths.length)):=by
 subst ht;simp only [Mx,Hc,List.foldl_append,List.foldl_cons,List.foldl_nil,List.append_assoc]
theorem fK {x:Pf} (h:¬(x.there=true∧x.near≠[])):IJ x=(Mx x).foldl Ar ([],0):=by unfold IJ;rw [if_neg h]
theorem fL (n pos:Int) (A1 A2:Option Addr) (m1 c1 m2 c2:Nat) (w:World) (h:0<m1) :
  Calls qP 56 #[.agg #[.int .i64 n,.int .i64 pos,.bool true,.slice A1 m1 c1,.slice A2 m2 c2]] w fun e w'=>e=.returned (.tuple #[.string (bs []),.int .i64 6])∧Aa w w':=by
 have HR:=qH (show Aa w (w.alloc (.cells #[.int .i64 n,.int .i64 pos,.bool true,.slice A1 m1 c1,.slice A2 m2 c2] 112)) from Ad (by go_grown))
 have h1:(0:Int)<(m1:Int):=by omega
 go_enter Tryz.func56,Tryz.ntmps56;go_wp2
 go_ret2
 exact⟨rfl,HR.out⟩
theorem Sd (n pos:Int) (A1:Option Addr) (c1:Nat) (A2:Option Addr) (c2:Nat) (near:List KV) (paths:List (List (List UInt8))) (w:World) (hz1:near.length≤4) (hz2:paths.length≤4)
  (hc:∀ k (h:k<near.length),∃ b off,A1=some ⟨b,off,none⟩∧w.cell? ⟨b,off+k*2,none⟩=some (.string near[k].1)∧w.cell? ⟨b,off+k*2+1,none⟩=some (.string near[k].2))
  (hq:∀(k:Nat) q,paths[k]?=some q→∃ b off u,A2=some ⟨b,off,none⟩∧w.cell? ⟨b,off+k,none⟩=some u∧∀ W,Aa w W→Calls qP 103 #[u] W fun e w'=>e=.returned (AP (BV (bss q)))∧Aa W w')
  (HN:Hid (∀(st:List UInt8×Int) (x:Int) W,Aa w W→st.1.length≤1000000000→Calls qP 101 #[.string (bs st.1),.int .i64 st.2,.int .i64 x] W fun e w'=>e=.returned (AP (Ar st (Ag x)))∧Aa W w'))
  (HT:Hid (∀(st:List UInt8×Int) (x:ByteArray) W,Aa w W→st.1.length≤1000000000→Calls qP 102 #[.string (bs st.1),.int .i64 st.2,.string x] W fun e w'=>e=.returned (AP (Ar st (Ai x)))∧Aa W w')) :
  Calls qP 56 #[.agg #[.int .i64 n,.int .i64 pos,.bool false,.slice A1 near.length c1,.slice A2 paths.length c2]] w fun e w'=>e=.returned (AP ((AI paths).foldl Ar (Ar ((BF near).foldl Ar (Ar (Ar (Ar (Ar ([],0) (Ag n)) (Ag pos)) (Ag 0)) (Ag near.length))) (Ag paths.length))))∧Aa w w':=by
 have HC:=qH hc;have HQ:=qH hq;have HZ:=qH (And.intro hz1 hz2);have S0:=qH (show Aa w (w.alloc (.cells #[.int .i64 n,.int .i64 pos,.bool false,.slice A1 near.length c1,.slice A2 paths.length c2] 112)) from Ad (by go_grown));have X0:=qH (Blk.new w 112 #[.int .i64 n,.int .i64 pos,.bool false,.slice A1 near.length c1,.slice A2 paths.length c2]);have L0:=qH (show(([]:List UInt8),(0:Int)).1.length≤0 by simp);obtain⟨s0,hs0⟩:∃ s,s=(([]:List UInt8),(0:Int)):=⟨_,rfl⟩
 have e01:bs s0.1=⟨#[]⟩:=by rw [hs0];rfl
 have e02:s0.2=0:=by rw [hs0]
 have HN0:=qH (fun x W (h:Aa w W)=>HN.out s0 x W h (by rw [hs0];simp));rw [e01,e02] at HN0;rw [←hs0] at L0;have E0:=qH hs0;obtain⟨fin9,hfin⟩:∃ r,r=(AI paths).foldl Ar (Ar ((BF near).foldl Ar (Ar (Ar (Ar (Ar ([],0) (Ag n)) (Ag pos)) (Ag 0)) (Ag near.length))) (Ag paths.length)):=⟨_,rfl⟩;rw [←hfin];have HF:=qH hfin;clear hc hq hs0 e01 e02 hfin hz1 hz2;go_enter Tryz.func56,Tryz.ntmps56
 go_wp2_with fail
 refine(HN0.out n _ S0.out).mono ?_;rintro e w1 ⟨rfl,q1⟩;have S1:=qH (show Aa w w1 from Ad (Ae S0.out.below q1.below));have X1:=qH (X0.out.next q1.below);have L1:=qH (show(Ar s0 (Ag n)).1.length≤8 by have h1:=AZ s0 (Ag n);have h2:=Au n;have:=L0.out;omega);obtain⟨s1,hs1⟩:∃ s,s=Ar s0 (Ag n):=⟨_,rfl⟩;rw [←hs1] at L1 ⊢;have E1:=qH hs1;unfold AP;clear hs1 q1 S0 X0 L0;have y0:w1.cell? ⟨w.heap.size,0,none⟩=some (.int .i64 n):=X1.out.cell 0;have y1:w1.cell? ⟨w.heap.size,1,none⟩=some (.int .i64 pos):=X1.out.cell 1;have y3:w1.cell? ⟨w.heap.size,3,none⟩=some (.slice A1 near.length c1):=X1.out.cell 3;have y4:w1.cell? ⟨w.heap.size,4,none⟩=some (.slice A2 paths.length c2):=X1.out.cell 4
 go_wp2_with fail
 clear y0 y1 y3 y4;refine(HN.out s1 pos _ S1.out (by have:=L1.out;omega)).mono ?_;rintro e w2 ⟨rfl,q2⟩;have S2:=qH (show Aa w w2 from Ad (Ae S1.out.below q2.below));have X2:=qH (X1.out.next q2.below);have L2:=qH (show(Ar s1 (Ag pos)).1.length≤16 by have h1:=AZ s1 (Ag pos);have h2:=Au pos;have:=L1.out;omega);obtain⟨s2,hs2⟩:∃ s,s=Ar s1 (Ag pos):=⟨_,rfl⟩;rw [←hs2] at L2 ⊢;have E2:=qH hs2;unfold AP;clear hs2 q2 S1 X1 L1;have y0:w2.cell? ⟨w.heap.size,0,none⟩=some (.int .i64 n):=X2.out.cell 0;have y1:w2.cell? ⟨w.heap.size,1,none⟩=some (.int .i64 pos):=X2.out.cell 1;have y3:w2.cell? ⟨w.heap.size,3,none⟩=some (.slice A1 near.length c1):=X2.out.cell 3;have y4:w2.cell? ⟨w.heap.size,4,none⟩=some (.slice A2 paths.length c2):=X2.out.cell 4
 go_wp2_with fail
 clear y0 y1 y3 y4;refine(HN.out s2 0 _ S2.out (by have:=L2.out;omega)).mono ?_;rintro e w3 ⟨rfl,q3⟩;have S3:=qH (show Aa w w3 from Ad (Ae S2.out.below q3.below));have X3:=qH (X2.out.next q3.below);have L3:=qH (show(Ar s2 (Ag 0)).1.length≤24 by have h1:=AZ s2 (Ag 0);have h2:=Au 0;have:=L2.out;omega);obtain⟨s3,hs3⟩:∃ s,s=Ar s2 (Ag 0):=⟨_,rfl⟩;rw [←hs3] at L3 ⊢;have E3:=qH hs3;unfold AP;clear hs3 q3 S2 X2 L2;have y0:w3.cell? ⟨w.heap.size,0,none⟩=some (.int .i64 n):=X3.out.cell 0;have y1:w3.cell? ⟨w.heap.size,1,none⟩=some (.int .i64 pos):=X3.out.cell 1;have y3:w3.cell? ⟨w.heap.size,3,none⟩=some (.slice A1 near.length c1):=X3.out.cell 3;have y4:w3.cell? ⟨w.heap.size,4,none⟩=some (.slice A2 paths.length c2):=X3.out.cell 4
 go_wp2_with fail
 clear y0 y1 y3 y4;refine(HN.out s3 near.length _ S3.out (by have:=L3.out;omega)).mono ?_;rintro e w4 ⟨rfl,q4⟩;have S4:=qH (show Aa w w4 from Ad (Ae S3.out.below q4.below));have X4:=qH (X3.out.next q4.below);have L4:=qH (show(Ar s3 (Ag near.length)).1.length≤32 by have h1:=AZ s3 (Ag near.length);have h2:=Au near.length;have:=L3.out;omega);obtain⟨s4,hs4⟩:∃ s,s=Ar s3 (Ag near.length):=⟨_,rfl⟩;rw [←hs4] at L4 ⊢;have E4:=qH hs4;unfold AP;clear hs4 q4 S3 X3 L3;have y0:w4.cell? ⟨w.heap.size,0,none⟩=some (.int .i64 n):=X4.out.cell 0;have y1:w4.cell? ⟨w.heap.size,1,none⟩=some (.int .i64 pos):=X4.out.cell 1;have y3:w4.cell? ⟨w.heap.size,3,none⟩=some (.slice A1 near.length c1):=X4.out.cell 3;have y4:w4.cell? ⟨w.heap.size,4,none⟩=some (.slice A2 paths.length c2):=X4.out.cell 4;clear y0 y1;go_wp2
 go_loopw [5,6,7] (fun a b i wr=>∃(k:Nat) (st:List UInt8×Int),k≤near.length∧i=.int .i64 k∧a=.string (bs st.1)∧b=.int .i64 st.2∧Hid (st=(BF (near.take k)).foldl Ar s4∧st.1.length≤32+k*131088)∧Hid (Aa w4 wr)) (fun _ _ i _=>near.length-(intOf i).toNat)
 case atStart=>exact⟨0,s4,Nat.zero_le _,rfl,rfl,rfl,qH ⟨rfl,by have:=L4.out;omega⟩,qH (Aa.refl w4)⟩
 case round =>
  obtain⟨k,st,hk,rfl,rfl,rfl,HI,HW⟩:=hrel;have x3:=HW.out.cell y3;have x4:=HW.out.cell y4;have HSW:=qH (show Aa w wr from Ad (Ae S4.out.below HW.out.below));by_cases hlt:k<near.length
  ·obtain⟨g1,o1,rfl,d1,d2⟩:=HC.out k hlt
   have z1:=HSW.out.cell d1;have z2:=HSW.out.cell d2
   have i0:(0:Int)≤(k:Int):=by omega
   have i1:(k:Int)<(near.length:Int):=by omega
   have HE:=qH (NJ hlt);have hz:=HZ.out.1;obtain⟨p,hp⟩:∃ p,p=near[k]:=⟨_,rfl⟩;rw [←hp] at z1 z2 HE;obtain⟨p1,p2⟩:=p;simp only at z1 z2 HE;clear d1 d2 hp
   go_wp2_with fail
   refine(HT.out st p1 _ HSW.out (by have:=HI.out.2;omega)).mono ?_;rintro e w5 ⟨rfl,q5⟩;have HW5:=qH (show Aa w4 w5 from Ad (Ae HW.out.below q5.below));have HSW5:=qH (show Aa w w5 from Ad (Ae HSW.out.below q5.below));have x3':=q5.cell x3;have z2':=q5.cell z2;have L5:=qH (show(Ar st (Ai p1)).1.length≤32+k*131088+65544 by have h1:=AZ st (Ai p1);have h2:=AF p1;have:=HI.out.2;omega);obtain⟨st1,hst1⟩:∃ s,s=Ar st (Ai p1):=⟨_,rfl⟩;rw [←hst1] at L5 ⊢;have E5:=qH hst1;unfold AP;clear hst1 q5 x3 x4 z1 z2 HW HSW
   go_wp2_with fail
   refine(HT.out st1 p2 _ HSW5.out (by have:=L5.out;omega)).mono ?_;rintro e w6 ⟨rfl,q6⟩;have HW6:=qH (show Aa w4 w6 from Ad (Ae HW5.out.below q6.below));have L6:=qH (show(Ar st1 (Ai p2)).1.length≤32+(k+1)*131088 by have h1:=AZ st1 (Ai p2);have h2:=AF p2;have:=L5.out;omega);have E6:=qH (show Ar st1 (Ai p2)=(BF (near.take (k+1))).foldl Ar s4 by rw [HE.out,List.foldl_append,←HI.out.1,E5.out];rfl);obtain⟨st2,hst2⟩:∃ s,s=Ar st1 (Ai p2):=⟨_,rfl⟩;rw [←hst2] at L6 E6 ⊢;unfold AP;clear hst2 q6 x3' z2' HW5 HSW5 L5 E5 HE HI;go_wp2
   go_roundw
   case rel=>exact⟨k+1,st2,by omega,by go_num,rfl,rfl,qH ⟨E6.out,L6.out⟩,HW6⟩
   case measure=>simp [intOf];omega
  ·obtain rfl:k=near.length:=by omega
   have HI2:=qH (show st=(BF near).foldl Ar s4 by have:=HI.out.1;rwa [List.take_length] at this);have LI2:=HI.out.2;have hz:=HZ.out.1;have LI:=qH (show st.1.length≤600000 by omega);clear HI LI2 hz
   go_wp2_with fail
   refine(HN.out st paths.length _ HSW.out (by have:=LI.out;omega)).mono ?_;rintro e w5 ⟨rfl,q5⟩;have HW5:=qH (show Aa w w5 from Ad (Ae HSW.out.below q5.below));have v4:=q5.cell x4;have L5:=qH (show(Ar st (Ag paths.length)).1.length≤700000 by have h1:=AZ st (Ag paths.length);have h2:=Au paths.length;have:=LI.out;omega);have NRM:=qH (Me (s:=st) (p:=Ag paths.length));obtain⟨s5,hs5⟩:∃ s,s=Ar st (Ag paths.length):=⟨_,rfl⟩;rw [←hs5] at L5 NRM ⊢;have HF5:=qH (show fin9=(AI paths).foldl Ar s5 by rw [HF.out,hs5,HI2.out,E4.out,E3.out,E2.out,E1.out,E0.out]);unfold AP;clear hs5 q5 x3 x4 y3 y4 HW HSW HF HI2 E0 E1 E2 E3 E4 LI HC HT
   rename World=>w5
   go_wp2
   go_loopw [5,6,8,9,10] (fun a b i _ _ wr=>∃(k:Nat) (su:List UInt8×Int),k≤paths.length∧i=.int .i64 k∧a=.string (bs su.1)∧b=.int .i64 su.2∧Hid (su=(AI (paths.take k)).foldl Ky s5∧su.1.length≤700000+k*17000000)∧Hid (Aa w5 wr)) (fun _ _ i _ _ _=>paths.length-(intOf i).toNat)
   case atStart=>exact⟨0,s5,Nat.zero_le _,rfl,rfl,rfl,qH ⟨rfl,by have:=L5.out;omega⟩,qH (Aa.refl w5)⟩
   case round =>
    obtain⟨k,su,hk,rfl,rfl,rfl,HJ,HV⟩:=hrel;have u4:=HV.out.cell v4;have HSV:=qH (show Aa w wr from Ad (Ae HW5.out.below HV.out.below))
    have hf5:fin s5=s5:=by
     unfold fin;by_cases h:s5.2=0
     ·rw [if_neg (by simp [h])]
     ·rw [if_pos h,←NRM.out h]
    by_cases hlt:k<paths.length
    ·have hsplit:fin9=((AI paths).drop k).foldl Ar (fin su):=by
      have e:AI paths=AI (paths.take k)++(AI paths).drop k:=by
       conv=>lhs;rw [←List.take_append_drop k (AI paths)]
       congr 1
       simp [AI,List.map_take]
      rw [HF5.out,HJ.out.1,Is,hf5,←List.foldl_append,←e]
     have HSP:=qH hsplit;clear hsplit hf5;by_cases he:su.2=0
     ·obtain⟨g2,o2,u,rfl,d3,J⟩:=HQ.out k _ (List.getElem?_eq_getElem hlt)
      have z3:=HSV.out.cell d3;have HJN:=qH (J _ HSV.out)
      have i0:(0:Int)≤(k:Int):=by omega
      have i1:(k:Int)<(paths.length:Int):=by omega
      have hb:(su.2 != 0)=false:=by rw [he];rfl
      have LJ:=JR (bss paths[k]);have HE:=qH (IZ hlt);have hz:=HZ.out.2;obtain⟨⟨t1,f1⟩,ht⟩:∃ t,t=BV (bss paths[k]):=⟨_,rfl⟩;rw [←ht] at HJN HE LJ;have a1:∀ W,(Op.stringOp .add (bs su.1) (bs t1)).run qP W=.ok (.string (bs (su.1++t1))) W:=fun W=>AB W su.1 t1 (by have:=HJ.out.2;simp only at LJ;omega);have HK:=qH (show Ky su (t1,f1)=(su.1++t1,f1) by unfold Ky;rw [if_neg (by simp [he])]);have L7:=qH (show(su.1++t1).length≤700000+(k+1)*17000000 by rw [List.length_append];have:=HJ.out.2;simp only at LJ;omega);have E7:=qH (show(su.1++t1,f1)=(AI (paths.take (k+1))).foldl Ky s5 by rw [HE.out,List.foldl_append,←HJ.out.1,List.foldl_cons,List.foldl_nil,HK.out]);clear d3 J ht LJ HE HK HSP HJ;obtain⟨r1,r2⟩:=su;simp only at he hb a1 L7 E7;subst he
      go_wp2_with fail
      refine HJN.out.mono ?_;rintro e w6 ⟨rfl,q6⟩;have HV6:=qH (show Aa w5 w6 from Ad (Ae HV.out.below q6.below));unfold AP;clear q6 HJN z3 u4 HV HSV;go_wp2
      go_roundw
      case rel=>exact⟨k+1,(r1++t1,f1),by omega,by go_num,rfl,rfl,qH ⟨E7.out,L7.out⟩,HV6⟩
      case measure=>simp [intOf];omega
     ·have hb:(su.2 != 0)=true:=by rw [bne_iff_ne];exact he
      have i1:(k:Int)<(paths.length:Int):=by omega
      have HR:=qH (show fin9=([],su.2) by
       rw [HSP.out];unfold fin;rw [if_pos he]
       exact Oc _ he)
      clear he HSP HJ;go_wp2
      go_ret2
      exact⟨by rw [HR.out];rfl,HSV.out⟩
    ·obtain rfl:k=paths.length:=by omega
     have HR:=qH (show fin9=fin su by
      have h1:=HJ.out.1;rw [List.take_length] at h1
      rw [HF5.out,h1,Is,hf5])
     have i1:¬(paths.length:Int)<(paths.length:Int):=by omega
     clear hf5 HJ;by_cases he:su.2=0
     ·have hb:(su.2 != 0)=false:=by rw [he];rfl
      have HR2:=qH (show fin9=(su.1,0) by rw [HR.out];unfold fin;rw [if_neg (by simp [he]),←he]);clear HR;go_wp2
      go_ret2
      exact⟨by rw [HR2.out];rfl,HSV.out⟩
     ·have hb:(su.2 != 0)=true:=by rw [bne_iff_ne];exact he
      have HR2:=qH (show fin9=([],su.2) by rw [HR.out];unfold fin;rw [if_pos he]);clear HR he;go_wp2
      go_ret2
      exact⟨by rw [HR2.out];rfl,HSV.out⟩
theorem Vv (n pos:Int) (A1:Option Addr) (c1:Nat) (A2:Option Addr) (c2:Nat) (near:List KV) (paths:List (List (List UInt8))) (w:World) (hno:near=[]) (hz1:near.length≤4) (hz2:paths.length≤4)
  (hc:∀ k (h:k<near.length),∃ b off,A1=some ⟨b,off,none⟩∧w.cell? ⟨b,off+k*2,none⟩=some (.string near[k].1)∧w.cell? ⟨b,off+k*2+1,none⟩=some (.string near[k].2))
  (hq:∀(k:Nat) q,paths[k]?=some q→∃ b off u,A2=some ⟨b,off,none⟩∧w.cell? ⟨b,off+k,none⟩=some u∧∀ W,Aa w W→Calls qP 103 #[u] W fun e w'=>e=.returned (AP (BV (bss q)))∧Aa W w')
  (HN:Hid (∀(st:List UInt8×Int) (x:Int) W,Aa w W→st.1.length≤1000000000→Calls qP 101 #[.string (bs st.1),.int .i64 st.2,.int .i64 x] W fun e w'=>e=.returned (AP (Ar st (Ag x)))∧Aa W w')) :
  Calls qP 56 #[.agg #[.int .i64 n,.int .i64 pos,.bool true,.slice A1 near.length c1,.slice A2 paths.length c2]] w fun e w'=>e=.returned (AP ((AI paths).foldl Ar (Ar ((BF near).foldl Ar (Ar (Ar (Ar (Ar ([],0) (Ag n)) (Ag pos)) (Ag 1)) (Ag near.length))) (Ag paths.length))))∧Aa w w':=by
 have HC:=qH hc;have HQ:=qH hq;have HZ:=qH (And.intro hz1 hz2);have S0:=qH (show Aa w (w.alloc (.cells #[.int .i64 n,.int .i64 pos,.bool true,.slice A1 near.length c1,.slice A2 paths.length c2] 112)) from Ad (by go_grown));have X0:=qH (Blk.new w 112 #[.int .i64 n,.int .i64 pos,.bool true,.slice A1 near.length c1,.slice A2 paths.length c2]);have L0:=qH (show(([]:List UInt8),(0:Int)).1.length≤0 by simp);obtain⟨s0,hs0⟩:∃ s,s=(([]:List UInt8),(0:Int)):=⟨_,rfl⟩
 have e01:bs s0.1=⟨#[]⟩:=by rw [hs0];rfl
 have e02:s0.2=0:=by rw [hs0]
 have HN0:=qH (fun x W (h:Aa w W)=>HN.out s0 x W h (by rw [hs0];simp));rw [e01,e02] at HN0;rw [←hs0] at L0;have E0:=qH hs0;obtain⟨fin9,hfin⟩:∃ r,r=(AI paths).foldl Ar (Ar ((BF near).foldl Ar (Ar (Ar (Ar (Ar ([],0) (Ag n)) (Ag pos)) (Ag 1)) (Ag near.length))) (Ag paths.length)):=⟨_,rfl⟩;rw [←hfin];have HF:=qH hfin;have HNO:=qH hno
 have hgt:¬(0:Int)<(near.length:Int):=by rw [hno];simp
 clear hc hq hs0 e01 e02 hfin hz1 hz2 hno;go_enter Tryz.func56,Tryz.ntmps56
 go_wp2_with fail
 clear hgt;refine(HN0.out n _ S0.out).mono ?_;rintro e w1 ⟨rfl,q1⟩;have S1:=qH (show Aa w w1 from Ad (Ae S0.out.below q1.below));have X1:=qH (X0.out.next q1.below);have L1:=qH (show(Ar s0 (Ag n)).1.length≤8 by have h1:=AZ s0 (Ag n);have h2:=Au n;have:=L0.out;omega);obtain⟨s1,hs1⟩:∃ s,s=Ar s0 (Ag n):=⟨_,rfl⟩;rw [←hs1] at L1 ⊢;have E1:=qH hs1;unfold AP;clear hs1 q1 S0 X0 L0;have y0:w1.cell? ⟨w.heap.size,0,none⟩=some (.int .i64 n):=X1.out.cell 0;have y1:w1.cell? ⟨w.heap.size,1,none⟩=some (.int .i64 pos):=X1.out.cell 1;have y3:w1.cell? ⟨w.heap.size,3,none⟩=some (.slice A1 near.length c1):=X1.out.cell 3;have y4:w1.cell? ⟨w.heap.size,4,none⟩=some (.slice A2 paths.length c2):=X1.out.cell 4
 go_wp2_with fail
 clear y0 y1 y3 y4;refine(HN.out s1 pos _ S1.out (by have:=L1.out;omega)).mono ?_;rintro e w2 ⟨rfl,q2⟩;have S2:=qH (show Aa w w2 from Ad (Ae S1.out.below q2.below));have X2:=qH (X1.out.next q2.below);have L2:=qH (show(Ar s1 (Ag pos)).1.length≤16 by have h1:=AZ s1 (Ag pos);have h2:=Au pos;have:=L1.out;omega);obtain⟨s2,hs2⟩:∃ s,s=Ar s1 (Ag pos):=⟨_,rfl⟩;rw [←hs2] at L2 ⊢;have E2:=qH hs2;unfold AP;clear hs2 q2 S1 X1 L1;have y0:w2.cell? ⟨w.heap.size,0,none⟩=some (.int .i64 n):=X2.out.cell 0;have y1:w2.cell? ⟨w.heap.size,1,none⟩=some (.int .i64 pos):=X2.out.cell 1;have y3:w2.cell? ⟨w.heap.size,3,none⟩=some (.slice A1 near.length c1):=X2.out.cell 3;have y4:w2.cell? ⟨w.heap.size,4,none⟩=some (.slice A2 paths.length c2):=X2.out.cell 4
 go_wp2_with fail
 clear y0 y1 y3 y4;refine(HN.out s2 1 _ S2.out (by have:=L2.out;omega)).mono ?_;rintro e w3 ⟨rfl,q3⟩;have S3:=qH (show Aa w w3 from Ad (Ae S2.out.below q3.below));have X3:=qH (X2.out.next q3.below);have L3:=qH (show(Ar s2 (Ag 1)).1.length≤24 by have h1:=AZ s2 (Ag 1);have h2:=Au 1;have:=L2.out;omega);obtain⟨s3,hs3⟩:∃ s,s=Ar s2 (Ag 1):=⟨_,rfl⟩;rw [←hs3] at L3 ⊢;have E3:=qH hs3;unfold AP;clear hs3 q3 S2 X2 L2;have y0:w3.cell? ⟨w.heap.size,0,none⟩=some (.int .i64 n):=X3.out.cell 0;have y1:w3.cell? ⟨w.heap.size,1,none⟩=some (.int .i64 pos):=X3.out.cell 1;have y3:w3.cell? ⟨w.heap.size,3,none⟩=some (.slice A1 near.length c1):=X3.out.cell 3;have y4:w3.cell? ⟨w.heap.size,4,none⟩=some (.slice A2 paths.length c2):=X3.out.cell 4
 go_wp2_with fail
 clear y0 y1 y3 y4;refine(HN.out s3 near.length _ S3.out (by have:=L3.out;omega)).mono ?_;rintro e w4 ⟨rfl,q4⟩;have S4:=qH (show Aa w w4 from Ad (Ae S3.out.below q4.below));have X4:=qH (X3.out.next q4.below);have L4:=qH (show(Ar s3 (Ag near.length)).1.length≤32 by have h1:=AZ s3 (Ag near.length);have h2:=Au near.length;have:=L3.out;omega);obtain⟨s4,hs4⟩:∃ s,s=Ar s3 (Ag near.length):=⟨_,rfl⟩;rw [←hs4] at L4 ⊢;have E4:=qH hs4;unfold AP;clear hs4 q4 S3 X3 L3;have y0:w4.cell? ⟨w.heap.size,0,none⟩=some (.int .i64 n):=X4.out.cell 0;have y1:w4.cell? ⟨w.heap.size,1,none⟩=some (.int .i64 pos):=X4.out.cell 1;have y3:w4.cell? ⟨w.heap.size,3,none⟩=some (.slice A1 near.length c1):=X4.out.cell 3;have y4:w4.cell? ⟨w.heap.size,4,none⟩=some (.slice A2 paths.length c2):=X4.out.cell 4;clear y0 y1;go_wp2
 go_loopw [5,6,7] (fun a b i wr=>∃(k:Nat) (st:List UInt8×Int),k≤near.length∧i=.int .i64 k∧a=.string (bs st.1)∧b=.int .i64 st.2∧Hid (st=(BF (near.take k)).foldl Ar s4∧st.1.length≤32+k*131088)∧Hid (Aa w4 wr)) (fun _ _ i _=>near.length-(intOf i).toNat)
 case atStart=>exact⟨0,s4,Nat.zero_le _,rfl,rfl,rfl,qH ⟨rfl,by have:=L4.out;omega⟩,qH (Aa.refl w4)⟩
 case round =>
  obtain⟨k,st,hk,rfl,rfl,rfl,HI,HW⟩:=hrel;have x3:=HW.out.cell y3;have x4:=HW.out.cell y4;have HSW:=qH (show Aa w wr from Ad (Ae S4.out.below HW.out.below));by_cases hlt:k<near.length
  ·exact absurd hlt (by rw [HNO.out];simp)
  ·obtain rfl:k=near.length:=by omega
   have HI2:=qH (show st=(BF near).foldl Ar s4 by have:=HI.out.1;rwa [List.take_length] at this);have LI2:=HI.out.2;have hz:=HZ.out.1;have LI:=qH (show st.1.length≤600000 by omega);clear HI LI2 hz
   go_wp2_with fail
   refine(HN.out st paths.length _ HSW.out (by have:=LI.out;omega)).mono ?_;rintro e w5 ⟨rfl,q5⟩;have HW5:=qH (show Aa w w5 from Ad (Ae HSW.out.below q5.below));have v4:=q5.cell x4;have L5:=qH (show(Ar st (Ag paths.length)).1.length≤700000 by have h1:=AZ st (Ag paths.length);have h2:=Au paths.length;have:=LI.out;omega);have NRM:=qH (Me (s:=st) (p:=Ag paths.length));obtain⟨s5,hs5⟩:∃ s,s=Ar st (Ag paths.length):=⟨_,rfl⟩;rw [←hs5] at L5 NRM ⊢;have HF5:=qH (show fin9=(AI paths).foldl Ar s5 by rw [HF.out,hs5,HI2.out,E4.out,E3.out,E2.out,E1.out,E0.out]);unfold AP;clear hs5 q5 x3 x4 y3 y4 HW HSW HF HI2 E0 E1 E2 E3 E4 LI HC
   rename World=>w5
   go_wp2
   go_loopw [5,6,8,9,10] (fun a b i _ _ wr=>∃(k:Nat) (su:List UInt8×Int),k≤paths.length∧i=.int .i64 k∧a=.string (bs su.1)∧b=.int .i64 su.2∧Hid (su=(AI (paths.take k)).foldl Ky s5∧su.1.length≤700000+k*17000000)∧Hid (Aa w5 wr)) (fun _ _ i _ _ _=>paths.length-(intOf i).toNat)
   case atStart=>exact⟨0,s5,Nat.zero_le _,rfl,rfl,rfl,qH ⟨rfl,by have:=L5.out;omega⟩,qH (Aa.refl w5)⟩
   case round =>
    obtain⟨k,su,hk,rfl,rfl,rfl,HJ,HV⟩:=hrel;have u4:=HV.out.cell v4;have HSV:=qH (show Aa w wr from Ad (Ae HW5.out.below HV.out.below))
    have hf5:fin s5=s5:=by
     unfold fin;by_cases h:s5.2=0
     ·rw [if_neg (by simp [h])]
     ·rw [if_pos h,←NRM.out h]
    by_cases hlt:k<paths.length
    ·have hsplit:fin9=((AI paths).drop k).foldl Ar (fin su):=by
      have e:AI paths=AI (paths.take k)++(AI paths).drop k:=by
       conv=>lhs;rw [←List.take_append_drop k (AI paths)]
       congr 1
       simp [AI,List.map_take]
      rw [HF5.out,HJ.out.1,Is,hf5,←List.foldl_append,←e]
     have HSP:=qH hsplit;clear hsplit hf5;by_cases he:su.2=0
     ·obtain⟨g2,o2,u,rfl,d3,J⟩:=HQ.out k _ (List.getElem?_eq_getElem hlt)
      have z3:=HSV.out.cell d3;have HJN:=qH (J _ HSV.out)
      have i0:(0:Int)≤(k:Int):=by omega
      have i1:(k:Int)<(paths.length:Int):=by omega
      have hb:(su.2 != 0)=false:=by rw [he];rfl
      have LJ:=JR (bss paths[k]);have HE:=qH (IZ hlt);have hz:=HZ.out.2;obtain⟨⟨t1,f1⟩,ht⟩:∃ t,t=BV (bss paths[k]):=⟨_,rfl⟩;rw [←ht] at HJN HE LJ;have a1:∀ W,(Op.stringOp .add (bs su.1) (bs t1)).run qP W=.ok (.string (bs (su.1++t1))) W:=fun W=>AB W su.1 t1 (by have:=HJ.out.2;simp only at LJ;omega);have HK:=qH (show Ky su (t1,f1)=(su.1++t1,f1) by unfold Ky;rw [if_neg (by simp [he])]);have L7:=qH (show(su.1++t1).length≤700000+(k+1)*17000000 by rw [List.length_append];have:=HJ.out.2;simp only at LJ;omega);have E7:=qH (show(su.1++t1,f1)=(AI (paths.take (k+1))).foldl Ky s5 by rw [HE.out,List.foldl_append,←HJ.out.1,List.foldl_cons,List.foldl_nil,HK.out]);clear d3 J ht LJ HE HK HSP HJ;obtain⟨r1,r2⟩:=su;simp only at he hb a1 L7 E7;subst he
      go_wp2_with fail
      refine HJN.out.mono ?_;rintro e w6 ⟨rfl,q6⟩;have HV6:=qH (show Aa w5 w6 from Ad (Ae HV.out.below q6.below));unfold AP;clear q6 HJN z3 u4 HV HSV;go_wp2
      go_roundw
      case rel=>exact⟨k+1,(r1++t1,f1),by omega,by go_num,rfl,rfl,qH ⟨E7.out,L7.out⟩,HV6⟩
      case measure=>simp [intOf];omega
     ·have hb:(su.2 != 0)=true:=by rw [bne_iff_ne];exact he
      have i1:(k:Int)<(paths.length:Int):=by omega
      have HR:=qH (show fin9=([],su.2) by
       rw [HSP.out];unfold fin;rw [if_pos he]
       exact Oc _ he)
      clear he HSP HJ;go_wp2
      go_ret2
      exact⟨by rw [HR.out];rfl,HSV.out⟩
    ·obtain rfl:k=paths.length:=by omega
     have HR:=qH (show fin9=fin su by
      have h1:=HJ.out.1;rw [List.take_length] at h1
      rw [HF5.out,h1,Is,hf5])
     have i1:¬(paths.length:Int)<(paths.length:Int):=by omega
     clear hf5 HJ;by_cases he:su.2=0
     ·have hb:(su.2 != 0)=false:=by rw [he];rfl
      have HR2:=qH (show fin9=(su.1,0) by rw [HR.out];unfold fin;rw [if_neg (by simp [he]),←he]);clear HR;go_wp2
      go_ret2
      exact⟨by rw [HR2.out];rfl,HSV.out⟩
     ·have hb:(su.2 != 0)=true:=by rw [bne_iff_ne];exact he
      have HR2:=qH (show fin9=([],su.2) by rw [HR.out];unfold fin;rw [if_pos he]);clear HR he;go_wp2
      go_ret2
      exact⟨by rw [HR2.out];rfl,HSV.out⟩
theorem jA (x:Pf) (v:Value) (w:World) (hP:Prf w v x) (hl1:x.near.length≤4) (hl2:x.paths.length≤4) (hq:∀ q ∈ x.paths,q.length≤1000000) :
  Calls qP 56 #[v] w fun e w'=>e=.returned (AP (IJ x))∧Aa w w':=by
 obtain⟨n,pos,there,near,paths⟩:=x;obtain⟨nv,pv,rfl,⟨A1,c1,rfl,_,hc1⟩,⟨A2,c2,rfl,_,hc⟩⟩:=hP;simp only at hl1 hl2 hq hc hc1 ⊢
 have hj:∀(k:Nat) q,paths[k]?=some q→∃ b off u,A2=some ⟨b,off,none⟩∧w.cell? ⟨b,off+k,none⟩=some u∧∀ W,Aa w W→Calls qP 103 #[u] W fun e w'=>e=.returned (AP (BV (bss q)))∧Aa W w':=fun k q hk=>by
  obtain⟨b,off,u,rfl,d,hT,_⟩:=hc k q hk;exact⟨b,off,u,rfl,d,fun W hW=>(iZ u (bss q) W ((hT.below hW.below).more hW.2.2.2.1) (by rw [BM];have:=hq q (List.mem_of_getElem? hk);omega)).mono fun e w' ⟨he,hb⟩=>⟨he,Ad hb⟩⟩
 have HN:Hid (∀(st:List UInt8×Int) (x:Int) W,Aa w W→st.1.length≤1000000000→Calls qP 101 #[.string (bs st.1),.int .i64 st.2,.int .i64 x] W fun e w'=>e=.returned (AP (Ar st (Ag x)))∧Aa W w'):=qH fun st x W _ hs=>aP st x W hs;have HT:Hid (∀(st:List UInt8×Int) (x:ByteArray) W,Aa w W→st.1.length≤1000000000→Calls qP 102 #[.string (bs st.1),.int .i64 st.2,.string x] W fun e w'=>e=.returned (AP (Ar st (Ai x)))∧Aa W w'):=qH fun st x W _ hs=>Yk st x W hs;by_cases h:there=true∧near≠[]
 ·obtain⟨rfl,hne⟩:=h
  have e:IJ ⟨n,pos,true,near,paths⟩=([],6):=by unfold IJ;rw [if_pos ⟨rfl,hne⟩]
  rw [e];exact fL n pos A1 A2 _ c1 _ c2 w (List.length_pos_iff.2 hne)
 ·rw [fK h]
  cases there with
  | false =>
    rw [Kc n pos false near paths 0 rfl];exact Sd n pos A1 c1 A2 c2 near paths w hl1 hl2 hc1 hj HN HT
  | true =>
    rw [Kc n pos true near paths 1 rfl]
    have h0:near=[]:=by
     by_cases h1:near=[]
     ·exact h1
     ·exact absurd ⟨rfl,h1⟩ h
    exact Vv n pos A1 c1 A2 c2 near paths w h0 hl1 hl2 hc1 hj HN
def Ef (key:ByteArray) (h:Hdr):ByteArray:=bs (Gk (AO key h).1).1
def jC (k:Int) (id:ByteArray) (h:Hdr) (key raw p1 p2:ByteArray) (ht:Int):Array Value:=#[.int .i64 k,.string id,.string h.chain,.int .i64 h.height,.int .i64 h.time,.string h.root,.string h.mac,.string key,.string raw,.string p1,.string p2,.int .i64 ht]
theorem Yp (k:Int) (id c:ByteArray) (a b:Int) (r m key raw p1 p2:ByteArray) (ht:Int) (c':ByteArray) (a' b':Int) (r' m':ByteArray) (e f:Int) (s:ByteArray) (w:World)
  (P1:Hid (∀ W,Aa w W→Calls qP 14 #[.string key,.agg #[.string c,.int .i64 a,.int .i64 b,.string r,.string m]] W fun en w'=>en=.returned (.tuple #[.agg #[.string c',.int .i64 a',.int .i64 b',.string r',.string m'],.int .i64 e])∧Aa W w'))
  (P2:Hid (∀ W,Aa w W→Calls qP 15 #[.agg #[.string c',.int .i64 a',.int .i64 b',.string r',.string m']] W fun en w'=>en=.returned (.tuple #[.string s,.int .i64 f])∧Aa W w')) :
  Calls qP 29 #[.agg #[.int .i64 k,.string id,.string c,.int .i64 a,.int .i64 b,.string r,.string m,.string key,.string raw,.string p1,.string p2,.int .i64 ht]] w fun en w'=>en=.returned (.string s)∧Aa w w':=by
 have HB:=qH (Blk.new w 38 #[.int .i64 k,.string id,.string c,.int .i64 a,.int .i64 b,.string r,.string m,.string key,.string raw,.string p1,.string p2,.int .i64 ht]);have HS:=qH (Ab (Aa.refl w) (.cells #[.int .i64 k,.string id,.string c,.int .i64 a,.int .i64 b,.string r,.string m,.string key,.string raw,.string p1,.string p2,.int .i64 ht] 38));generalize hV:w.alloc (.cells #[.int .i64 k,.string id,.string c,.int .i64 a,.int .i64 b,.string r,.string m,.string key,.string raw,.string p1,.string p2,.int .i64 ht] 38)=V at *;have y2:V.cell? ⟨w.heap.size,2,none⟩=some (.string c):=HB.out.c 2 rfl;have y3:V.cell? ⟨w.heap.size,3,none⟩=some (.int .i64 a):=HB.out.c 3 rfl;have y4:V.cell? ⟨w.heap.size,4,none⟩=some (.int .i64 b):=HB.out.c 4 rfl;have y5:V.cell? ⟨w.heap.size,5,none⟩=some (.string r):=HB.out.c 5 rfl;have y6:V.cell? ⟨w.heap.size,6,none⟩=some (.string m):=HB.out.c 6 rfl;have y7:V.cell? ⟨w.heap.size,7,none⟩=some (.string key):=HB.out.c 7 rfl;rw [←hV] at y2 y3 y4 y5 y6 y7;subst hV;go_enter Tryz.func29,Tryz.ntmps29
 go_wp2_with fail
 clear y2 y3 y4 y5 y6 y7;refine(P1.out _ HS.out).mono ?_;rintro en w1 ⟨rfl,q⟩;have X1:=qH (Blk.new w1 34 #[.string c',.int .i64 a',.int .i64 b',.string r',.string m']);have S1:=qH (Ab (Ac HS.out q) (.cells #[.string c',.int .i64 a',.int .i64 b',.string r',.string m'] 34));clear HB HS P1 q;have y0:(w1.alloc (.cells #[.string c',.int .i64 a',.int .i64 b',.string r',.string m'] 34)).cell? ⟨w1.heap.size,0,none⟩=some (.string c'):=X1.out.c 0 rfl;have y1:(w1.alloc (.cells #[.string c',.int .i64 a',.int .i64 b',.string r',.string m'] 34)).cell? ⟨w1.heap.size,1,none⟩=some (.int .i64 a'):=X1.out.c 1 rfl;have y2:(w1.alloc (.cells #[.string c',.int .i64 a',.int .i64 b',.string r',.string m'] 34)).cell? ⟨w1.heap.size,2,none⟩=some (.int .i64 b'):=X1.out.c 2 rfl;have y3:(w1.alloc (.cells #[.string c',.int .i64 a',.int .i64 b',.string r',.string m'] 34)).cell? ⟨w1.heap.size,3,none⟩=some (.string r'):=X1.out.c 3 rfl;have y4:(w1.alloc (.cells #[.string c',.int .i64 a',.int .i64 b',.string r',.string m'] 34)).cell? ⟨w1.heap.size,4,none⟩=some (.string m'):=X1.out.c 4 rfl
 go_wp2_with fail
 refine(P2.out _ S1.out).mono ?_;rintro en w2 ⟨rfl,q⟩;have S2:=qH (Ac S1.out q);clear y0 y1 y2 y3 y4 P2 X1 S1 q;go_wp2
 go_ret
 exact⟨rfl,S2.out⟩
theorem lB (k:Int) (id:ByteArray) (h:Hdr) (key raw p1 p2:ByteArray) (ht:Int) (w:World) (hk:key.size≤1099511627776) :
  Calls qP 29 #[.agg (jC k id h key raw p1 p2 ht)] w fun en w'=>en=.returned (.string (Ef key h))∧Aa w w' :=
 Yp k id h.chain h.height h.time h.root h.mac key raw p1 p2 ht (AO key h).1.chain (AO key h).1.height (AO key h).1.time (AO key h).1.root (AO key h).1.mac _ _ _ w (qH fun W _=>WO key h W hk) (qH fun W _=>cG (AO key h).1 W)
end Go.Proofs.YtkejaepmoabikaaGreatDoor.W
namespace Go.Proofs.YtkejaepmoabikaaGreatDoor.W
def CX:ByteArray:=⟨#[111,116,104,101,114]⟩
def cK:ByteArray:=⟨#[107]⟩
def cId:ByteArray:=⟨#[99,108,105,101,110,116,45,48]⟩
def Bq:List KV:=Az (Az [] Ce (bs (Ag 1).1)) (BN cId) (bs (BC ⟨CX,cK,0,false⟩))
theorem MS:IK [] CX cK=((Bq,cId),0):=by
 have hc:AL []=0:=Kd;unfold IK;rw [if_neg (by decide +kernel),if_neg (by decide),hc];rw [show(((0:Nat):Int)+1)=1 by rfl,show bs (mkS 3 ((0:Nat):Int))=cId by decide +kernel]
 rfl
section
variable {L:List KV} {id:ByteArray} {c:Clt}
theorem Kr (h1:c.chain.size≤65536) (h2:c.key.size≤65536) (h3:0≤c.height) (h4:c.height≤9007199254740992):AA (Az L (BN id) (bs (BC c))) id=(c,0):=by
 unfold AA;rw [Bw,if_pos rfl,Option.bind_some,fN h1 h2 h3 h4]
theorem Ex {k v:ByteArray} (h:BN id≠k):AA (Az L k v) id=AA L id:=by
 unfold AA;rw [Bw,if_neg h]
theorem Yq {key:ByteArray} {h:Hdr} (hb:(Br h).2=0):∃ M,CR (Ef key h)=(⟨h.chain,h.height,h.time,h.root,M⟩,0)∧EC key ⟨h.chain,h.height,h.time,h.root,M⟩=true:=by
 obtain⟨_,g2,g3,_⟩:=Mj key h hb
 have hs:AO key h=(⟨h.chain,h.height,h.time,h.root,bs (Ht key.data.toList (Br h).1)⟩,0):=by unfold AO;rw [if_neg (by simp [hb])]
 rw [hs] at g2 g3;refine⟨_,?_,g2⟩;have hbk:=gI _ g3 [];rw [List.append_nil,if_pos rfl] at hbk;unfold Ef;rw [hs];exact hbk
theorem aQ {h:Hdr} (hf:c.frozen=false) (hb:(Br h).2=0) (hc:h.chain=c.chain) (h1:1≤h.height) (h2:h.height≤1099511627776):∃ M,DH c (Ef c.key h)=(⟨h.chain,h.height,h.time,h.root,M⟩,0):=by
 obtain⟨M,hr,hg⟩:=Yq (key:=c.key) hb;refine⟨M,?_⟩;unfold DH;rw [if_neg (by simp [hf]),hr];simp only;rw [if_neg (by simp),if_neg (by rw [hg];simp [hc]),if_neg (by omega)]
theorem aR {h:Hdr} (hg:AA L id=(c,0)) (hf:c.frozen=false) (hb:(Br h).2=0) (hc:h.chain=c.chain) (h1:1≤h.height) (h2:h.height≤1099511627776) (hs:(Dn L id h.height).2≠0) :
  GJ L id (Ef c.key h)=(Az (Az L (Bf id h.height) (bs (Ec h.time h.root))) (BN id) (bs (BC ⟨c.chain,c.key,max c.height h.height,c.frozen⟩)),0):=by
 obtain⟨M,hh⟩:=aQ hf hb hc h1 h2;unfold GJ;rw [hg];simp only;rw [if_neg (by simp),hh];simp only;rw [if_neg (by simp)];unfold Mz;simp only;rw [if_neg hs]
theorem aS {h:Int} {t:Int} {r:ByteArray} (hg:AA L id=(c,0)) (h1:1≤h) (h2:h≤1099511627776) (hl:AD L (Bf id h)=some (bs (Ec t r))) (h3:0≤t) (h4:t≤9007199254740992) (h5:r.size≤65536):Dn L id h=(⟨t,r⟩,0):=by
 unfold Dn;rw [hg];simp only;rw [if_neg (by simp),if_neg (by omega),hl,Option.bind_some,jB h3 h4 h5]
theorem TW {h:Int} (hg:AA L id=(c,0)) (hl:AD L (Bf id h)=none):(Dn L id h).2=13:=by
 unfold Dn;rw [hg];simp only;rw [if_neg (by simp)]
 split
 ·rfl
 ·rw [hl];rfl
end
theorem Yr:AA Bq cId=(⟨CX,cK,0,false⟩,0):=Kr (by decide) (by decide) (by decide) (by decide)
theorem jD (h:Int):(Dn Bq cId h).2=13:=by
 refine TW Yr ?_;unfold Bq;rw [Bw,if_neg (fun e=>Dv _ _ _ e.symm),Bw,if_neg (Gg _ _)]
 rfl
def Cq (t:Int) (r:ByteArray):List KV:=Az (Az Bq (Bf cId 1) (bs (Ec t r))) (BN cId) (bs (BC ⟨CX,cK,1,false⟩))
def EP (n t:Int) (r:ByteArray):Hdr:=⟨CX,n,t,r,⟨#[]⟩⟩
theorem TY {n t:Int} {r:ByteArray} (h1:0≤n) (h2:n≤9007199254740992) (h3:0≤t) (h4:t≤9007199254740992) (h5:r.size≤65536):(Br (EP n t r)).2=0:=by
 have e1:(Ai CX).2=0:=by unfold Ai;rw [if_pos (by decide)]
 have e2:(Ag n).2=0:=by unfold Ag;rw [if_pos ⟨h1,h2⟩]
 have e3:(Ag t).2=0:=by unfold Ag;rw [if_pos ⟨h3,h4⟩]
 have e4:(Ai r).2=0:=by unfold Ai;rw [if_pos h5]
 unfold Br EP;simp only [Ar,e1,e2,e3,e4,ne_eq,not_true_eq_false,if_false]
theorem cU {t:Int} {r:ByteArray} (h3:0≤t) (h4:t≤9007199254740992) (h5:r.size≤65536):GJ Bq cId (Ef cK (EP 1 t r))=(Cq t r,0) :=
 aR (c:=⟨CX,cK,0,false⟩) (h:=EP 1 t r) Yr rfl (TY (by decide) (by decide) h3 h4 h5) rfl (show(1:Int)≤1 by decide) (show(1:Int)≤1099511627776 by decide) (by rw [show(EP 1 t r).height=1 from rfl,jD];decide)
theorem cV (t:Int) (r:ByteArray):AA (Cq t r) cId=(⟨CX,cK,1,false⟩,0):=Kr (by decide) (by decide) (by decide) (by decide)
theorem jE {t:Int} {r:ByteArray} (h3:0≤t) (h4:t≤9007199254740992) (h5:r.size≤65536):Dn (Cq t r) cId 1=(⟨t,r⟩,0):=by
 refine aS (cV t r) (by decide) (by decide) ?_ h3 h4 h5;unfold Cq;rw [Bw,if_neg (fun e=>Dv _ _ _ e.symm),Bw,if_pos rfl]
end Go.Proofs.YtkejaepmoabikaaGreatDoor.W
namespace Go.Proofs.YtkejaepmoabikaaGreatDoor.W
open Go.RowKit
open Lib renaming hid → qH
open _root_.Go.Proofs.Tryz renaming prog → qP
set_option maxHeartbeats 4000000
set_option maxRecDepth 100000
structure Rdg (w:World) (b:Nat) (s:ByteArray) (e:Int) (W:World):Prop where
 q:Ci W b s e
 s:Aa w W
 lt:w.heap.size≤b
section
variable {w W W':World} {b:Nat} {s s':ByteArray} {e e':Int}
theorem Rdg.start (h:Aa w W) (s:ByteArray):Rdg w W.heap.size s 0 (W.alloc (.cells #[.string s,.int .i64 0] 149)):=⟨Blk.new W _ _,Ab h _,h.below.size⟩
theorem Rdg.step (h:Rdg w b s e W) {v:Value} {en:Ending} (k:CF W b v s' e' en W'):Rdg w b s' e' W':=⟨k.2.1,Ad (Jf h.s.below k.2.2 h.lt),h.lt⟩
end
theorem NQ (j:Nat) (key v s1:ByteArray) (g:Bool) (e1 d:Int) (n:Nat) (w:World)
  (K:Hid (Calls qP 67 #[] w fun e w'=>e=.returned (.string key)∧Aa w w'))
  (G:Hid (∀ W,Aa w W→Calls qP 33 #[.pointer (some ⟨j,0,none⟩),.string key] W fun e w'=>e=.returned (.tuple #[.string v,.bool g])∧w'=W))
  (N1:Hid (∀ W b,Ci W b v 0→Calls qP 37 #[.pointer (some ⟨b,0,none⟩)] W (CF W b (.int .i64 n) s1 e1)))
  (N2:Hid (∀ W b,Ci W b s1 e1→Calls qP 38 #[.pointer (some ⟨b,0,none⟩)] W fun en w'=>en=.returned (.int .i64 d)∧W=w')) :
  Calls qP 63 #[.pointer (some ⟨j,0,none⟩)] w fun e w'=>e=.returned (.int .i64 (if d≠0 then 0 else (n:Int)))∧Aa w w':=by
 obtain⟨r,hr⟩:∃ r,r=(if d≠0 then 0 else (n:Int)):=⟨_,rfl⟩;rw [←hr];have HR:=qH hr;clear hr;go_enter Tryz.func63,Tryz.ntmps63
 go_wp2_with fail
 refine K.out.mono ?_;rintro e w1 ⟨rfl,q⟩;have S1:=qH q;clear K q
 go_wp2_with fail
 refine(G.out _ S1.out).mono ?_;rintro e w2 ⟨rfl,rfl⟩;clear G
 go_wp2_with fail
 refine(new v _).mono ?_;rintro e w3 ⟨rfl,rfl⟩;have H:=qH (Rdg.start S1.out v);clear S1;generalize (w2.alloc (.cells #[.string v,.int .i64 0] 149))=W0 at *;generalize w2.heap.size=b at *
 go_wp2_with fail
 refine(N1.out _ _ H.out.q).mono ?_;rintro e w4 q;have H1:=qH (H.out.step q);obtain⟨rfl,-,-⟩:=q;clear N1 H
 go_wp2_with fail
 refine(N2.out _ _ H1.out.q).mono ?_;rintro e w5 ⟨rfl,rfl⟩;clear N2;by_cases hd:d=0
 ·subst hd
  have hr:=HR.out;rw [if_neg (by simp)] at hr;subst hr;go_wp2
  go_ret
  exact⟨rfl,H1.out.s⟩
 ·have hdb:(d != 0)=true:=by rw [bne_iff_ne];exact hd
  have hr:=HR.out;rw [if_pos hd] at hr;subst hr;go_wp2
  go_ret
  exact⟨rfl,H1.out.s⟩
theorem YE {w:World} {S:Nat→Prop} {j m:Nat} {Lv:List (List KV)} {L:List KV} (h:Jr w S j Lv L m) (hs:BD L) (hL:ED w) :
  Calls qP 63 #[.pointer (some ⟨j,0,none⟩)] w fun e w'=>e=.returned (.int .i64 (AL L))∧Aa w w':=by
 have hz:=hs.get Ce;have k:=NQ j Ce ((AD L Ce).getD ⟨#[]⟩) _ (AD L Ce).isSome _ _ _ w (qH (Qk w hL)) (qH fun W hW=>fJ Ce (h.below hW.below)) (qH fun W b hR=>Gn b _ _ W hR (by omega)) (qH fun W b hR=>Ju b _ _ W hR);refine k.mono fun e w' ⟨h1,h2⟩=>⟨?_,h2⟩;rw [h1];unfold AL Fb
 split<;>rfl
structure Si (w:World) (b:Nat) (s:ByteArray) (e:Int) (W:World):Prop where
 o:Blk W w.heap.size 41 #[.string ⟨#[]⟩,.string ⟨#[]⟩,.int .i64 0,.bool false]
 r:Rdg w b s e W
 lt:w.heap.size<b
section
variable {w W W':World} {b:Nat} {s s':ByteArray} {e e':Int}
theorem Si.step (h:Si w b s e W) {v:Value} {en:Ending} (k:CF W b v s' e' en W'):Si w b s' e' W' :=
 ⟨h.o.grown k.2.2 (by have:=h.lt;intro x;injection x with x;omega),h.r.step k,h.lt⟩
theorem Si.alloc (h:Si w b s e W) (ob:Obj):Si w b s e (W.alloc ob):=⟨h.o.alloc _,⟨h.r.q.alloc _,Ab h.r.s _,h.r.lt⟩,h.lt⟩
end
theorem YF (j:Nat) (id key v s1 s2 s3 s4:ByteArray) (g:Bool) (e1 e2 e3 e4:Int) (x1 x2:ByteArray) (x3 x4:Nat) (d:Int) (w:World)
  (K:Hid (∀ W,Aa w W→Calls qP 34 #[.string id] W fun e w'=>e=.returned (.string key)∧Aa W w'))
  (G:Hid (∀ W,Aa w W→Calls qP 33 #[.pointer (some ⟨j,0,none⟩),.string key] W fun e w'=>e=.returned (.tuple #[.string v,.bool g])∧w'=W))
  (N1:Hid (∀ W b,Ci W b v 0→Calls qP 36 #[.pointer (some ⟨b,0,none⟩)] W (CF W b (.string x1) s1 e1)))
  (N2:Hid (∀ W b,Ci W b s1 e1→Calls qP 36 #[.pointer (some ⟨b,0,none⟩)] W (CF W b (.string x2) s2 e2)))
  (N3:Hid (∀ W b,Ci W b s2 e2→Calls qP 37 #[.pointer (some ⟨b,0,none⟩)] W (CF W b (.int .i64 x3) s3 e3)))
  (N4:Hid (∀ W b,Ci W b s3 e3→Calls qP 37 #[.pointer (some ⟨b,0,none⟩)] W (CF W b (.int .i64 x4) s4 e4)))
  (N5:Hid (∀ W b,Ci W b s4 e4→Calls qP 38 #[.pointer (some ⟨b,0,none⟩)] W fun en w'=>en=.returned (.int .i64 d)∧W=w')) :
  Calls qP 11 #[.pointer (some ⟨j,0,none⟩),.string id] w fun e w'=>e=.returned (Cb (if d≠0∨1<x4 then (Clt.zero,8) else (⟨x1,x2,x3,decide (x4=1)⟩,0)))∧Aa w w':=by
 obtain⟨ans,hr⟩:∃ x:Clt×Int,x=(if d≠0∨1<x4 then (Clt.zero,8) else (⟨x1,x2,x3,decide (x4=1)⟩,0)):=⟨_,rfl⟩;rw [←hr];have HR:=qH hr;clear hr;have O0:=qH (Blk.new w 41 #[.string ⟨#[]⟩,.string ⟨#[]⟩,.int .i64 0,.bool false]);have S0:=qH (Ab (Aa.refl w) (.cells #[.string ⟨#[]⟩,.string ⟨#[]⟩,.int .i64 0,.bool false] 41));go_enter Tryz.func11,Tryz.ntmps11
 go_wp2_with fail
 refine(K.out _ S0.out).mono ?_;rintro e w1 ⟨rfl,q⟩;have O1:=qH (O0.out.next q.below);have S1:=qH (Ac S0.out q);clear K O0 S0 q
 go_wp2_with fail
 refine(G.out _ S1.out).mono ?_;rintro e w2 ⟨rfl,rfl⟩;clear G
 go_wp2_with fail
 refine(new v _).mono ?_;rintro e w3 ⟨rfl,rfl⟩;have H:Hid (Si w w2.heap.size v 0 (w2.alloc (.cells #[.string v,.int .i64 0] 149))):=qH ⟨O1.out.alloc _,Rdg.start S1.out v,O1.out.lt⟩;clear S1 O1;generalize (w2.alloc (.cells #[.string v,.int .i64 0] 149))=W0 at *;generalize w2.heap.size=b at *
 go_wp2_with fail
 refine(N1.out _ _ H.out.r.q).mono ?_;rintro e w4 q;have H1:=qH (H.out.step q);obtain⟨rfl,-,-⟩:=q;clear N1 H
 go_wp2_with fail
 refine(N2.out _ _ H1.out.r.q).mono ?_;rintro e w5 q;have H2:=qH (H1.out.step q);obtain⟨rfl,-,-⟩:=q;clear N2 H1
 go_wp2_with fail
 refine(N3.out _ _ H2.out.r.q).mono ?_;rintro e w6 q;have H3:=qH (H2.out.step q);obtain⟨rfl,-,-⟩:=q;clear N3 H2
 go_wp2_with fail
 have B6:=qH (Blk.new w6 41 #[.string x1,.string x2,.int .i64 x3,.bool false]);have H4:=qH (H3.out.alloc (.cells #[.string x1,.string x2,.int .i64 x3,.bool false] 41));have lt3:=H3.out.r.q.lt;have lt0:=H3.out.o.lt;clear H3;refine(N4.out _ _ H4.out.r.q).mono ?_;rintro e w7 q;have H5:=qH (H4.out.step q);obtain⟨rfl,-,gr⟩:=q
 have B7:=qH (B6.out.grown gr (fun x=>by injection x with x;omega))
 clear N4 H4 B6 gr
 go_wp2_with fail
 refine(N5.out _ _ H5.out.r.q).mono ?_;rintro e w8 ⟨rfl,rfl⟩;clear N5;have d0:=H5.out.o.c 0 (v:=.string ⟨#[]⟩) rfl;have d1:=H5.out.o.c 1 (v:=.string ⟨#[]⟩) rfl;have d2:=H5.out.o.c 2 (v:=.int .i64 0) rfl;have d3:=H5.out.o.c 3 (v:=.bool false) rfl;have f0:=H5.out.o.frozen 0;have f1:=H5.out.o.frozen 1;have f2:=H5.out.o.frozen 2;have f3:=H5.out.o.frozen 3;by_cases hd:d=0
 ·subst hd
  by_cases hx:1<x4
  ·have hr:=HR.out
   rw [if_pos (.inr hx)] at hr;subst hr
   have hx':(1:Int)<(x4:Int):=by omega
   have DZ:=qH (And.intro (put4 H5.out.o (.string ⟨#[]⟩) (.string ⟨#[]⟩) (.int .i64 0) (.bool false)) (Bv H5.out.r.s (Nat.le_refl _) (.string ⟨#[]⟩) (.string ⟨#[]⟩) (.int .i64 0) (.bool false)));clear HR hx H5 B7;go_wp2;have D1:=DZ.out.1;refine bodyPost_ret (v:=Cb (Clt.zero,8)) (by simp [results,Tryz.results11,go_sem,Cb,FZ,Clt.zero,D1.c 0 rfl,D1.c 1 rfl,D1.c 2 rfl,D1.c 3 rfl]) rfl ?_;exact⟨rfl,DZ.out.2⟩
  ·have hr:=HR.out
   obtain⟨fr,hfr⟩:∃ fr,((x4:Int)==1)=fr:=⟨_,rfl⟩;rw [if_neg (by simp;omega),show decide (x4=1)=fr by rw [←hfr,Bool.eq_iff_iff];simp;omega] at hr;subst hr
   have hx':¬(1:Int)<(x4:Int):=by omega
   have g3:=B7.out.frozen 3;have ne:w.heap.size≠w6.heap.size:=Nat.ne_of_lt lt0;have O8:=qH (H5.out.o.far (p:=⟨w6.heap.size,3,none⟩) ne (.bool fr));have S8:=qH (Ak H5.out.r.s (p:=⟨w6.heap.size,3,none⟩) (Nat.le_of_lt lt0) (.bool fr));have B8:=qH (B7.out.set_ 3 (.bool fr));have y0:=B8.out.c 0 (v:=.string x1) rfl;have y1:=B8.out.c 1 (v:=.string x2) rfl;have y2:=B8.out.c 2 (v:=.int .i64 x3) rfl;have y3:=B8.out.c 3 (v:=.bool fr) rfl;have k0:=B7.out.c 0 (v:=.string x1) rfl;have k1:=B7.out.c 1 (v:=.string x2) rfl;have k2:=B7.out.c 2 (v:=.int .i64 x3) rfl;have k3:=B7.out.c 3 (v:=.bool false) rfl;have e0:=O8.out.c 0 (v:=.string ⟨#[]⟩) rfl;have e1:=O8.out.c 1 (v:=.string ⟨#[]⟩) rfl;have e2:=O8.out.c 2 (v:=.int .i64 0) rfl;have e3:=O8.out.c 3 (v:=.bool false) rfl;have r0:=O8.out.frozen 0;have r1:=O8.out.frozen 1;have r2:=O8.out.frozen 2;have r3:=O8.out.frozen 3;have DY:=qH (And.intro (put4 O8.out (.string x1) (.string x2) (.int .i64 x3) (.bool fr)) (Bv S8.out (Nat.le_refl _) (.string x1) (.string x2) (.int .i64 x3) (.bool fr)));clear HR hx H5 B7 O8 S8 B8;go_wp2;have D1:=DY.out.1;refine bodyPost_ret (v:=Cb (⟨x1,x2,x3,fr⟩,0)) (by simp [results,Tryz.results11,go_sem,Cb,FZ,D1.c 0 rfl,D1.c 1 rfl,D1.c 2 rfl,D1.c 3 rfl]) rfl ?_;exact⟨rfl,DY.out.2⟩
 ·have hdb:(d != 0)=true:=by rw [bne_iff_ne];exact hd
  have hr:=HR.out;rw [if_pos (.inl hd)] at hr;subst hr;have DZ:=qH (And.intro (put4 H5.out.o (.string ⟨#[]⟩) (.string ⟨#[]⟩) (.int .i64 0) (.bool false)) (Bv H5.out.r.s (Nat.le_refl _) (.string ⟨#[]⟩) (.string ⟨#[]⟩) (.int .i64 0) (.bool false)));clear HR hd H5 B7;go_wp2;have D1:=DZ.out.1;refine bodyPost_ret (v:=Cb (Clt.zero,8)) (by simp [results,Tryz.results11,go_sem,Cb,FZ,Clt.zero,D1.c 0 rfl,D1.c 1 rfl,D1.c 2 rfl,D1.c 3 rfl]) rfl ?_;exact⟨rfl,DZ.out.2⟩
theorem Qm:Gm ⟨#[]⟩=none:=by decide +kernel
theorem Qn {w:World} {S:Nat→Prop} {j m:Nat} {Lv:List (List KV)} {L:List KV} (hJ:Jr w S j Lv L m) (hs:BD L) (hL:ED w) (id:ByteArray) (hid:id.size≤1000000) :
  Calls qP 11 #[.pointer (some ⟨j,0,none⟩),.string id] w fun e w'=>e=.returned (Cb (AA L id))∧Aa w w':=by
 have hsz:=hs.get (BN id);obtain⟨v,hv⟩:∃ v,v=(AD L (BN id)).getD ⟨#[]⟩:=⟨_,rfl⟩;rw [←hv] at hsz;have z1:=(AV v 0).1;have z2:=(AV (Aj v 0).1.1 (Aj v 0).1.2).1;have z3:=(Ay (Aj (Aj v 0).1.1 (Aj v 0).1.2).1.1 (Aj (Aj v 0).1.1 (Aj v 0).1.2).1.2).2.1;have k:=YF j id (BN id) v _ _ _ _ (AD L (BN id)).isSome _ _ _ _ _ _ _ _ _ w (qH fun W hW=>LO id hid W (hL.next hW.below)) (qH fun W hW=>hv▸fJ (BN id) (hJ.below hW.below)) (qH fun W b hR=>Gc b _ _ W hR (by omega)) (qH fun W b hR=>Gc b _ _ W hR (by omega)) (qH fun W b hR=>Gn b _ _ W hR (by omega)) (qH fun W b hR=>Gn b _ _ W hR (by omega)) (qH fun W b hR=>Ju b _ _ W hR);refine k.mono fun e w' ⟨he,hs⟩=>⟨?_,hs⟩;rw [he];unfold AA
 have hb:(AD L (BN id)).bind Gm=Gm v:=by rw [hv];cases AD L (BN id)<;>simp [Qm]
 rw [hb];unfold Gm;simp only
 split<;>rfl
structure Gr (w:World) (s:ByteArray) (e:Int) (W:World):Prop where
 o:Blk W w.heap.size 34 #[.string ⟨#[]⟩,.int .i64 0,.int .i64 0,.string ⟨#[]⟩,.string ⟨#[]⟩]
 q:Ci W (w.heap.size+1) s e
 s:Aa w W
section
variable {w W W':World} {s s':ByteArray} {e e':Int}
theorem YG (w:World) (s:ByteArray):Gr w s 0 ((w.alloc (.cells #[.string ⟨#[]⟩,.int .i64 0,.int .i64 0,.string ⟨#[]⟩,.string ⟨#[]⟩] 34)).alloc (.cells #[.string s,.int .i64 0] 149)):=by
 have h1:=Blk.new w 34 #[.string ⟨#[]⟩,.int .i64 0,.int .i64 0,.string ⟨#[]⟩,.string ⟨#[]⟩];have b1:Below w.heap.size w (w.alloc (.cells #[.string ⟨#[]⟩,.int .i64 0,.int .i64 0,.string ⟨#[]⟩,.string ⟨#[]⟩] 34)):=(Below.refl _ w).alloc (Nat.le_refl _) _
 have e1:(w.alloc (.cells #[.string ⟨#[]⟩,.int .i64 0,.int .i64 0,.string ⟨#[]⟩,.string ⟨#[]⟩] 34)).heap.size=w.heap.size+1:=by simp
 generalize w.alloc (.cells #[.string ⟨#[]⟩,.int .i64 0,.int .i64 0,.string ⟨#[]⟩,.string ⟨#[]⟩] 34)=W1 at *;have h2:=Blk.new W1 149 #[.string s,.int .i64 0];rw [e1] at h2;exact⟨h1.alloc _,h2,Ad (b1.alloc b1.size _)⟩
theorem Gr.step (h:Gr w s e W) {v:Value} {en:Ending} (k:CF W (w.heap.size+1) v s' e' en W'):Gr w s' e' W' :=
 ⟨h.o.grown k.2.2 (by intro x;injection x with x;omega),k.2.1,Ad (Jf h.s.below k.2.2 (by omega))⟩
theorem Gr.alloc (h:Gr w s e W) (ob:Obj):Gr w s e (W.alloc ob):=⟨h.o.alloc _,h.q.alloc _,Ad (h.s.below.alloc h.s.below.size _)⟩
theorem Uc (h:Gr w s e W) (v0 v1 v2 v3 v4:Value) :
  Blk (((((W.setCell ⟨w.heap.size,0,none⟩ v0).setCell ⟨w.heap.size,1,none⟩ v1).setCell ⟨w.heap.size,2,none⟩ v2).setCell ⟨w.heap.size,3,none⟩ v3).setCell ⟨w.heap.size,4,none⟩ v4) w.heap.size 34 #[v0,v1,v2,v3,v4] ∧
  Aa w (((((W.setCell ⟨w.heap.size,0,none⟩ v0).setCell ⟨w.heap.size,1,none⟩ v1).setCell ⟨w.heap.size,2,none⟩ v2).setCell ⟨w.heap.size,3,none⟩ v3).setCell ⟨w.heap.size,4,none⟩ v4) :=
 ⟨CK h.o v0 v1 v2 v3 v4,AE h.s (Nat.le_refl _) v0 v1 v2 v3 v4⟩
theorem Gr.d0 (h:Gr w s e W):W.cell? ⟨w.heap.size,0,none⟩=some (.string ⟨#[]⟩):=h.o.c 0 rfl
theorem Gr.d1 (h:Gr w s e W):W.cell? ⟨w.heap.size,1,none⟩=some (.int .i64 0):=h.o.c 1 rfl
theorem Gr.d2 (h:Gr w s e W):W.cell? ⟨w.heap.size,2,none⟩=some (.int .i64 0):=h.o.c 2 rfl
theorem Gr.d3 (h:Gr w s e W):W.cell? ⟨w.heap.size,3,none⟩=some (.string ⟨#[]⟩):=h.o.c 3 rfl
theorem Gr.d4 (h:Gr w s e W):W.cell? ⟨w.heap.size,4,none⟩=some (.string ⟨#[]⟩):=h.o.c 4 rfl
end
theorem Sj (s s1 s2 s3 s4 s5:ByteArray) (e1 e2 e3 e4 e5:Int) (c:ByteArray) (a b:Nat) (r m:ByteArray) (d:Int) (w:World)
  (N1:Hid (∀ W,Ci W (w.heap.size+1) s 0→Calls qP 36 #[.pointer (some ⟨w.heap.size+1,0,none⟩)] W (CF W (w.heap.size+1) (.string c) s1 e1)))
  (N2:Hid (∀ W,Ci W (w.heap.size+1) s1 e1→Calls qP 37 #[.pointer (some ⟨w.heap.size+1,0,none⟩)] W (CF W (w.heap.size+1) (.int .i64 a) s2 e2)))
  (N3:Hid (∀ W,Ci W (w.heap.size+1) s2 e2→Calls qP 37 #[.pointer (some ⟨w.heap.size+1,0,none⟩)] W (CF W (w.heap.size+1) (.int .i64 b) s3 e3)))
  (N4:Hid (∀ W,Ci W (w.heap.size+1) s3 e3→Calls qP 36 #[.pointer (some ⟨w.heap.size+1,0,none⟩)] W (CF W (w.heap.size+1) (.string r) s4 e4)))
  (N5:Hid (∀ W,Ci W (w.heap.size+1) s4 e4→Calls qP 36 #[.pointer (some ⟨w.heap.size+1,0,none⟩)] W (CF W (w.heap.size+1) (.string m) s5 e5)))
  (N6:Hid (∀ W,Ci W (w.heap.size+1) s5 e5→Calls qP 38 #[.pointer (some ⟨w.heap.size+1,0,none⟩)] W fun en w'=>en=.returned (.int .i64 d)∧W=w')) :
  Calls qP 94 #[.string s] w fun e w'=>e=.returned (Bu (if d≠0 then (Hdr.zero,d) else (⟨c,a,b,r,m⟩,0)))∧Aa w w':=by
 have H0:=qH (YG w s)
 have z0:(w.alloc (.cells #[.string ⟨#[]⟩,.int .i64 0,.int .i64 0,.string ⟨#[]⟩,.string ⟨#[]⟩] 34)).heap.size=w.heap.size+1:=by simp
 go_enter Tryz.func94,Tryz.ntmps94
 go_wp2_with fail
 refine(new s _).mono ?_;rintro e w0 ⟨rfl,rfl⟩;rw [z0];clear z0;generalize ((w.alloc (.cells #[.string ⟨#[]⟩,.int .i64 0,.int .i64 0,.string ⟨#[]⟩,.string ⟨#[]⟩] 34)).alloc (.cells #[.string s,.int .i64 0] 149))=W0 at *
 go_wp2_with fail
 refine(N1.out _ H0.out.q).mono ?_;rintro e w1 q;have H1:=qH (H0.out.step q);obtain⟨rfl,-,-⟩:=q;clear H0 N1
 go_wp2_with fail
 refine(N2.out _ H1.out.q).mono ?_;rintro e w2 q;have H2:=qH (H1.out.step q);obtain⟨rfl,-,-⟩:=q;clear H1 N2
 go_wp2_with fail
 refine(N3.out _ H2.out.q).mono ?_;rintro e w3 q;have H3:=qH (H2.out.step q);obtain⟨rfl,-,-⟩:=q;clear H2 N3
 go_wp2_with fail
 refine(N4.out _ H3.out.q).mono ?_;rintro e w4 q;have H4:=qH (H3.out.step q);obtain⟨rfl,-,-⟩:=q;clear H3 N4
 go_wp2_with fail
 refine(N5.out _ H4.out.q).mono ?_;rintro e w5 q;have H5:=qH (H4.out.step q);obtain⟨rfl,-,-⟩:=q;clear H4 N5
 go_wp2_with fail
 have B6:=qH (Blk.new w5 34 #[.string c,.int .i64 a,.int .i64 b,.string r,.string m]);have H6:=qH (H5.out.alloc (.cells #[.string c,.int .i64 a,.int .i64 b,.string r,.string m] 34));clear H5;refine(N6.out _ H6.out.q).mono ?_;rintro e w6 ⟨rfl,rfl⟩;clear N6;have d0:=H6.out.d0;have d1:=H6.out.d1;have d2:=H6.out.d2;have d3:=H6.out.d3;have d4:=H6.out.d4;have f0:=H6.out.o.frozen 0;have f1:=H6.out.o.frozen 1;have f2:=H6.out.o.frozen 2;have f3:=H6.out.o.frozen 3;have f4:=H6.out.o.frozen 4;by_cases hf:d=0
 ·subst hf
  have y0:(w5.alloc (.cells #[.string c,.int .i64 a,.int .i64 b,.string r,.string m] 34)).cell? ⟨w5.heap.size,0,none⟩=some (.string c):=B6.out.c 0 rfl;have y1:(w5.alloc (.cells #[.string c,.int .i64 a,.int .i64 b,.string r,.string m] 34)).cell? ⟨w5.heap.size,1,none⟩=some (.int .i64 a):=B6.out.c 1 rfl;have y2:(w5.alloc (.cells #[.string c,.int .i64 a,.int .i64 b,.string r,.string m] 34)).cell? ⟨w5.heap.size,2,none⟩=some (.int .i64 b):=B6.out.c 2 rfl;have y3:(w5.alloc (.cells #[.string c,.int .i64 a,.int .i64 b,.string r,.string m] 34)).cell? ⟨w5.heap.size,3,none⟩=some (.string r):=B6.out.c 3 rfl;have y4:(w5.alloc (.cells #[.string c,.int .i64 a,.int .i64 b,.string r,.string m] 34)).cell? ⟨w5.heap.size,4,none⟩=some (.string m):=B6.out.c 4 rfl;have D:=qH (Uc H6.out (.string c) (.int .i64 a) (.int .i64 b) (.string r) (.string m));generalize w5.alloc (.cells #[.string c,.int .i64 a,.int .i64 b,.string r,.string m] 34)=W6 at *;go_wp2;have D1:=D.out.1;refine bodyPost_ret (v:=Bu (⟨c,a,b,r,m⟩,0)) (by simp [results,Tryz.results94,go_sem,Bu,hdV,D1.c 0 rfl,D1.c 1 rfl,D1.c 2 rfl,D1.c 3 rfl,D1.c 4 rfl]) rfl ?_;exact⟨rfl,D.out.2⟩
 ·have hen:(d != 0)=true:=by rw [bne_iff_ne];exact hf
  have D:=qH (Uc H6.out (.string ⟨#[]⟩) (.int .i64 0) (.int .i64 0) (.string ⟨#[]⟩) (.string ⟨#[]⟩));generalize w5.alloc (.cells #[.string c,.int .i64 a,.int .i64 b,.string r,.string m] 34)=W6 at *;go_wp2;have D1:=D.out.1;refine bodyPost_ret (v:=Bu (Hdr.zero,d)) (by simp [results,Tryz.results94,go_sem,Bu,hdV,Hdr.zero,D1.c 0 rfl,D1.c 1 rfl,D1.c 2 rfl,D1.c 3 rfl,D1.c 4 rfl]) rfl ?_;exact⟨rfl,D.out.2⟩
theorem fT (s:ByteArray) (w:World) (hs:s.size≤9223372036854775807) :
  Calls qP 94 #[.string s] w fun e w'=>e=.returned (Bu (CR s))∧Aa w w':=by
 have z1:=(AV s 0).1;have z2:=(Ay (Aj s 0).1.1 (Aj s 0).1.2).2.1;have z3:=(Ay (Ao (Aj s 0).1.1 (Aj s 0).1.2).1.1 (Ao (Aj s 0).1.1 (Aj s 0).1.2).1.2).2.1;have z4:=(AV (Ao (Ao (Aj s 0).1.1 (Aj s 0).1.2).1.1 (Ao (Aj s 0).1.1 (Aj s 0).1.2).1.2).1.1 (Ao (Ao (Aj s 0).1.1 (Aj s 0).1.2).1.1 (Ao (Aj s 0).1.1 (Aj s 0).1.2).1.2).1.2).1;have h:=Sj s _ _ _ _ _ _ _ _ _ _ _ _ _ _ _ _ w (qH fun W hW=>Gc _ s 0 W hW hs) (qH fun W hW=>Gn _ _ _ W hW (by omega)) (qH fun W hW=>Gn _ _ _ W hW (by omega)) (qH fun W hW=>Gc _ _ _ W hW (by omega)) (qH fun W hW=>Gc _ _ _ W hW (by omega)) (qH fun W hW=>Ju _ _ _ W hW);exact h
theorem Sm (key:ByteArray) (c:ByteArray) (a b:Int) (r m:ByteArray) (s:List UInt8) (f:Int) (q:List UInt8) (w:World)
  (K1:Hid (∀ W,Calls qP 174 #[.agg #[.string c,.int .i64 a,.int .i64 b,.string r,.string m]] W fun e w'=>e=.returned (.tuple #[.string (bs s),.int .i64 f])∧Aa W w'))
  (K2:Hid (∀ W,Aa w W→Calls qP 175 #[.string key,.string (bs s)] W fun e w'=>e=.returned (.string (bs q))∧Below W.heap.size W w')) :
  Calls qP 140 #[.string key,.agg #[.string c,.int .i64 a,.int .i64 b,.string r,.string m]] w fun e w'=>e=.returned (Bu (if f≠0 then (Hdr.zero,f) else (⟨c,a,b,r,bs q⟩,0)))∧Aa w w':=by
 have H0:=qH (Pd w c a b r m);have y0:=H0.out.c0;have y1:=H0.out.c1;have y2:=H0.out.c2;have y3:=H0.out.c3;have y4:=H0.out.c4;go_enter Tryz.func140,Tryz.ntmps140
 go_wp2_with fail
 clear y0 y1 y2 y3 y4;generalize ((w.alloc (.cells #[.string c,.int .i64 a,.int .i64 b,.string r,.string m] 34)).alloc (.cells #[.string ⟨#[]⟩,.int .i64 0,.int .i64 0,.string ⟨#[]⟩,.string ⟨#[]⟩] 34))=W0 at *;refine(K1.out _).mono ?_;rintro e w1 ⟨rfl,q1⟩;have H1:=qH (H0.out.next q1.below);clear H0 K1 q1;have d0:=H1.out.d0;have d1:=H1.out.d1;have d2:=H1.out.d2;have d3:=H1.out.d3;have d4:=H1.out.d4;have f0:=H1.out.o.frozen 0;have f1:=H1.out.o.frozen 1;have f2:=H1.out.o.frozen 2;have f3:=H1.out.o.frozen 3;have f4:=H1.out.o.frozen 4;by_cases hf:f=0
 ·subst hf
  have y4:=H1.out.c4;have z4:=H1.out.x.frozen 4
  go_wp2_with fail
  refine(K2.out _ H1.out.s).mono ?_;rintro e w2 ⟨rfl,q2⟩;have H2:=qH (H1.out.next q2);clear d0 d1 d2 d3 d4 f0 f1 f2 f3 f4 y4 z4 H1 K2 q2;have y0:=H2.out.c0;have y1:=H2.out.c1;have y2:=H2.out.c2;have y3:=H2.out.c3;have y4:=H2.out.c4;have z4:=H2.out.x.frozen 4;have d0:=H2.out.d0;have d1:=H2.out.d1;have d2:=H2.out.d2;have d3:=H2.out.d3;have d4:=H2.out.d4;have f0:=H2.out.o.frozen 0;have f1:=H2.out.o.frozen 1;have f2:=H2.out.o.frozen 2;have f3:=H2.out.o.frozen 3;have f4:=H2.out.o.frozen 4;have D:=qH (Km (H2.out.put (bs q)) (.string c) (.int .i64 a) (.int .i64 b) (.string r) (.string (bs q)));go_wp2;have D1:=D.out.1;refine bodyPost_ret (v:=Bu (⟨c,a,b,r,bs q⟩,0)) (by simp [results,Tryz.results140,go_sem,Bu,hdV,D1.c 0 rfl,D1.c 1 rfl,D1.c 2 rfl,D1.c 3 rfl,D1.c 4 rfl]) rfl ?_;exact⟨rfl,D.out.2⟩
 ·have hen:(f != 0)=true:=by rw [bne_iff_ne];exact hf
  have D:=qH (Km H1.out (.string ⟨#[]⟩) (.int .i64 0) (.int .i64 0) (.string ⟨#[]⟩) (.string ⟨#[]⟩));go_wp2;have D1:=D.out.1;refine bodyPost_ret (v:=Bu (Hdr.zero,f)) (by simp [results,Tryz.results140,go_sem,Bu,hdV,Hdr.zero,D1.c 0 rfl,D1.c 1 rfl,D1.c 2 rfl,D1.c 3 rfl,D1.c 4 rfl]) rfl ?_;exact⟨rfl,D.out.2⟩
theorem fV (key:ByteArray) (h:Hdr) (w:World) (hr:Ba w) (hk:key.size≤1099511627776) :
  Calls qP 140 #[.string key,hdV h] w fun e w'=>e=.returned (Bu (AO key h))∧Aa w w':=by
 have hl:=Iy h;have K1:=qH (fun W=>jK h W);obtain⟨⟨s,f⟩,eb⟩:∃ s,s=Br h:=⟨_,rfl⟩;unfold AO;rw [←eb] at K1 hl ⊢;have K2:=qH (fun W (hW:Aa w W)=>fU key (bs s) W (hr.since hW) hk (by rw [Aw];simp only at hl;omega));simp only [Bs] at K2;exact Sm key h.chain h.height h.time h.root h.mac s f _ w K1 K2
theorem So (key:ByteArray) (c:ByteArray) (a b:Int) (r m:ByteArray) (c':ByteArray) (a' b':Int) (r' m':ByteArray) (f:Int) (w:World)
  (K1:Hid (∀ W,Aa w W→Calls qP 140 #[.string key,.agg #[.string c,.int .i64 a,.int .i64 b,.string r,.string m]] W fun e w'=>e=.returned (.tuple #[.agg #[.string c',.int .i64 a',.int .i64 b',.string r',.string m'],.int .i64 f])∧Aa W w')) :
  Calls qP 95 #[.string key,.agg #[.string c,.int .i64 a,.int .i64 b,.string r,.string m]] w fun e w'=>e=.returned (.bool (decide (f=0∧(c'=c∧a'=a∧b'=b∧r'=r∧m'=m))))∧Aa w w':=by
 have HB:=qH (Blk.new w 34 #[.string c,.int .i64 a,.int .i64 b,.string r,.string m]);have HS:=qH (show Aa w (w.alloc (.cells #[.string c,.int .i64 a,.int .i64 b,.string r,.string m] 34)) from Ad ((Below.refl _ w).alloc (Nat.le_refl _) _));have y0:(w.alloc (.cells #[.string c,.int .i64 a,.int .i64 b,.string r,.string m] 34)).cell? ⟨w.heap.size,0,none⟩=some (.string c):=HB.out.c 0 rfl;have y1:(w.alloc (.cells #[.string c,.int .i64 a,.int .i64 b,.string r,.string m] 34)).cell? ⟨w.heap.size,1,none⟩=some (.int .i64 a):=HB.out.c 1 rfl;have y2:(w.alloc (.cells #[.string c,.int .i64 a,.int .i64 b,.string r,.string m] 34)).cell? ⟨w.heap.size,2,none⟩=some (.int .i64 b):=HB.out.c 2 rfl;have y3:(w.alloc (.cells #[.string c,.int .i64 a,.int .i64 b,.string r,.string m] 34)).cell? ⟨w.heap.size,3,none⟩=some (.string r):=HB.out.c 3 rfl;have y4:(w.alloc (.cells #[.string c,.int .i64 a,.int .i64 b,.string r,.string m] 34)).cell? ⟨w.heap.size,4,none⟩=some (.string m):=HB.out.c 4 rfl;have EQ:∀ W:World,(Op.equalIn 10000 34 (.agg #[.string c',.int .i64 a',.int .i64 b',.string r',.string m']) (.agg #[.string c,.int .i64 a,.int .i64 b,.string r,.string m])).run qP W=.ok (decide (c'=c∧a'=a∧b'=b∧r'=r∧m'=m)) W:=fun W=>Xd _ _ _ _ _ _ _ _ _ _ W;have GU:=Xe;go_enter Tryz.func95,Tryz.ntmps95
 go_wp2_with fail
 refine(K1.out _ HS.out).mono ?_;rintro e w1 ⟨rfl,q1⟩;have X1:=HB.out.next q1.below;have S1:Aa w w1:=Ad (Ae HS.out.below q1.below);have hlt:w.heap.size≤w1.heap.size:=Nat.le_of_lt X1.lt;clear HB HS K1 q1 y0 y1 y2 y3 y4;have X2:=X1.alloc (.cells #[.string c',.int .i64 a',.int .i64 b',.string r',.string m'] 34);have S2:=qH (show Aa w (w1.alloc (.cells #[.string c',.int .i64 a',.int .i64 b',.string r',.string m'] 34)) from Ad (S1.below.alloc hlt _));have y0:(w1.alloc (.cells #[.string c',.int .i64 a',.int .i64 b',.string r',.string m'] 34)).cell? ⟨w.heap.size,0,none⟩=some (.string c):=X2.c 0 rfl;have y1:(w1.alloc (.cells #[.string c',.int .i64 a',.int .i64 b',.string r',.string m'] 34)).cell? ⟨w.heap.size,1,none⟩=some (.int .i64 a):=X2.c 1 rfl;have y2:(w1.alloc (.cells #[.string c',.int .i64 a',.int .i64 b',.string r',.string m'] 34)).cell? ⟨w.heap.size,2,none⟩=some (.int .i64 b):=X2.c 2 rfl;have y3:(w1.alloc (.cells #[.string c',.int .i64 a',.int .i64 b',.string r',.string m'] 34)).cell? ⟨w.heap.size,3,none⟩=some (.string r):=X2.c 3 rfl;have y4:(w1.alloc (.cells #[.string c',.int .i64 a',.int .i64 b',.string r',.string m'] 34)).cell? ⟨w.heap.size,4,none⟩=some (.string m):=X2.c 4 rfl;clear X1 X2 S1 hlt;by_cases hf:f=0
 ·subst hf
  go_wp2
  go_ret
  exact⟨rfl,S2.out⟩
 ·have hfe:(f==0)=false:=by rw [beq_eq_false_iff_ne];exact hf
  go_wp2
  go_ret
  exact⟨by simp [hf],S2.out⟩
theorem fW (key:ByteArray) (h:Hdr) (w:World) (hr:Ba w) (hk:key.size≤1099511627776) :
  Calls qP 95 #[.string key,hdV h] w fun e w'=>e=.returned (.bool (EC key h))∧Aa w w':=by
 have K1:=qH (fun W (hW:Aa w W)=>fV key h W (hr.since hW) hk);unfold Bu at K1
 have e:EC key h=decide ((AO key h).2=0∧((AO key h).1.chain=h.chain∧(AO key h).1.height=h.height∧(AO key h).1.time=h.time∧(AO key h).1.root=h.root∧(AO key h).1.mac=h.mac)):=by
  unfold EC;generalize (AO key h).1=x;obtain⟨c,a,b,r,m⟩:=x;obtain⟨c',a',b',r',m'⟩:=h;simp
 rw [e];exact So key h.chain h.height h.time h.root h.mac _ _ _ _ _ _ w K1
end Go.Proofs.YtkejaepmoabikaaGreatDoor.W
