import Derived.Lib.MinMax
import Derived.Deep.RegionHeld3
import Derived.Test.YtkejaepmoabikaaGreatDoorP1c
import Derived.Test.YtkejaepmoabikaaGreatDoorP0d
import Derived.Test.YtkejaepmoabikaaGreatDoorP0b
namespace Go.Proofs.YtkejaepmoabikaaGreatDoor.W
open Go.RowKit
open List renaming getElem_toArray → qA, getElem_cons_succ → qB, getElem_cons_zero → qC, setIfInBounds_toArray → qD, set_cons_zero → qE, set_cons_succ → qF
open Lib renaming hid → qH
open _root_.Go.Proofs.Tryz renaming prog → qP
set_option maxHeartbeats 4000000
set_option maxRecDepth 100000
theorem Yi (A:Option Addr) (n cap:Nat) (key:ByteArray) (w:World)
  (H1:Hid (∀ W,Aa w W→Calls qP 104 #[.slice A n cap] W fun e w'=>e=.returned (.bool false)∧Aa W w')) :
  Calls qP 57 #[.slice A n cap,.string key] w fun e w'=>e=.returned (.agg #[.int .i64 0,.int .i64 0,.bool false,.slice none 0 0,.slice none 0 0])∧Aa w w':=by
 have k0:=Blk.new w 112 #[.int .i64 0,.int .i64 0,.bool false,.slice none 0 0,.slice none 0 0];have HB:=qH (show Aa w (w.alloc (.cells #[.int .i64 0,.int .i64 0,.bool false,.slice none 0 0,.slice none 0 0] 112)) from Ad ((Below.refl w.heap.size w).alloc (Nat.le_refl _) _));have HK:=qH k0;clear k0;go_enter Tryz.func57,Tryz.ntmps57
 go_wp2_with fail
 refine(H1.out _ HB.out).mono ?_;rintro e w1 ⟨rfl,s1⟩;have HS:=qH (show Aa w w1 from Ad (Ae HB.out.below s1.below));have HR:=qH (HK.out.next s1.below);clear H1 HB HK s1;have R:=HR.out;have d0:=R.c 0 rfl;have d1:=R.c 1 rfl;have d2:=R.c 2 rfl;have d3:=R.c 3 rfl;have d4:=R.c 4 rfl;have f0:=R.frozen 0;have f1:=R.frozen 1;have f2:=R.frozen 2;have f3:=R.frozen 3;have f4:=R.frozen 4;clear R;go_wp2;have K2:=CK HR.out (.int .i64 0) (.int .i64 0) (.bool false) (.slice none 0 0) (.slice none 0 0);refine bodyPost_ret (v:=.agg #[.int .i64 0,.int .i64 0,.bool false,.slice none 0 0,.slice none 0 0]) (by simp [results,Tryz.results57,go_sem,K2.c 0 rfl,K2.c 1 rfl,K2.c 2 rfl,K2.c 3 rfl,K2.c 4 rfl]) rfl ⟨rfl,AE HS.out (Nat.le_refl _) _ _ _ _ _⟩
theorem Yj (A:Option Addr) (n cap N:Nat) (key:ByteArray) (l:List KV) (X:List ByteArray) (w:World) (hln:l.length=n) (hN:N<n) (hn:n≤1000000) (hkey:(l[N]'(by omega)).1=key)
  (hc:∀ i (h:i<l.length),∃ b off,A=some ⟨b,off,none⟩∧w.cell? ⟨b,off+i*2,none⟩=some (.string l[i].1)∧w.cell? ⟨b,off+i*2+1,none⟩=some (.string l[i].2))
  (hless:∀ k (h:k<l.length),k<N→kc l[k].1 key=-1)
  (H1:Hid (∀ W,Aa w W→Calls qP 104 #[.slice A n cap] W fun e w'=>e=.returned (.bool true)∧Aa W w'))
  (H4:Hid (∀ W,Aa w W→Calls qP 105 #[.slice A n cap,.int .i64 N] W fun e w'=>∃ A m c,e=.returned (.slice A m c)∧Aq W.heap.size (.slice A m c) X W w')) :
  Calls qP 57 #[.slice A n cap,.string key] w fun e w'=>∃ pv,e=.returned (.agg #[.int .i64 n,.int .i64 N,.bool true,.slice none 0 0,pv])∧(∃ g pu,pv=.slice (some ⟨g,0,none⟩) 1 1∧Blk w' g 74 #[pu]∧Txs w' w'.heap.size pu X∧BU pu)∧Aa w w':=by
 have HC:=qH hc;have HLT:=qH hless;have HKEY:=qH hkey;clear hc hless hkey;have k0:=Blk.new w 112 #[.int .i64 0,.int .i64 0,.bool false,.slice none 0 0,.slice none 0 0];have HB:=qH (show Aa w (w.alloc (.cells #[.int .i64 0,.int .i64 0,.bool false,.slice none 0 0,.slice none 0 0] 112)) from Ad ((Below.refl w.heap.size w).alloc (Nat.le_refl _) _));have HK:=qH k0;clear k0;go_enter Tryz.func57,Tryz.ntmps57
 go_wp2_with fail
 refine(H1.out _ HB.out).mono ?_;rintro e w1 ⟨rfl,s1⟩;have HS:=qH (show Aa w w1 from Ad (Ae HB.out.below s1.below));have HR:=qH (HK.out.next s1.below);clear H1 HB HK s1;go_wp2
 go_loopw [5] (fun i wr=>∃ k:Nat,k≤N∧i=.int .i64 k∧wr=w1) (fun i _=>N-(intOf i).toNat)
 case atStart=>exact⟨0,Nat.zero_le _,rfl,rfl⟩
 case round =>
  obtain⟨k,hk,rfl,rfl⟩:=hrel
  rename World=>w1
  by_cases hlt:k<N
  ·obtain⟨b1,off1,rfl,d1,_⟩:=HC.out k (by omega)
   have c1:=HS.out.cell d1;have hless:=Ct (l[k]'(by omega)).1 key;rw [decide_eq_true (HLT.out k (by omega) hlt)] at hless;obtain⟨x,hx⟩:∃ x,x=(l[k]'(by omega)).1:=⟨_,rfl⟩;rw [←hx] at c1 hless
   have hi0:(0:Int)≤k:=by omega
   have hi1:(k:Int)<(n:Int):=by omega
   have hwk:IntKind.i64.wrap ((k:Int)+1)=(k:Int)+1:=IntWalk.i64_in _ (by omega);clear d1 hx;go_wp2
   go_roundw
   case rel=>exact⟨k+1,by omega,by go_num,by first|rfl|trivial⟩
   case measure=>simp [intOf];omega
  ·obtain rfl:k=N:=by omega
   clear hlt hk HLT;obtain⟨b1,off1,rfl,d1,_⟩:=HC.out k (by omega);have c1:=HS.out.cell d1;rw [HKEY.out] at c1;have hless:=Ct key key;rw [decide_eq_false (by rw [DU];decide)] at hless
   have hi0:(0:Int)≤k:=by omega
   have hi1:(k:Int)<(n:Int):=by omega
   have HBX:=qH (Blk.new w1 112 #[.int .i64 n,.int .i64 k,.bool false,.slice none 0 0,.slice none 0 0]);have HSX:=qH (show Aa w1 (w1.alloc (.cells #[.int .i64 n,.int .i64 k,.bool false,.slice none 0 0,.slice none 0 0] 112)) from Ad ((Below.refl _ w1).alloc (Nat.le_refl _) _));have c2:=HSX.out.cell c1;have kx:=HBX.out.c 2 rfl;have fx:=HBX.out.frozen 2;clear d1
   go_wp2_with fail
   have K4:=Blk.new w1 112 #[.int .i64 n,.int .i64 k,.bool true,.slice none 0 0,.slice none 0 0];have S4:Aa w1 (w1.alloc (.cells #[.int .i64 n,.int .i64 k,.bool true,.slice none 0 0,.slice none 0 0] 112)):=Ad ((Below.refl _ w1).alloc (Nat.le_refl _) _);have HS4:=qH (show Aa w (w1.alloc (.cells #[.int .i64 n,.int .i64 k,.bool true,.slice none 0 0,.slice none 0 0] 112)) from Ad (Ae HS.out.below S4.below));have HR4:=qH (HR.out.next S4.below);have HK4:=qH K4;have hlow:w.heap.size<w1.heap.size:=HR.out.lt;have hsz4:=K4.lt;clear S4 K4 HBX HSX c1 c2 kx fx HS HR;generalize w1.alloc (.cells #[.int .i64 n,.int .i64 k,.bool true,.slice none 0 0,.slice none 0 0] 112)=W4 at *;refine(H4.out _ HS4.out).mono ?_;rintro e w5 ⟨A5,m5,cap5,rfl,o5⟩;have hroom:BU (.slice A5 m5 cap5):=GY o5.1;have hlt5:=o5.1.lt
   have hpu:∀ g,(Value.slice A5 m5 cap5).ownBlock=some g→w1.heap.size<g∧g<w5.heap.size:=fun g hg=>by have:=hlt5 g hg;omega
   have HPU:=qH hpu;have HT5:=qH o5.txs;have HS5:=qH (show Aa w w5 from Ad (Ae HS4.out.below o5.below));have R5:=HR4.out.below o5.below HR4.out.lt;have K5:=HK4.out.below o5.below HK4.out.lt;have lt5:=K5.lt;clear hpu hlt5 o5 H4 HS4 HR4 HK4 hsz4;have f6:(w5.alloc (.cells #[.slice A5 m5 cap5] 74)).frozen? ⟨w1.heap.size,4,none⟩=false:=(K5.alloc _).frozen 4;have c6:(w5.alloc (.cells #[.slice A5 m5 cap5] 74)).cell? ⟨w1.heap.size,4,none⟩=some (.slice none 0 0):=(K5.alloc _).c 4 rfl
   have hsz:(w5.setCell ⟨w1.heap.size,4,none⟩ (.slice (some ⟨w5.heap.size,0,none⟩) 1 1)).heap.size=w5.heap.size:=by simp [World.setCell]
   have K7:Blk ((w5.setCell ⟨w1.heap.size,4,none⟩ (.slice (some ⟨w5.heap.size,0,none⟩) 1 1)).alloc (.cells #[.slice A5 m5 cap5] 74)) w1.heap.size 112 #[.int .i64 n,.int .i64 k,.bool true,.slice none 0 0,.slice (some ⟨w5.heap.size,0,none⟩) 1 1]:=(K5.set_ 4 _).alloc _;have R7:Blk ((w5.setCell ⟨w1.heap.size,4,none⟩ (.slice (some ⟨w5.heap.size,0,none⟩) 1 1)).alloc (.cells #[.slice A5 m5 cap5] 74)) (w.heap.size) 112 #[.int .i64 0,.int .i64 0,.bool false,.slice none 0 0,.slice none 0 0]:=(R5.far (p:=⟨w1.heap.size,4,none⟩) (by simp only;omega) _).alloc _
   have G7:Blk ((w5.setCell ⟨w1.heap.size,4,none⟩ (.slice (some ⟨w5.heap.size,0,none⟩) 1 1)).alloc (.cells #[.slice A5 m5 cap5] 74)) w5.heap.size 74 #[.slice A5 m5 cap5]:=by
    have:=Blk.new (w5.setCell ⟨w1.heap.size,4,none⟩ (.slice (some ⟨w5.heap.size,0,none⟩) 1 1)) 74 #[.slice A5 m5 cap5]
    rwa [hsz] at this
   have HT7:=qH (show Txs ((w5.setCell ⟨w1.heap.size,4,none⟩ (.slice (some ⟨w5.heap.size,0,none⟩) 1 1)).alloc (.cells #[.slice A5 m5 cap5] 74)) w5.heap.size (.slice A5 m5 cap5) X from HT5.out.moved fun g hg=>(Below.heap_alloc _ _ g (by rw [hsz];exact(HPU.out g hg).2)).trans (Below.heap_setCell w5 ⟨w1.heap.size,4,none⟩ _ g (by have:=HPU.out g hg;simp only;omega)));have HS7:=qH (show Aa w ((w5.setCell ⟨w1.heap.size,4,none⟩ (.slice (some ⟨w5.heap.size,0,none⟩) 1 1)).alloc (.cells #[.slice A5 m5 cap5] 74)) from Ad ((Ak HS5.out (p:=⟨w1.heap.size,4,none⟩) (by simp only;omega) _).below.alloc (by rw [hsz];exact HS5.out.2.2.2.1) _));have hs7:w5.heap.size<(((w5.setCell ⟨w1.heap.size,4,none⟩ (.slice (some ⟨w5.heap.size,0,none⟩) 1 1)).alloc (.cells #[.slice A5 m5 cap5] 74))).heap.size:=G7.lt;have HH:=qH (And.intro R7 G7);have p0:=K7.c 0 rfl;have p1:=K7.c 1 rfl;have p2:=K7.c 2 rfl;have p3:=K7.c 3 rfl;have p4:=K7.c 4 rfl;have d0:=R7.c 0 rfl;have d1:=R7.c 1 rfl;have d2:=R7.c 2 rfl;have d3:=R7.c 3 rfl;have d4:=R7.c 4 rfl;have f0:=R7.frozen 0;have f1:=R7.frozen 1;have f2:=R7.frozen 2;have f3:=R7.frozen 3;have f4:=R7.frozen 4;clear K5 R5 K7 R7 G7 HT5 HS5 hsz;go_wp2;have K2:=CK HH.out.1 (.int .i64 n) (.int .i64 k) (.bool true) (.slice none 0 0) (.slice (some ⟨w5.heap.size,0,none⟩) 1 1);refine bodyPost_ret (v:=.agg #[.int .i64 n,.int .i64 k,.bool true,.slice none 0 0,.slice (some ⟨w5.heap.size,0,none⟩) 1 1]) (by simp [results,Tryz.results57,go_sem,K2.c 0 rfl,K2.c 1 rfl,K2.c 2 rfl,K2.c 3 rfl,K2.c 4 rfl]) rfl ?_;refine⟨_,rfl,⟨w5.heap.size,.slice A5 m5 cap5,rfl,?_,?_,hroom⟩,AE HS7.out (by omega) _ _ _ _ _⟩
   ·exact IN HH.out.2 (by omega) _ _ _ _ _
   ·exact(HT7.out.moved fun g hg=>Ev _ (by have:=HPU.out g hg;omega) _ _ _ _ _).more (by simp [World.setCell])
def lA (w:World) (b B n N lo:Nat) (l:List KV) (m:Nat) (i:Value) (wr:World):Prop:=∃(k:Nat) (nv pv:Value) (us:List Value),k≤m∧i=.int .i64 ((lo+k:Nat):Int)∧RAt w b B n N lo l k k nv pv us wr
theorem Sc {k n lo m:Nat} (hk:k≤n) (h:lo=k-1∧lo+m=CA k n):m≤2∧lo+m≤n∧(∀ j,j<m→lo+j≤k∧lo+j<n)∧(¬(lo+m≤k∧lo+m<n)):=by
 obtain⟨h1,h2⟩:=h;unfold CA at h2
 split at h2
 ·exact⟨by omega,by omega,fun j hj=>by omega,by omega⟩
 ·exact⟨by omega,by omega,fun j hj=>by omega,by omega⟩
theorem Vt {w W10 w5 w9:World} {b B n N lo k gg cap2:Nat} {l:List KV} {nv:Value} {Ap A5:Option Addr} {cp m5 cap5:Nat} {us:List Value} (h:RAt w b B n N lo l (k+1) k nv (.slice Ap k cp) us W10) (o5:Aq W10.drew.heap.size (.slice A5 m5 cap5) (bss (pth l (lo+k))) W10.drew w5) (hR:BU (.slice A5 m5 cap5))
  (hown9:w9.ownsRow B 74 1 (.slice (some ⟨gg,0,none⟩) (k+1) cap2) (k+1) (us++[.slice A5 m5 cap5])) (hgrow9:(w5.alloc (.cells #[.slice A5 m5 cap5] 74)).grownBy w9 (Value.slice Ap k cp).ownBlock) (hat9:(Value.slice Ap k cp).ownBlock=some gg∨gg=w5.heap.size+1) :
  RAt w b B n N lo l (k+1) (k+1) nv (.slice (some ⟨gg,0,none⟩) (k+1) cap2) (us++[.slice A5 m5 cap5]) (w9.setCell ⟨b,4,none⟩ (.slice (some ⟨gg,0,none⟩) (k+1) cap2)):=by
 have ba:Below w5.heap.size w5 (w5.alloc (.cells #[.slice A5 m5 cap5] 74)):=(Below.refl _ w5).alloc (Nat.le_refl _) _;have h5:RAt w b B n N lo l (k+1) k nv (.slice Ap k cp) us w5:=h.next (Ae (BI W10 1) o5.below);have hlt:=o5.1.lt
 have s6:(w5.alloc (.cells #[.slice A5 m5 cap5] 74)).heap.size=w5.heap.size+1:=by simp
 refine(h5.next ba).addPath ((o5.txs.below ba).more ba.size) hR (fun g hg=>?_) hown9 hgrow9 (by rw [s6];exact hat9);have h6:=hlt g hg;have h7:W10.heap.size≤g:=h6.1;have h8:=h.size;refine⟨by omega,by omega,fun e=>?_,fun e=>?_⟩
 ·have:=(h.row.lt g e.symm).2;omega
 ·have:=(h.near.lt g e.symm).2;omega
theorem Vu (A:Option Addr) (n cap N lo m:Nat) (key:ByteArray) (l:List KV) (w:World) (hln:l.length=n) (hN:N≤n) (hn:n≤1000000) (hlo:lo=N-1) (hm:lo+m=CA N n)
  (hat:∀(h:N<l.length),kc l[N].1 key≠-1∧l[N].1≠key)
  (hc:∀ i (h:i<l.length),∃ b off,A=some ⟨b,off,none⟩∧w.cell? ⟨b,off+i*2,none⟩=some (.string l[i].1)∧w.cell? ⟨b,off+i*2+1,none⟩=some (.string l[i].2))
  (hless:∀ k (h:k<l.length),k<N→kc l[k].1 key=-1)
  (H1:Hid (∀ W,Aa w W→Calls qP 104 #[.slice A n cap] W fun e w'=>e=.returned (.bool true)∧Aa W w'))
  (H4:Hid (∀(k:Nat),k<m→∀ W,Aa w W→Calls qP 105 #[.slice A n cap,.int .i64 (lo+k:Nat)] W fun e w'=>∃ A m c,m≤c∧e=.returned (.slice A m c)∧Aq W.heap.size (.slice A m c) (bss (pth l (lo+k))) W w')) :
  Calls qP 57 #[.slice A n cap,.string key] w fun e w'=>∃ v,e=.returned v∧Prf w' v ⟨n,N,false,Dd l lo m,CP l lo m⟩∧Aa w w':=by
 have HC:=qH hc;have HLT:=qH hless;have HAT:=qH hat;have HM:=qH (And.intro hlo hm);clear hc hless hat hlo hm;have k0:=Blk.new w 112 #[.int .i64 0,.int .i64 0,.bool false,.slice none 0 0,.slice none 0 0];have HB:=qH (show Aa w (w.alloc (.cells #[.int .i64 0,.int .i64 0,.bool false,.slice none 0 0,.slice none 0 0] 112)) from Ad ((Below.refl w.heap.size w).alloc (Nat.le_refl _) _));have HK:=qH k0;clear k0;go_enter Tryz.func57,Tryz.ntmps57
 go_wp2_with fail
 refine(H1.out _ HB.out).mono ?_;rintro e w1 ⟨rfl,s1⟩;have HS:=qH (show Aa w w1 from Ad (Ae HB.out.below s1.below));have HR:=qH (HK.out.next s1.below);clear H1 HB HK s1;go_wp2
 go_loopw [5] (fun i wr=>∃ k:Nat,k≤N∧i=.int .i64 k∧wr=w1) (fun i _=>N-(intOf i).toNat)
 case atStart=>exact⟨0,Nat.zero_le _,rfl,rfl⟩
 case round =>
  obtain⟨k,hk,rfl,rfl⟩:=hrel
  rename World=>w1
  by_cases hlt:k<N
  ·obtain⟨b1,off1,rfl,d1,_⟩:=HC.out k (by omega)
   have c1:=HS.out.cell d1;have hless:=Ct (l[k]'(by omega)).1 key;rw [decide_eq_true (HLT.out k (by omega) hlt)] at hless;obtain⟨x,hx⟩:∃ x,x=(l[k]'(by omega)).1:=⟨_,rfl⟩;rw [←hx] at c1 hless
   have hi0:(0:Int)≤k:=by omega
   have hi1:(k:Int)<(n:Int):=by omega
   have hwk:IntKind.i64.wrap ((k:Int)+1)=(k:Int)+1:=IntWalk.i64_in _ (by omega);clear d1 hx;go_wp2
   go_roundw
   case rel=>exact⟨k+1,by omega,by go_num,by first|rfl|trivial⟩
   case measure=>simp [intOf];omega
  ·obtain rfl:k=N:=by omega
   clear hlt hk HLT;have k4:=Blk.new w1 112 #[.int .i64 n,.int .i64 k,.bool false,.slice none 0 0,.slice none 0 0];have sx:Aa w1 (w1.alloc (.cells #[.int .i64 n,.int .i64 k,.bool false,.slice none 0 0,.slice none 0 0] 112)):=Ad ((Below.refl _ w1).alloc (Nat.le_refl _) _);have HRA:=qH (Vd (n:=n) (N:=k) (lo:=lo) (l:=l) (Ad (Ae HS.out.below sx.below)) k4 (HR.out.next sx.below) HR.out.lt);have hwm:IntKind.i64.wrap ((k:Int)-1)=(k:Int)-1:=IntWalk.i64_in _ (by omega)
   have hi0:(0:Int)≤k:=by omega
   have hmax:∀ W,(Builtin.max_ #[3,3] 3 #[.int .i64 0,.int .i64 ((k:Int)-1)]).run qP W=.ok (.int .i64 (lo:Nat)) W:=fun W=>by
    rw [Lib.run_max_ints,show max (0:Int) ((k:Int)-1)=(lo:Nat) by have:=HM.out.1;omega]
   clear k4 HR;by_cases hkn:k<n
   all_goals
    first
    | (have hk1:k<n:=hkn
       clear hk1
       have hkl:k<l.length:=by clear hwm hmax;omega
       obtain⟨b1,off1,hA,d1,d2⟩:=HC.out k hkl;have c1:=HS.out.cell d1;have c2:=sx.cell c1;have hq:=HAT.out hkl;have hless:=Ct (l[k]'hkl).1 key;rw [decide_eq_false hq.1] at hless;have hne:=Eh hq.2;obtain⟨x,hx⟩:∃ x,x=(l[k]'hkl).1:=⟨_,rfl⟩;rw [←hx] at c1 c2 hless hne
       have hi1:(k:Int)<(n:Int):=by omega
       subst hA;clear d1 d2 hx hq sx;go_wp2;have HKN:=qH hkn
       clear c1 c2 hless hne hmax hwm hkn)
    | (have hkn2:k=n:=by omega
       have hi1:¬(k:Int)<(n:Int):=by omega
       have HKN:=qH hkn2;clear sx hkn2 hkn;go_wp2
       clear hmax hwm hi1)
    generalize w1.alloc (.cells #[.int .i64 n,.int .i64 k,.bool false,.slice none 0 0,.slice none 0 0] 112)=V at *;generalize w1.heap.size=b at *;generalize V.heap.size=B at *;obtain⟨i9,hinf,hz0,hz1,hz2⟩:=info_parts Rr;obtain⟨j9,hjnf,hj0,hj1,hj2⟩:=info_parts Fq;have HCS:=qH (Sc hN HM.out)
    go_loopw [7] (fun i wr=>lA w b B n k lo l m i wr) (fun i _=>lo+m-(intOf i).toNat)
    case atStart=>exact⟨0,_,_,[],Nat.zero_le _,rfl,HRA.out⟩
    case round =>
    clear HRA;obtain⟨k2,nv,pv,us,hk2,rfl,hI⟩:=hrel;have HI:=qH hI;clear hI;obtain⟨An,cn,rfl,hcn⟩:=Db HI.out.near;obtain⟨Ap,cp,rfl,hcp⟩:=Db HI.out.row;have hcs:=HCS.out.1;by_cases hlt:k2<m
    ·have j0:((lo+k2:Nat):Int)≤(k:Int):=by have:=(HCS.out.2.2.1 k2 hlt).1;omega
     have j1:((lo+k2:Nat):Int)<(n:Int):=by have:=(HCS.out.2.2.1 k2 hlt).2;omega
     have j2:(0:Int)≤((lo+k2:Nat):Int):=by omega
     have hll:lo+k2<l.length:=by omega
     obtain⟨g1,o1,hA1,e1,e2⟩:=HC.out (lo+k2) hll;have z1:=HI.out.s.cell e1;have z2:=HI.out.s.cell e2;have x3:=HI.out.x3;have RB:=qH ((HI.out.next (BI wr 1)).next ((Below.refl _ wr.drew).alloc (Nat.le_refl _) (.cells #[.string (l[lo+k2]'hll).1,.string (l[lo+k2]'hll).2] 36)));have HSZ:=qH (show(wr.drew.alloc (.cells #[.string (l[lo+k2]'hll).1,.string (l[lo+k2]'hll).2] 36)).heap.size=wr.heap.size+1 from by simp);have HAN:=qH (fun(W9:World) (gg cap:Nat)=>RB.out.addNear (W9:=W9) (gg:=gg) (cap:=cap) hll);have x3a:(wr.alloc (.cells #[.string (l[lo+k2]'hll).1,.string (l[lo+k2]'hll).2] 36)).cell? ⟨b,3,none⟩=some (.slice An k2 cn):=RB.out.x3;have H4k:=qH (H4.out k2 hlt)
     have hwk1:IntKind.i64.wrap (((lo+k2:Nat):Int)+1)=((lo+(k2+1):Nat):Int):=by rw [IntWalk.i64_in _ (by omega)];omega
     generalize (l[lo+k2]'hll).1=x1 at *;generalize (l[lo+k2]'hll).2=x2 at *
     first|subst hA1|cases hA1
     clear e1 e2 H4;generalize hlk:((lo+k2:Nat):Int)=lk at *
     have hlt2:lo+k2=lk.toNat:=by omega
     rw [hlt2] at z1 z2;have HLK:=qH hlk;clear hlt2 hlk;go_wp2;refine wp_region_held_drew (S:=(fun _=>True)) (by kernel_rfl) trivial (fun hHeld=>?_);simp only [List.size_toArray,List.length_cons,List.length_nil,Nat.reduceAdd,Array.replicate_succ,Array.replicate_zero,List.push_toArray,List.nil_append,List.cons_append];refine qT 0 ?_;simp only [qA,qC,Act.put,qD,qE,qF];refine qT 2 ?_;simp only [qA,qB,qC,Act.put,qD,qE,qF];refine qT 3 ?_;simp only [qA,qB,qC,Act.put,qD,qE,qF];refine qT 4 ?_;simp only [qA,qB,qC,Act.put,qD,qE,qF]
     repeat
      all_goals
       first
       | refine qR 5 fun K hK=>?_
       | refine qR 6 fun K hK=>?_
       | refine qR 1 fun K hK=>?_
       | refine qR2 1 5 (fun K hK=>?_) fun K hK=>?_
       | refine qR2 1 6 (fun K hK=>?_) fun K hK=>?_
       all_goals
        go_simp;refine hK.out _ _ trivial (fun hHeld=>?_);clear hK K;simp only [qD,qE,qF]
     all_goals
      refine qR 7 fun K hK=>?_;refine step_append_lies _ (by rfl) _ _ _ (by rfl) B 36 j9 _ 2 32 Tryz.underlying22 hjnf hj0 hj1 hj2 rfl (by omega) (.slice An k2 cn) k2 (AH (Dd l lo k2)) (by rfl) RB.out.near ⟨wr.heap.size,0,none⟩ 1 1 [.string x1,.string x2] (by rfl) (by rfl) (World.news_of_block (cs:=#[.string x1,.string x2]) (t:=36) (fr:=(0,0)) (heap_alloc_new wr.drew _)) (by simp [Value.oneCell']) (by omega) (by unfold maxLen;omega) (by omega) RB.out.size (wr.heap.size+1) (by simp) ?_;intro gg cap2 w9 hown9 hgrow9 hat9 hlt9;have R9:=qH (HAN.out _ _ _ hown9 hgrow9 (hat9.imp_right fun e=>by rw [HSZ.out,e];exact Nat.le_refl _));have z9:=(RB.out.mid3 hgrow9).1;have y9:=(RB.out.mid3 hgrow9).2;clear hown9 hgrow9 hat9 hlt9;refine hK.out _ _ trivial (fun hHeld=>?_);clear hK K;simp only [qD,qE,qF];refine qT 8 ?_;simp only [qA,qB,qC,Act.put,qD,qE,qF];refine qR 9 fun K hK=>?_;go_simp;refine hK.out _ _ trivial (fun hHeld=>?_);clear hK K;simp only [qD,qE,qF];refine wpAnyH_done (by kernel_rfl) ?_ _;have RN:=qH R9.out;clear R9 HAN RB;generalize w9.setCell ⟨b,3,none⟩ (.slice (some ⟨gg,0,none⟩) (k2+1) cap2)=W10 at *;have x4':=RN.out.x4;have x4f:=RN.out.xf 4;go_wp2;refine wp_region_held_drew (S:=(fun _=>True)) (by kernel_rfl) trivial (fun hHeld=>?_);simp only [List.size_toArray,List.length_cons,List.length_nil,Nat.reduceAdd,Array.replicate_succ,Array.replicate_zero,List.push_toArray,List.nil_append,List.cons_append];refine qT 0 ?_;simp only [qA,qC,Act.put,qD,qE,qF];refine qT 2 ?_;simp only [qA,qB,qC,Act.put,qD,qE,qF];refine qT 3 ?_;simp only [qA,qB,qC,Act.put,qD,qE,qF]
     repeat
      all_goals
       first
       | refine qR 4 fun K hK=>?_
       | refine qR 5 fun K hK=>?_
       | refine qR 1 fun K hK=>?_
       | refine qR2 1 4 (fun K hK=>?_) fun K hK=>?_
       | refine qR2 1 5 (fun K hK=>?_) fun K hK=>?_
       all_goals
        go_simp
        first
        | (go_at_call 105
           refine(H4k.out W10.drew (Ad (Below.drewN RN.out.s.below 1))).mono ?_;rintro e w5 ⟨A5,m5,cap5,hroom,rfl,o5⟩;have O5:=qH o5;have RD:=qH (RN.out.next (Ae (BI W10 1) o5.below));have RA:=qH (RD.out.next ((Below.refl _ w5).alloc (Nat.le_refl _) (.cells #[.slice A5 m5 cap5] 74)));have q5:=RD.out.x4;have q6:=RA.out.x4;have HROOM:=qH (show BU (.slice A5 m5 cap5) from⟨_,_,_,rfl,hroom⟩);clear o5 hroom;refine hK.out _ _ trivial (fun hHeld=>?_);clear hK K
           simp only [qD,qE,qF])
        | (refine hK.out _ _ trivial (fun hHeld=>?_)
           clear hK K
           simp only [qD,qE,qF])
     all_goals
      refine qR 6 fun K hK=>?_;refine step_append_lies _ (by rfl) _ _ _ (by rfl) B 74 i9 _ 1 24 Tryz.underlying110 hinf hz0 hz1 hz2 rfl (by omega) (.slice Ap k2 cp) k2 us (by rfl) RA.out.row ⟨w5.heap.size,0,none⟩ 1 1 [.slice A5 m5 cap5] (by rfl) (by rfl) (World.news_of_block (cs:=#[.slice A5 m5 cap5]) (t:=74) (fr:=(0,0)) (heap_alloc_new w5 _)) (by simp [Value.oneCell']) (by omega) (by unfold maxLen;omega) (by omega) RA.out.size (w5.heap.size+1) (by simp) ?_;intro gg cap2 w9 hown9 hgrow9 hat9 hlt9;have R9:=qH (Vt RN.out O5.out HROOM.out hown9 hgrow9 hat9);have z9:=(RA.out.mid4 hgrow9).1;have y9:=(RA.out.mid4 hgrow9).2;clear hown9 hgrow9 hat9 hlt9;refine hK.out _ _ trivial (fun hHeld=>?_);clear hK K;simp only [qD,qE,qF];refine qT 7 ?_;simp only [qA,qB,qC,Act.put,qD,qE,qF];refine qR 8 fun K hK=>?_;go_simp;refine hK.out _ _ trivial (fun hHeld=>?_);clear hK K;simp only [qD,qE,qF];refine wpAnyH_done (by kernel_rfl) ?_ _;have RN2:=qH R9.out;clear R9 q5 q6 z9 y9 RD RA O5 HROOM RN;go_wp2
      go_roundw
      case rel=>exact⟨k2+1,_,_,_,by omega,by first|rfl|exact congrArg (Value.int IntKind.i64) (by have:=HLK.out;omega),RN2.out⟩
      case measure=>have:=HLK.out;simp [intOf];omega
    ·obtain rfl:k2=m:=by omega
     have HNM:=qH HCS.out.2.2.2;have hle:=HCS.out.2.1;have x0:=HI.out.bx.c 0 rfl;have x1:=HI.out.bx.c 1 rfl;have x2:=HI.out.bx.c 2 rfl;have x3:=HI.out.bx.c 3 rfl;have x4:=HI.out.bx.c 4 rfl;have R7:=HI.out.res;have HR:=qH R7;have HLE:=qH (show lo+k2≤l.length by omega);have d0:=R7.c 0 rfl;have d1:=R7.c 1 rfl;have d2:=R7.c 2 rfl;have d3:=R7.c 3 rfl;have d4:=R7.c 4 rfl;have f0:=R7.frozen 0;have f1:=R7.frozen 1;have f2:=R7.frozen 2;have f3:=R7.frozen 3;have f4:=R7.frozen 4;clear R7 H4 HC hle
     first
     | (have hk1:k<n:=HKN.out
        clear hk1
        have j0:¬((lo+k2:Nat):Int)≤(k:Int):=by have h:=HM.out.2;unfold CA at h;rw [if_pos HKN.out] at h;omega)
     | (have j0:((lo+k2:Nat):Int)≤(k:Int):=by have h:=HM.out.2;have:=HKN.out;unfold CA at h;rw [if_neg (by omega)] at h;omega
        have j1:¬((lo+k2:Nat):Int)<(n:Int):=by have h:=HM.out.2;have:=HKN.out;unfold CA at h;rw [if_neg (by omega)] at h;omega)
     generalize ((lo+k2:Nat):Int)=lk at *;go_wp2;have K2:=CK HR.out (.int .i64 n) (.int .i64 k) (.bool false) (.slice An k2 cn) (.slice Ap k2 cp);refine bodyPost_ret (v:=.agg #[.int .i64 n,.int .i64 k,.bool false,.slice An k2 cn,.slice Ap k2 cp]) (by simp [results,Tryz.results57,go_sem,K2.c 0 rfl,K2.c 1 rfl,K2.c 2 rfl,K2.c 3 rfl,K2.c 4 rfl]) rfl ?_;exact HI.out.done HLE.out
end Go.Proofs.YtkejaepmoabikaaGreatDoor.W
