import Derived.Test.YtkejaepmoabikaaGreatDoorShelf
import Derived.OwnWalk
import Derived.Deep.RegionHeld3
import Derived.StillTactics
import Derived.Deep.LoopGhost
import Derived.OrdersIn
import Derived.WalkKit
import Derived.TacticsInMore
import Derived.RangeFuncNested
import Derived.RangeFuncBound
import Derived.RangeFuncCalls
import Derived.RangeFuncLeaves
import Derived.Shelf.Abstract
import Derived.Shelf.RegionOpen
import Derived.OwnWalkIn
import Derived.LoopNIn
import Derived.LoopIn
import Derived.Test.YtkejaepmoabikaaGreatDoorP0d
import Derived.Test.YtkejaepmoabikaaGreatDoorP0b
import Derived.Test.YtkejaepmoabikaaGreatDoorP0a
namespace Go.Proofs.YtkejaepmoabikaaGreatDoor.W
open Go.RowKit
open Lib renaming hid → qH
open _root_.Go.Proofs.Tryz renaming prog → qP
set_option maxHeartbeats 4000000
set_option maxRecDepth 100000
theorem Ly (key:ByteArray) (pos i:Int) (p:KV):(i<pos∧kc p.1 key=-1∧EK key pos i p=true)∨(i<pos∧kc p.1 key≠-1∧EK key pos i p=false) ∨
  (¬i<pos∧kc p.1 key=1∧EK key pos i p=true)∨(¬i<pos∧kc p.1 key≠1∧EK key pos i p=false):=by
 unfold EK;by_cases h:i<pos
 ·rw [if_pos h]
  by_cases hk:kc p.1 key=-1
  ·exact .inl ⟨h,hk,decide_eq_true hk⟩
  ·exact .inr (.inl ⟨h,hk,decide_eq_false hk⟩)
 ·rw [if_neg h]
  by_cases hk:kc p.1 key=1
  ·exact .inr (.inr (.inl ⟨h,hk,decide_eq_true (JP hk)⟩))
  ·exact .inr (.inr (.inr ⟨h,hk,decide_eq_false fun e=>hk (SX e)⟩))
theorem XN (a b:ByteArray):(a.toList==b.toList)=decide (kc a b=0):=by
 by_cases h:kc a b=0
 ·rw [decide_eq_true h,DV h]
  exact beq_self_eq_true _
 ·rw [decide_eq_false h]
  exact Eh fun e=>h (by rw [e,DU])
theorem JZ {root:List UInt8} {key:ByteArray} {pos n i:Int} {ps:List KV} {qs:List (List (List UInt8))} {k:Nat} (h1:k<ps.length) (h2:k<qs.length) :
  BL root key pos n (i+k) (ps.drop k) (qs.drop k)=(EK key pos (i+k) ps[k]&&El root ps[k] qs[k] (i+k) n&&BL root key pos n (i+(k+1:Nat)) (ps.drop (k+1)) (qs.drop (k+1))):=by
 rw [List.drop_eq_getElem_cons h1,List.drop_eq_getElem_cons h2]
 show(EK _ _ _ _&&El _ _ _ _ _&&BL _ _ _ _ _ _ _)=_
 rw [show i+((k+1:Nat):Int)=i+(k:Int)+1 by omega]
theorem XO (root key:ByteArray) (n pos:Int) (t:Bool) (nv pv:Value) (w:World) (h:t=true∨pos<0∨n<pos) :
  Calls qP 58 #[.string root,.string key,.agg #[.int .i64 n,.int .i64 pos,.bool t,nv,pv]] w fun e w'=>e=.returned (.bool false)∧Aa w w':=by
 have HR:=qH (show Aa w (w.alloc (.cells #[.int .i64 n,.int .i64 pos,.bool t,nv,pv] 112)) from Ad (by go_grown))
 cases t with
 | true =>
   clear h;go_enter Tryz.func58,Tryz.ntmps58;go_wp2
   go_ret
   exact⟨rfl,HR.out⟩
 | false =>
   by_cases h1:pos<0
   ·clear h
    go_enter Tryz.func58,Tryz.ntmps58;go_wp2
    go_ret
    exact⟨rfl,HR.out⟩
   ·have h2:n<pos:=by rcases h with h|h|h<;>first|cases h|omega
    clear h;go_enter Tryz.func58,Tryz.ntmps58;go_wp2
    go_ret
    exact⟨rfl,HR.out⟩
theorem XP (root key:ByteArray) (n pos lo hi:Int) (A1 A2:Option Addr) (m1 c1 m2 c2:Nat) (w:World) (h0:0≤pos) (h1:pos≤n) (hn:n≤9223372036854775807) (e1:sLo pos=lo) (e2:sHi pos n=hi) (hd:0≤hi-lo∧hi-lo≤2) (h:(m1:Int)≠hi-lo∨(m2:Int)≠hi-lo) :
  Calls qP 58 #[.string root,.string key,.agg #[.int .i64 n,.int .i64 pos,.bool false,.slice A1 m1 c1,.slice A2 m2 c2]] w fun e w'=>e=.returned (.bool false)∧Aa w w':=by
 have HR:=qH (show Aa w (w.alloc (.cells #[.int .i64 n,.int .i64 pos,.bool false,.slice A1 m1 c1,.slice A2 m2 c2] 112)) from Ad (by go_grown));have K0:=fun W=>XL pos n W (by omega) (by omega) hn;rw [e1,e2] at K0;have K:=qH K0;have hw:IntKind.i64.wrap (hi-lo)=hi-lo:=IntWalk.i64_in _ (by omega)
 have b1:¬pos<0:=by omega
 have b2:¬n<pos:=by omega
 clear K0 e1 e2 hd;by_cases h3:(m1:Int)=hi-lo
 ·have h4:((m2:Int) != hi-lo)=true:=by rw [bne_iff_ne];rcases h with h|h;exact absurd h3 h;exact h
  have h5:((m1:Int) != hi-lo)=false:=by rw [h3];simp
  clear h h3;go_enter Tryz.func58,Tryz.ntmps58
  go_wp2_with fail
  refine(K.out _).mono ?_;rintro e w1 ⟨rfl,rfl⟩;go_wp2
  go_ret
  exact⟨rfl,HR.out⟩
 ·have h5:((m1:Int) != hi-lo)=true:=by rw [bne_iff_ne];exact h3
  clear h h3;go_enter Tryz.func58,Tryz.ntmps58
  go_wp2_with fail
  refine(K.out _).mono ?_;rintro e w1 ⟨rfl,rfl⟩;go_wp2
  go_ret
  exact⟨rfl,HR.out⟩
theorem XQ (root:List UInt8) (key:ByteArray) (n pos lo hi:Int) (A1 A2:Option Addr) (c1 c2:Nat) (near:List KV) (paths:List (List (List UInt8))) (w:World) (h0:0≤pos) (h1:pos≤n) (hn:n≤9223372036854775807) (e1:sLo pos=lo) (e2:sHi pos n=hi) (hd:0≤hi-lo∧hi-lo≤2∧0≤lo∧hi≤n)
  (hl1:(near.length:Int)=hi-lo) (hl2:(paths.length:Int)=hi-lo)
  (hc:∀ k (h:k<near.length),∃ b off,A1=some ⟨b,off,none⟩∧w.cell? ⟨b,off+k*2,none⟩=some (.string near[k].1)∧w.cell? ⟨b,off+k*2+1,none⟩=some (.string near[k].2))
  (hq:∀(k:Nat) q,paths[k]?=some q→∃ b off u,A2=some ⟨b,off,none⟩∧w.cell? ⟨b,off+k,none⟩=some u ∧
    ∀(p:KV) (i:Int) W,Aa w W→Calls qP 100 #[.string (bs root),.agg #[.string p.1,.string p.2],u,.int .i64 i,.int .i64 n] W fun e w'=>e=.returned (.bool (El root p q i n))∧Aa W w')
  (HT:Hid (∀ W,Aa w W→Calls qP 107 #[.int .i64 0,.string ⟨#[]⟩] W fun e w'=>e=.returned (.string (bs (Ax (Bt 0 []))))∧Aa W w')) :
  Calls qP 58 #[.string (bs root),.string key,.agg #[.int .i64 n,.int .i64 pos,.bool false,.slice A1 near.length c1,.slice A2 paths.length c2]] w fun e w'=>e=.returned (.bool (BL root key pos n lo near paths&&(decide (0<n)||decide (root=Ax (Bt 0 [])))))∧Aa w w':=by
 obtain⟨r,hr⟩:∃ r,r=(BL root key pos n lo near paths&&(decide (0<n)||decide (root=Ax (Bt 0 [])))):=⟨_,rfl⟩;rw [←hr];have HR:=qH hr;have HC:=qH hc;have HQ:=qH hq;have HV:=qH (show Aa w (w.alloc (.cells #[.int .i64 n,.int .i64 pos,.bool false,.slice A1 near.length c1,.slice A2 paths.length c2] 112)) from Ad (by go_grown));have k0:=Blk.new w 112 #[.int .i64 n,.int .i64 pos,.bool false,.slice A1 near.length c1,.slice A2 paths.length c2];have q0:=k0.cell 0;have q1:=k0.cell 1;have q3:=k0.cell 3;have q4:=k0.cell 4;simp only [List.getElem?_toArray,List.getElem?_cons_zero,List.getElem?_cons_succ] at q0 q1 q3 q4;have K0:=fun W=>XL pos n W (by omega) (by omega) hn;rw [e1,e2] at K0;have K:=qH K0;have hw:IntKind.i64.wrap (hi-lo)=hi-lo:=IntWalk.i64_in _ (by omega)
 have b1:¬pos<0:=by omega
 have b2:¬n<pos:=by omega
 have h4:((paths.length:Int) != hi-lo)=false:=by rw [hl2];simp
 have h5:((near.length:Int) != hi-lo)=false:=by rw [hl1];simp
 have HL:=qH (show near.length=paths.length∧near.length≤2∧(near.length:Int)=hi-lo by omega);have HD:=qH hd;clear K0 e1 e2 hr hc hq k0 hl1 hl2 hd;go_enter Tryz.func58,Tryz.ntmps58
 go_wp2_with fail
 refine(K.out _).mono ?_;rintro e w1 ⟨rfl,rfl⟩;clear K;go_wp2;generalize hVV:w.alloc (.cells #[.int .i64 n,.int .i64 pos,.bool false,.slice A1 near.length c1,.slice A2 paths.length c2] 112)=V at *;clear hVV
 go_loopw [9,10,11,53] (fun _ _ _ i wr=>∃ k:Nat,k≤near.length∧i=.int .i64 k∧Hid (BL root key pos n lo near paths=BL root key pos n (lo+k) (near.drop k) (paths.drop k))∧Aa V wr) (fun _ _ _ i _=>near.length-(intOf i).toNat)
 case atStart=>exact⟨0,Nat.zero_le _,rfl,qH (by rw [Int.natCast_zero,Int.add_zero,List.drop_zero,List.drop_zero]),Aa.refl V⟩
 case round =>
  obtain⟨k,hk,rfl,HI,hS⟩:=hrel;by_cases hlt:k<near.length
  ·have hlt2:k<paths.length:=by have:=HL.out;omega
   obtain⟨g1,o1,rfl,d1,d2⟩:=HC.out k hlt;obtain⟨g2,o2,u,rfl,d3,H⟩:=HQ.out k _ (List.getElem?_eq_getElem hlt2);have HS:=qH (show Aa w wr from Ad (Ae HV.out.below hS.below));have z1:=HS.out.cell d1;have z2:=HS.out.cell d2;have z3:=HS.out.cell d3;have y0:=hS.cell q0;have y1:=hS.cell q1;have y4:=hS.cell q4;have HE:=qH (HI.out.trans (JZ (root:=root) (key:=key) (pos:=pos) (n:=n) (i:=lo) hlt hlt2));have HSD:=qH (Ly key pos (lo+k) near[k]);have HRE:=qH (H near[k] (lo+k))
   have i0:(0:Int)≤(k:Int):=by omega
   have i1:(k:Int)<(near.length:Int):=by omega
   have i2:(k:Int)<(paths.length:Int):=by omega
   have wi:IntKind.i64.wrap (lo+(k:Int))=lo+(k:Int):=IntWalk.i64_in _ (by have:=HD.out;have:=HL.out;omega);have HI2:=qH (show(k:Int)≤1 by have:=HL.out;omega);have hless:=Ct near[k].1 key;have heq:=XN near[k].1 key;generalize El root near[k] paths[k] (lo+k) n=re at *;obtain⟨p,hp⟩:∃ p,p=near[k]:=⟨_,rfl⟩;rw [←hp] at z1 z2 HE HSD HRE hless heq;obtain⟨p1,p2⟩:=p;simp only at z1 z2 HSD HRE hless heq;generalize hci:lo+(k:Int)=ci at *;clear d1 d2 d3 H hp HI;have HB:=qH (Blk.new wr 36 #[.string p1,.string p2]);have HW:=qH (show Aa w (wr.alloc (.cells #[.string p1,.string p2] 36))∧Aa wr (wr.alloc (.cells #[.string p1,.string p2] 36)) from⟨Ad (HS.out.below.alloc HS.out.2.2.2.1 _),Ad (by go_grown)⟩);have x0:(wr.alloc (.cells #[.string p1,.string p2] 36)).cell? ⟨wr.heap.size,0,none⟩=some (.string p1):=HB.out.cell 0;have x1:(wr.alloc (.cells #[.string p1,.string p2] 36)).cell? ⟨wr.heap.size,1,none⟩=some (.string p2):=HB.out.cell 1;have y1':=HW.out.2.cell y1
   rcases HSD.out with⟨s1,s2,s3⟩|⟨s1,s2,s3⟩|⟨s1,s2,s3⟩|⟨s1,s2,s3⟩
   ·rw [decide_eq_true s2] at hless
    clear heq;rw [s3] at HE;clear s2;have rr:=HW.out.1;have y0':=HW.out.2.cell y0;have y4':=HW.out.2.cell y4;have z3':=HW.out.2.cell z3;have SV:=qH (show Aa V (wr.alloc (.cells #[.string p1,.string p2] 36)) from Ad (Ae hS.below HW.out.2.below));clear HSD HB HW s3
    cases re with
    | false =>
      have h3:r=false:=by rw [HR.out,HE.out];simp
      subst h3;clear HR HE;go_wp2;generalize wr.alloc (.cells #[.string p1,.string p2] 36)=V2 at *
      go_region_held3 (fun W=>W.cell? ⟨wr.heap.size,0,none⟩=some (.string p1)∧W.cell? ⟨wr.heap.size,1,none⟩=some (.string p2)∧W.cell? ⟨w.heap.size,4,none⟩=some (.slice (some ⟨g2,o2,none⟩) paths.length c2)∧W.cell? ⟨w.heap.size,0,none⟩=some (.int .i64 n)∧W.cell? ⟨g2,o2+k,none⟩=some u)
       (first|exact⟨s5.cell x0,s5.cell x1,s5.cell y4',s5.cell y0',s5.cell z3'⟩|go_keep)
       (first|(go_at_call 100;refine(HRE.out _ (by exact rr)).mono ?_;clear HRE;rintro en w5 ⟨rfl,s5⟩))
      all_goals go_wp2
      all_goals go_ret
      all_goals exact⟨rfl,Ad (Ae (Below.drewN (Ae HV.out.below SV.out.below) 1) s5.below)⟩
    | true =>
      have hk9:=HI2.out;have HE2:=qH (show BL root key pos n lo near paths=BL root key pos n (lo+((k+1:Nat):Int)) (near.drop (k+1)) (paths.drop (k+1)) by rw [HE.out];simp);clear HE;go_wp2;generalize wr.alloc (.cells #[.string p1,.string p2] 36)=V2 at *
      go_region_held3 (fun W=>W.cell? ⟨wr.heap.size,0,none⟩=some (.string p1)∧W.cell? ⟨wr.heap.size,1,none⟩=some (.string p2)∧W.cell? ⟨w.heap.size,4,none⟩=some (.slice (some ⟨g2,o2,none⟩) paths.length c2)∧W.cell? ⟨w.heap.size,0,none⟩=some (.int .i64 n)∧W.cell? ⟨g2,o2+k,none⟩=some u)
       (first|exact⟨s5.cell x0,s5.cell x1,s5.cell y4',s5.cell y0',s5.cell z3'⟩|go_keep)
       (first|(go_at_call 100;refine(HRE.out _ (by exact rr)).mono ?_;clear HRE;rintro en w5 ⟨rfl,s5⟩))
      all_goals go_wp2
      all_goals go_roundw
      case rel=>exact⟨k+1,by omega,by go_num,HE2,Ad (Ae (Below.drewN SV.out.below 1) s5.below)⟩
      case measure=>simp [intOf];omega
   ·rw [decide_eq_false s2] at hless
    clear heq;rw [s3] at HE;clear s2
    have h3:r=false:=by rw [HR.out,HE.out];simp
    subst h3;have SV:=qH (show Aa w (wr.alloc (.cells #[.string p1,.string p2] 36)) from HW.out.1);clear HR HE HSD HRE HB HW s3;go_wp2
    go_ret
    exact⟨rfl,SV.out⟩
   ·rw [decide_eq_false (by rw [s2];decide)] at hless
    rw [decide_eq_false (by rw [s2];decide)] at heq;rw [s3] at HE;clear s2;have rr:=HW.out.1;have y0':=HW.out.2.cell y0;have y4':=HW.out.2.cell y4;have z3':=HW.out.2.cell z3;have SV:=qH (show Aa V (wr.alloc (.cells #[.string p1,.string p2] 36)) from Ad (Ae hS.below HW.out.2.below));clear HSD HB HW s3
    cases re with
    | false =>
      have h3:r=false:=by rw [HR.out,HE.out];simp
      subst h3;clear HR HE;go_wp2;generalize wr.alloc (.cells #[.string p1,.string p2] 36)=V2 at *
      go_region_held3 (fun W=>W.cell? ⟨wr.heap.size,0,none⟩=some (.string p1)∧W.cell? ⟨wr.heap.size,1,none⟩=some (.string p2)∧W.cell? ⟨w.heap.size,4,none⟩=some (.slice (some ⟨g2,o2,none⟩) paths.length c2)∧W.cell? ⟨w.heap.size,0,none⟩=some (.int .i64 n)∧W.cell? ⟨g2,o2+k,none⟩=some u)
       (first|exact⟨s5.cell x0,s5.cell x1,s5.cell y4',s5.cell y0',s5.cell z3'⟩|go_keep)
       (first|(go_at_call 100;refine(HRE.out _ (by exact rr)).mono ?_;clear HRE;rintro en w5 ⟨rfl,s5⟩))
      all_goals go_wp2
      all_goals go_ret
      all_goals exact⟨rfl,Ad (Ae (Below.drewN (Ae HV.out.below SV.out.below) 1) s5.below)⟩
    | true =>
      have hk9:=HI2.out;have HE2:=qH (show BL root key pos n lo near paths=BL root key pos n (lo+((k+1:Nat):Int)) (near.drop (k+1)) (paths.drop (k+1)) by rw [HE.out];simp);clear HE;go_wp2;generalize wr.alloc (.cells #[.string p1,.string p2] 36)=V2 at *
      go_region_held3 (fun W=>W.cell? ⟨wr.heap.size,0,none⟩=some (.string p1)∧W.cell? ⟨wr.heap.size,1,none⟩=some (.string p2)∧W.cell? ⟨w.heap.size,4,none⟩=some (.slice (some ⟨g2,o2,none⟩) paths.length c2)∧W.cell? ⟨w.heap.size,0,none⟩=some (.int .i64 n)∧W.cell? ⟨g2,o2+k,none⟩=some u)
       (first|exact⟨s5.cell x0,s5.cell x1,s5.cell y4',s5.cell y0',s5.cell z3'⟩|go_keep)
       (first|(go_at_call 100;refine(HRE.out _ (by exact rr)).mono ?_;clear HRE;rintro en w5 ⟨rfl,s5⟩))
      all_goals go_wp2
      all_goals go_roundw
      case rel=>exact⟨k+1,by omega,by go_num,HE2,Ad (Ae (Below.drewN SV.out.below 1) s5.below)⟩
      case measure=>simp [intOf];omega
   ·rcases De p1 key with h6|h6|h6
    ·rw [decide_eq_true h6] at hless
     clear heq;rw [s3] at HE;clear s2
     have h3:r=false:=by rw [HR.out,HE.out];simp
     subst h3;have SV:=qH (show Aa w (wr.alloc (.cells #[.string p1,.string p2] 36)) from HW.out.1);clear HR HE HSD HRE HB HW s3;go_wp2
     go_ret
     exact⟨rfl,SV.out⟩
    ·rw [decide_eq_false (by rw [h6];decide)] at hless
     rw [decide_eq_true h6] at heq;rw [s3] at HE;clear s2
     have h3:r=false:=by rw [HR.out,HE.out];simp
     subst h3;have SV:=qH (show Aa w (wr.alloc (.cells #[.string p1,.string p2] 36)) from HW.out.1);clear HR HE HSD HRE HB HW s3;go_wp2
     go_ret
     exact⟨rfl,SV.out⟩
    ·exact absurd h6 s2
  ·obtain rfl:k=near.length:=by omega
   have hall:BL root key pos n lo near paths=true:=by
    rw [HI.out,List.drop_eq_nil_of_le (Nat.le_refl _)]
    cases paths.drop near.length<;>rfl
   have HS:=qH (show Aa w wr from Ad (Ae HV.out.below hS.below));have y0:=hS.cell q0;have HR2:=qH (HR.out.trans (show _=(decide (0<n)||decide (root=Ax (Bt 0 []))) by rw [hall,Bool.true_and]));clear HI hall HR HC HQ HL HD;by_cases h6:0<n
   ·have h3:r=true:=by rw [HR2.out,decide_eq_true h6];rfl
    subst h3;clear HR2;go_wp2
    go_ret
    exact⟨rfl,HS.out⟩
   ·have h8:decide (0<n)=false:=decide_eq_false h6
    have hr2:=HR2.out;rw [h8,Bool.false_or] at hr2;clear HR2 h8;generalize Ax (Bt 0 [])=y at *;by_cases h9:root=y
    ·have h3:r=true:=by rw [hr2,decide_eq_true h9]
     subst h3 h9;clear hr2
     go_wp2_with fail
     refine(HT.out _ HS.out).mono ?_;rintro en w5 ⟨rfl,s5⟩;go_wp2
     go_ret
     exact⟨rfl,Ad (Ae HS.out.below s5.below)⟩
    ·have h3:r=false:=by rw [hr2,decide_eq_false h9]
     subst h3;have hne:=Eh (Tb h9);clear hr2 h9
     go_wp2_with fail
     refine(HT.out _ HS.out).mono ?_;rintro en w5 ⟨rfl,s5⟩;go_wp2
     go_ret
     exact⟨rfl,Ad (Ae HS.out.below s5.below)⟩
theorem eY (root:List UInt8) (key:ByteArray) (x:Pf) (v:Value) (w:World) (hP:Prf w v x) (hr:Ba w) (hn:x.n≤9223372036854775807) (hq:∀ q ∈ x.paths,q.length≤1000000∧∀ y ∈ q,y.length≤70000) :
  Calls qP 58 #[.string (bs root),.string key,v] w fun e w'=>e=.returned (.bool (CC root key x))∧Aa w w':=by
 obtain⟨n,pos,there,near,paths⟩:=x;obtain⟨nv,pv,rfl,⟨A1,c1,rfl,_,hc1⟩,⟨A2,c2,rfl,_,hc⟩⟩:=hP;simp only at hn hq hc hc1 ⊢;by_cases hF:OI ⟨n,pos,there,near,paths⟩
 ·have e:CC root key ⟨n,pos,there,near,paths⟩=(BL root key pos n (sLo pos) near paths&&(decide (0<n)||decide (root=Ax (Bt 0 [])))):=by
   unfold CC;rw [decide_eq_true hF,Bool.true_and]
   rfl
  rw [e];obtain⟨f1,f2,f3,f4,f5⟩:=hF;have hb:=cB (x:=⟨n,pos,there,near,paths⟩) f2 f3;simp only at f1 f2 f3 f4 f5;subst f1;refine XQ root key n pos (sLo pos) (sHi pos n) A1 A2 c1 c2 near paths w f2 f3 hn rfl rfl (by have h1:loI ⟨n,pos,false,near,paths⟩=sLo pos:=rfl;have h2:hiI ⟨n,pos,false,near,paths⟩=sHi pos n:=rfl;rw [h1,h2] at hb;simp only at hb;omega) f4 f5 hc1 (fun k q hk=>?_) (qH fun W hW=>(iE 0 [] W (Cy hr hW) (by simp)).mono fun e w' ⟨he,hb⟩=>⟨he,Ad hb⟩);obtain⟨b,off,u,rfl,d,hT,hR⟩:=hc k q hk;have h4:=hq q (List.mem_of_getElem? hk);exact⟨b,off,u,rfl,d,fun p i W hW=>Xx root p q u i n W ((hT.below hW.below).more hW.2.2.2.1) hR (Cy hr hW) hn h4.1 h4.2⟩
 ·have e:CC root key ⟨n,pos,there,near,paths⟩=false:=by unfold CC;rw [decide_eq_false hF];rfl
  rw [e];by_cases h1:there=true∨pos<0∨n<pos
  ·exact XO (bs root) key n pos there _ _ w h1
  ·obtain⟨h2,h3,h4⟩:there=false∧0≤pos∧pos≤n:=by
    refine⟨?_,by omega,by omega⟩
    cases there with
    | false=>rfl
    | true=>exact absurd (.inl rfl) h1
   subst h2;have hb:=cB (x:=⟨n,pos,false,near,paths⟩) h3 h4;have h5:loI ⟨n,pos,false,near,paths⟩=sLo pos:=rfl;have h6:hiI ⟨n,pos,false,near,paths⟩=sHi pos n:=rfl;rw [h5,h6] at hb;simp only at hb;refine XP (bs root) key n pos (sLo pos) (sHi pos n) A1 A2 near.length c1 paths.length c2 w h3 h4 hn rfl rfl (by omega) ?_;by_cases h7:(near.length:Int)=sHi pos n-sLo pos
   ·right
    intro h8;exact hF ⟨rfl,h3,h4,h7,h8⟩
   ·exact .inl h7
end Go.Proofs.YtkejaepmoabikaaGreatDoor.W
namespace Go.Proofs.YtkejaepmoabikaaGreatDoor.W
open Go.ChangeShapes Go.WideShapes Go.RowKit
theorem ML:∀(k:Nat) (s:ByteArray) (acc:List ByteArray),(AU k s acc).2.length≤acc.length+k
 | 0,s,acc=>by simp [AU]
 | k+1,s,acc=>by
   rw [AU]
   split
   ·simp
   ·have:=ML k (Aj s 0).1.1 (acc++[(Aj s 0).2])
    simp at this
    omega
theorem XR (s:ByteArray) (e:Int):(Bk s e).2.length≤256:=by
 have h:=(Dp s e 256).1;unfold Bk;simp only
 split
 ·simp
 ·have:=ML (Bn s e 256).2 (Bn s e 256).1.1 []
  simp at this
  omega
theorem PW:∀(k:Nat) (a:ByteArray×Int) (acc:List KV),(AN k a acc).2.length=acc.length+k
 | 0,a,acc=>rfl
 | k+1,a,acc=>by
   simp only [AN];rw [PW k];simp
   omega
theorem PY:∀(k:Nat) (a:ByteArray×Int) (acc:List (List (List UInt8))),(∀ q ∈ acc,q.length≤256)→(AJ k a acc).2.length=acc.length+k∧∀ q ∈ (AJ k a acc).2,q.length≤256
 | 0,a,acc,h=>⟨rfl,h⟩
 | k+1,a,acc,h=>by
   simp only [AJ]
   have:=PY k (Bk a.1 a.2).1 (acc++[unb (Bk a.1 a.2).2]) (fun q hq=>by
    rw [List.mem_append,List.mem_singleton] at hq
    rcases hq with hq|rfl
    ·exact h q hq
    ·have:=XR a.1 a.2
     unfold unb;rw [List.length_map]
     exact this)
   exact⟨by rw [this.1];simp;omega,this.2⟩
theorem TP:∀(k:Nat) (s:ByteArray) (acc:List ByteArray),(∀ x ∈ acc,x.size≤65536)→∀ x ∈ (AU k s acc).2,x.size≤65536
 | 0,s,acc,h=>by simpa [AU] using h
 | k+1,s,acc,h=>by
   rw [AU]
   split
   ·intro x hx;cases hx
   ·exact TP k _ _ fun x hx=>by
     rw [List.mem_append,List.mem_singleton] at hx
     rcases hx with hx|rfl
     ·exact h x hx
     ·exact(AV s 0).2
theorem Vh (s:ByteArray) (e:Int):∀ x ∈ (Bk s e).2,x.size≤65536:=by
 unfold Bk;simp only
 split
 ·intro x hx;cases hx
 ·exact TP _ _ _ fun x hx=>by cases hx
theorem TQ:∀(k:Nat) (a:ByteArray×Int) (acc:List (List (List UInt8))),(∀ q ∈ acc,∀ y ∈ q,y.length≤65536)→∀ q ∈ (AJ k a acc).2,∀ y ∈ q,y.length≤65536
 | 0,a,acc,h=>by simpa [AJ] using h
 | k+1,a,acc,h=>by
   simp only [AJ]
   exact TQ k _ _ fun q hq=>by
    rw [List.mem_append,List.mem_singleton] at hq
    rcases hq with hq|rfl
    ·exact h q hq
    ·intro y hy
     unfold unb at hy;rw [List.mem_map] at hy;obtain⟨x,hx,rfl⟩:=hy;rw [Ah];exact Vh a.1 a.2 x hx
theorem rd_holds (s:ByteArray):Xl (FU s).1∧∀ q ∈ (FU s).1.paths,q.length≤1000000∧∀ y ∈ q,y.length≤70000:=by
 have hz:Xl Pf.zero∧∀ q ∈ Pf.zero.paths,q.length≤1000000∧∀ y ∈ q,y.length≤70000:=⟨⟨by decide,by decide,by decide,by decide,Nat.zero_le _,Nat.zero_le _⟩,fun q hq=>by cases hq⟩;unfold FU;simp only
 split
 ·exact hz
 ·rename_i he
  split
  ·exact hz
  ·rename_i hb
   unfold Dm
   split
   ·exact hz
   ·rename_i hp
    simp only
    split
    ·exact hz
    ·rename_i hd
     have w1:=(Ay s 0).1;have w2:=(Ay (Ao s 0).1.1 (Ao s 0).1.2).1;generalize (Ao s 0)=A at *;generalize (Ao A.1.1 A.1.2)=B at *;generalize (Ao (Ao B.1.1 B.1.2).1.1 (Ao B.1.1 B.1.2).1.2)=D at *;generalize (AN D.2 D.1 []).1=E at *;have h1:=PW D.2 D.1 [];have h2:=PY (Ao E.1 E.2).2 (Ao E.1 E.2).1 [] (fun q hq=>by cases hq);have h5:=TQ (Ao E.1 E.2).2 (Ao E.1 E.2).1 [] (fun q hq=>by cases hq);have h3:=Ay E.1 E.2
     have h4:(Ao E.1 E.2).2≤2:=by
      by_cases h:(Ao E.1 E.2).1.2=0
      ·have:¬2<(Ao E.1 E.2).2:=fun h5=>hp ⟨h,h5⟩
       omega
      ·have:=h3.2.2 h;omega
     simp at h1 h2
     have hm:(1000000000:Nat)≤maxLen:=by decide
     exact⟨⟨by simp only;omega,by simp only;omega,by simp only;omega,by simp only;omega,by simp only;omega,by simp only;omega⟩,fun q hq=>⟨by have:=h2.2 q hq;omega,fun y hy=>by have:=h5 q hq y hy;omega⟩⟩
end Go.Proofs.YtkejaepmoabikaaGreatDoor.W
namespace Go.Proofs.YtkejaepmoabikaaGreatDoor.W
open Go.RowKit
open Lib renaming hid → qH
open _root_.Go.Proofs.Tryz renaming prog → qP
set_option maxHeartbeats 2000000
theorem aD (a b:ByteArray) (w:World):Calls qP 166 #[.string a,.string b] w fun e w'=>e=.returned (.int .i64 (kc a b))∧w'=w:=Any.strings_Compare Tryz.lays106 a b w
theorem hasPrefix (s p:ByteArray) (w:World):Calls qP 173 #[.string s,.string p] w fun e w'=>e=.returned (.bool (pfx p s))∧w'=w:=Any.strings_HasPrefix Tryz.lays99 s p w
inductive BT where
 | leaf
 | node (l:BT) (x:KV) (r:BT)
def BT.list:BT→List KV
 | .leaf=>[]
 | .node l x r=>l.list++x::r.list
def BT.ht:BT→Nat
 | .leaf=>0
 | .node l _ r=>1+max l.ht r.ht
theorem BT.ht_le (t:BT):t.ht≤t.list.length:=by
 induction t with
 | leaf=>simp [BT.ht]
 | node l x r h1 h2=>simp only [BT.ht,BT.list,List.length_append,List.length_cons];omega
def Cv (pl:Option Addr) (x:KV) (pr:Option Addr) (n:Nat):Array Value:=#[.pointer pl,.string x.1,.string x.2,.pointer pr,.int .i64 n]
def Av (w:World):Option Addr→BT→Prop
 | p,.leaf=>p=none
 | p,.node l x r=>∃ b pl pr,p=some ⟨b,0,none⟩∧Blk w b 238 (Cv pl x pr (BT.node l x r).ht)∧Av w pl l∧Av w pr r
def Ki (w w':World):Prop:=∀ g cs,Blk w g 238 cs→Blk w' g 238 cs
theorem Ki.refl (w:World):Ki w w:=fun _ _ h=>h
theorem Ki.trans {a b c:World} (h:Ki a b) (k:Ki b c):Ki a c:=fun g cs hb=>k g cs (h g cs hb)
theorem RP {w w':World} (h:Below w.heap.size w w'):Ki w w':=fun _ _ hb=>hb.below h hb.lt
theorem Av.kept {w w':World} (h:Ki w w'):∀ {p:Option Addr} {t:BT},Av w p t→Av w' p t
 | _,.leaf,ht=>ht
 | _,.node _ _ _,⟨b,pl,pr,hp,hb,hl,hr⟩=>⟨b,pl,pr,hp,h _ _ hb,hl.kept h,hr.kept h⟩
theorem Av.below {w w':World} (h:Below w.heap.size w w') {p:Option Addr} {t:BT} (ht:Av w p t):Av w' p t:=ht.kept (RP h)
theorem Av.one {w:World}:∀ {p:Option Addr} {t t':BT},Av w p t→Av w p t'→t=t'
 | _,.leaf,.leaf,_,_=>rfl
 | _,.leaf,.node _ _ _,h,⟨_,_,_,hp,_⟩=>by rw [show _=none from h] at hp;cases hp
 | _,.node _ _ _,.leaf,⟨_,_,_,hp,_⟩,h=>by rw [show _=none from h] at hp;cases hp
 | _,.node l x r,.node l' x' r',⟨b,pl,pr,hp,hb,hl,hr⟩,⟨b',pl',pr',hp',hb',hl',hr'⟩=>by
   rw [hp] at hp'
   cases hp'
   have e:Cv pl x pr (BT.node l x r).ht=Cv pl' x' pr' (BT.node l' x' r').ht:=by
    unfold Blk at hb hb';rw [hb] at hb'
    simpa using hb'
   simp [Cv] at e;obtain⟨rfl,h1,h2,rfl,_⟩:=e;rw [Av.one hl hl',Av.one hr hr',show x=x' from Prod.ext h1 h2]
theorem Bh {w:World} {b:Nat} {pl pr:Option Addr} {x:KV} {n:Nat} (h:Blk w b 238 (Cv pl x pr n)) :
  w.cell? ⟨b,0,none⟩=some (.pointer pl)∧w.cell? ⟨b,1,none⟩=some (.string x.1)∧w.cell? ⟨b,2,none⟩=some (.string x.2)∧w.cell? ⟨b,3,none⟩=some (.pointer pr)∧w.cell? ⟨b,4,none⟩=some (.int .i64 n) :=
 ⟨h.cell 0,h.cell 1,h.cell 2,h.cell 3,h.cell 4⟩
theorem Fu (t:BT) (p:Option Addr) (w:World) (ht:Av w p t) :
  Calls qP 244 #[.pointer p] w fun e w'=>e=.returned (.int .i64 t.ht)∧w'=w:=by
 cases t with
 | leaf =>
   obtain rfl:p=none:=ht;go_enter Tryz.func244,Tryz.ntmps244;go_wp2
   go_ret
   exact⟨rfl,rfl⟩
 | node l x r =>
   obtain⟨b,pl,pr,rfl,hb,_,_⟩:=ht;generalize (BT.node l x r).ht=n at *;obtain⟨_,_,_,_,c4⟩:=Bh hb;go_enter Tryz.func244,Tryz.ntmps244;go_wp2
   go_ret
   exact⟨rfl,rfl⟩
theorem cQ (l r:BT) (x:KV) (pl pr:Option Addr) (w:World) (hl:Av w pl l) (hr:Av w pr r) (hs:(BT.node l x r).list.length<4611686018427387904) :
  Calls qP 227 #[.pointer pl,.agg #[.string x.1,.string x.2],.pointer pr] w fun e w'=>∃ b,e=.returned (.pointer (some ⟨b,0,none⟩))∧Av w' (some ⟨b,0,none⟩) (.node l x r)∧Below w.heap.size w w':=by
 have H1:=qH (fun W (h:Aa w W)=>Fu l pl W (hl.below h.below));have H2:=qH (fun W (h:Aa w W)=>Fu r pr W (hr.below h.below));have hh:=(BT.node l x r).ht_le;have hn:(BT.node l x r).ht=1+max l.ht r.ht:=rfl;have HI:=qH (show ∀ W b n,n=(BT.node l x r).ht→Blk W b 238 (Cv pl x pr n)→Below w.heap.size w W→Av W (some ⟨b,0,none⟩) (.node l x r) from fun W b n e hb h=>⟨b,pl,pr,rfl,e▸hb,hl.below h,hr.below h⟩);obtain⟨k,v⟩:=x;generalize (BT.node l (k,v) r).ht=n at *;generalize l.ht=a at *;generalize r.ht=c at *;simp only at *
 have hw:IntKind.i64.wrap (1+max (a:Int) (c:Int))=(n:Int):=by rw [IntWalk.i64_in _ (by omega)];omega
 clear hn hh hs;go_enter Tryz.func227,Tryz.ntmps227;go_wp2;have bk:Blk (w.alloc (.cells #[.string k,.string v] 36)) w.heap.size 36 #[.string k,.string v]:=Blk.new _ _ _;have s1:Aa w (w.alloc (.cells #[.string k,.string v] 36)):=Ad ((Below.refl _ _).alloc (Nat.le_refl _) _);generalize w.alloc (.cells #[.string k,.string v] 36)=w1 at *;have c0:w1.cell? ⟨w.heap.size,0,none⟩=some (.string k):=bk.cell 0;have c1:w1.cell? ⟨w.heap.size,1,none⟩=some (.string v):=bk.cell 1
 go_region_held3 (fun w'=>w'.cell? ⟨w.heap.size,0,none⟩=some (.string k)∧w'.cell? ⟨w.heap.size,1,none⟩=some (.string v))
  (go_keep)
  (first
    | (go_at_call 244;refine(H1.out _ (by exact s1)).mono ?_;clear H1;rintro en wJ ⟨rfl,rfl⟩)
    | (go_at_call 244;refine(H2.out _ (by exact s1)).mono ?_;clear H2;rintro en wJ ⟨rfl,rfl⟩))
 go_wp2
 go_ret
 have hB:Below w.heap.size w ((w1.alloc (.cells #[.pointer pl,.string k,.string v,.pointer pr,.int .i64 n] 238)).drew):=(s1.below.alloc s1.2.2.2.1 _).drew;exact⟨_,rfl,HI.out _ _ n rfl (Blk.new w1 _ _) hB,hB⟩
def DC (L:List KV) (w:World) (e:Ending) (w':World):Prop:=∃ p t,e=.returned (.pointer p)∧Av w' p t∧t.list=L∧Below w.heap.size w w'
theorem MN (w0:World) (l r:BT) (x:KV) (pl pr:Option Addr) (W:World) (hs:Aa w0 W) (hl:Av W pl l) (hr:Av W pr r) (hz:(BT.node l x r).list.length<4611686018427387904) :
  Calls qP 227 #[.pointer pl,.agg #[.string x.1,.string x.2],.pointer pr] W fun e w'=>∃ b,e=.returned (.pointer (some ⟨b,0,none⟩))∧Av w' (some ⟨b,0,none⟩) (.node l x r)∧Aa w0 w' :=
 (cQ l r x pl pr W hl hr hz).mono fun _ _ ⟨b,he,ht,hb⟩=>⟨b,he,ht,Ad (Ae hs.below hb)⟩
theorem JF (ll lr r:BT) (y x:KV) (b:Nat) (pr:Option Addr) (w:World) (hl:Av w (some ⟨b,0,none⟩) (.node ll y lr)) (hr:Av w pr r) (hz:(BT.node (.node ll y lr) x r).list.length<4611686018427387904) :
  Calls qP 246 #[.pointer (some ⟨b,0,none⟩),.agg #[.string x.1,.string x.2],.pointer pr] w fun e w'=>∃ b',e=.returned (.pointer (some ⟨b',0,none⟩))∧Av w' (some ⟨b',0,none⟩) (.node ll y (.node lr x r))∧Below w.heap.size w w':=by
 obtain⟨b0,pll,plr,e0,hb,hll,hlr⟩:=hl
 cases e0
 have HZ:=qH hz;have HB:=qH (Bh hb);clear hz hb;obtain⟨xk,xv⟩:=x;obtain⟨yk,yv⟩:=y;simp only at *;go_enter Tryz.func246,Tryz.ntmps246;go_wp2;have bk:Blk (w.alloc (.cells #[.string xk,.string xv] 36)) w.heap.size 36 #[.string xk,.string xv]:=Blk.new _ _ _;have s1:Aa w (w.alloc (.cells #[.string xk,.string xv] 36)):=Ad ((Below.refl _ _).alloc (Nat.le_refl _) _);generalize w.alloc (.cells #[.string xk,.string xv] 36)=w1 at *;have H1:=qH (fun W (h:Aa w1 W)=>MN w1 lr r (xk,xv) plr pr W h (hlr.below (h.after s1)) (hr.below (h.after s1)) (by have:=HZ.out;simp only [BT.list,List.length_append,List.length_cons] at this ⊢;omega));have H2:=qH (fun W (h:Aa w1 W) c (hc:Av W (some ⟨c,0,none⟩) (.node lr (xk,xv) r))=>MN w1 ll (.node lr (xk,xv) r) (yk,yv) pll (some ⟨c,0,none⟩) W h (hll.below (h.after s1)) hc (by have:=HZ.out;simp only [BT.list,List.length_append,List.length_cons] at this ⊢;omega));have k0:w1.cell? ⟨w.heap.size,0,none⟩=some (.string xk):=bk.cell 0;have k1:w1.cell? ⟨w.heap.size,1,none⟩=some (.string xv):=bk.cell 1;obtain⟨c0,c1,c2,c3,_⟩:=HB.out;have d0:=s1.cell c0;have d1:=s1.cell c1;have d2:=s1.cell c2;have d3:=s1.cell c3;have s2:=Aa.refl w1;clear c0 c1 c2 c3 bk;simp only at *
 go_region_held3 (fun w'=>w'.cell? ⟨w.heap.size,0,none⟩=some (.string xk)∧w'.cell? ⟨w.heap.size,1,none⟩=some (.string xv)∧w'.cell? ⟨b,0,none⟩=some (.pointer pll)∧w'.cell? ⟨b,1,none⟩=some (.string yk)∧w'.cell? ⟨b,2,none⟩=some (.string yv)∧w'.cell? ⟨b,3,none⟩=some (.pointer plr))
  (first|go_keep|exact⟨sJ.cell k0,sJ.cell k1,sJ.cell d0,sJ.cell d1,sJ.cell d2,sJ.cell d3⟩|exact⟨sK.cell k0,sK.cell k1,sK.cell d0,sK.cell d1,sK.cell d2,sK.cell d3⟩)
  (first
    | (go_at_call 227;refine(H1.out _ (by exact s2)).mono ?_;clear H1;rintro en wJ ⟨c,rfl,tJ,sJ⟩)
    | (go_at_call 227;refine(H2.out _ (by exact sJ) _ (by exact tJ)).mono ?_;clear H2;rintro en wK ⟨d,rfl,tK,sK⟩))
 go_wp2
 go_ret
 exact⟨_,rfl,tK,sK.after s1⟩
theorem Lz (l rl rr:BT) (x y:KV) (b:Nat) (pl:Option Addr) (w:World) (hl:Av w pl l) (hr:Av w (some ⟨b,0,none⟩) (.node rl y rr)) (hz:(BT.node l x (.node rl y rr)).list.length<4611686018427387904) :
  Calls qP 245 #[.pointer pl,.agg #[.string x.1,.string x.2],.pointer (some ⟨b,0,none⟩)] w fun e w'=>∃ b',e=.returned (.pointer (some ⟨b',0,none⟩))∧Av w' (some ⟨b',0,none⟩) (.node (.node l x rl) y rr)∧Below w.heap.size w w':=by
 obtain⟨b0,prl,prr,e0,hb,hrl,hrr⟩:=hr
 cases e0
 have HZ:=qH hz;have HB:=qH (Bh hb);clear hz hb;obtain⟨xk,xv⟩:=x;obtain⟨yk,yv⟩:=y;simp only at *;go_enter Tryz.func245,Tryz.ntmps245;go_wp2;have bk:Blk (w.alloc (.cells #[.string xk,.string xv] 36)) w.heap.size 36 #[.string xk,.string xv]:=Blk.new _ _ _;have s1:Aa w (w.alloc (.cells #[.string xk,.string xv] 36)):=Ad ((Below.refl _ _).alloc (Nat.le_refl _) _);generalize w.alloc (.cells #[.string xk,.string xv] 36)=w1 at *;have H1:=qH (fun W (h:Aa w1 W)=>MN w1 l rl (xk,xv) pl prl W h (hl.below (h.after s1)) (hrl.below (h.after s1)) (by have:=HZ.out;simp only [BT.list,List.length_append,List.length_cons] at this ⊢;omega));have H2:=qH (fun W (h:Aa w1 W) c (hc:Av W (some ⟨c,0,none⟩) (.node l (xk,xv) rl))=>MN w1 (.node l (xk,xv) rl) rr (yk,yv) (some ⟨c,0,none⟩) prr W h hc (hrr.below (h.after s1)) (by have:=HZ.out;simp only [BT.list,List.length_append,List.length_cons] at this ⊢;omega));have k0:w1.cell? ⟨w.heap.size,0,none⟩=some (.string xk):=bk.cell 0;have k1:w1.cell? ⟨w.heap.size,1,none⟩=some (.string xv):=bk.cell 1;obtain⟨c0,c1,c2,c3,_⟩:=HB.out;have d0:=s1.cell c0;have d1:=s1.cell c1;have d2:=s1.cell c2;have d3:=s1.cell c3;have s2:=Aa.refl w1;clear c0 c1 c2 c3 bk;simp only at *
 go_region_held3 (fun w'=>w'.cell? ⟨w.heap.size,0,none⟩=some (.string xk)∧w'.cell? ⟨w.heap.size,1,none⟩=some (.string xv)∧w'.cell? ⟨b,0,none⟩=some (.pointer prl)∧w'.cell? ⟨b,1,none⟩=some (.string yk)∧w'.cell? ⟨b,2,none⟩=some (.string yv)∧w'.cell? ⟨b,3,none⟩=some (.pointer prr))
  (first|go_keep|exact⟨sJ.cell k0,sJ.cell k1,sJ.cell d0,sJ.cell d1,sJ.cell d2,sJ.cell d3⟩|exact⟨sK.cell k0,sK.cell k1,sK.cell d0,sK.cell d1,sK.cell d2,sK.cell d3⟩)
  (first
    | (go_at_call 227;refine(H1.out _ (by exact s2)).mono ?_;clear H1;rintro en wJ ⟨c,rfl,tJ,sJ⟩)
    | (go_at_call 227;refine(H2.out _ (by exact sJ) _ (by exact tJ)).mono ?_;clear H2;rintro en wK ⟨d,rfl,tK,sK⟩))
 go_wp2
 go_ret
 exact⟨_,rfl,tK,sK.after s1⟩
theorem GO {A C:Nat} (h:A<4611686018427387904) (k:C<4611686018427387904):wrap64 ((A:Int)-C)=(A:Int)-C:=by simp only [wrap64];omega
theorem RQ {l r:BT} {x:KV} {w:World} {e:Ending} {w':World} (h:∃ b,e=.returned (.pointer (some ⟨b,0,none⟩))∧Av w' (some ⟨b,0,none⟩) (.node l x r)∧Aa w w'):DC (BT.node l x r).list w e w' :=
 let ⟨_,he,ht,hs⟩:=h;⟨_,_,he,ht,rfl,hs.below⟩
theorem LC {f:FuncId} {args:Array Value} {t:BT} {w0 W:World} (hs:Aa w0 W) (h:Calls qP f args W fun e w'=>∃ b,e=.returned (.pointer (some ⟨b,0,none⟩))∧Av w' (some ⟨b,0,none⟩) t∧Below W.heap.size W w') :
  Calls qP f args W fun e w'=>∃ b,e=.returned (.pointer (some ⟨b,0,none⟩))∧Av w' (some ⟨b,0,none⟩) t∧Aa w0 w'∧∀ a v,W.cell? a=some v→w'.cell? a=some v :=
 h.mono fun _ _ ⟨b,he,ht,hb⟩=>⟨b,he,ht,Ad (Ae hs.below hb),fun _ _ hc=>(Ad hb).cell hc⟩
theorem Qa (l r:BT) (x:KV) (pl pr:Option Addr) (w:World) (hl:Av w pl l) (hr:Av w pr r) (hz:(BT.node l x r).list.length<4611686018427387904)
  (h2:(l.ht:Int)-r.ht≠2) (h3:(l.ht:Int)-r.ht≠-2) :
  Calls qP 228 #[.pointer pl,.agg #[.string x.1,.string x.2],.pointer pr] w (DC (BT.node l x r).list w):=by
 have a1:=l.ht_le;have a2:=r.ht_le;have hz':=hz;simp only [BT.list,List.length_append,List.length_cons] at hz';obtain⟨D,hD⟩:∃ D,D=(l.ht:Int)-r.ht:=⟨_,rfl⟩;rw [←hD] at h2 h3;have hw:=(GO (A:=l.ht) (C:=r.ht) (by omega) (by omega)).trans hD.symm
 have e2:(D==2)=false:=by simpa using h2
 have e3:(D==-2)=false:=by simpa using h3
 have H1:=qH (fun W (h:Aa w W)=>Fu l pl W (hl.below h.below));have H2:=qH (fun W (h:Aa w W)=>Fu r pr W (hr.below h.below));have H3:=qH (fun W (h:Aa w W)=>(MN w l r x pl pr W h (hl.below h.below) (hr.below h.below) hz).mono fun _ _ h=>RQ h);clear hz hz' h2 h3 a1 a2 hl hr hD;obtain⟨xk,xv⟩:=x;simp only at *;generalize (BT.node l (xk,xv) r).list=L at *;generalize (l.ht:Int)=A at *;generalize (r.ht:Int)=C at *;go_enter Tryz.func228,Tryz.ntmps228
 go_wp2_with fail
 have bk:Blk (w.alloc (.cells #[.string xk,.string xv] 36)) w.heap.size 36 #[.string xk,.string xv]:=Blk.new _ _ _;have s1:Aa w (w.alloc (.cells #[.string xk,.string xv] 36)):=Ad ((Below.refl _ _).alloc (Nat.le_refl _) _);generalize w.alloc (.cells #[.string xk,.string xv] 36)=w1 at *;have k0:w1.cell? ⟨w.heap.size,0,none⟩=some (.string xk):=bk.cell 0;have k1:w1.cell? ⟨w.heap.size,1,none⟩=some (.string xv):=bk.cell 1;clear bk;refine(H1.out _ s1).mono ?_;rintro e w' ⟨rfl,rfl⟩
 go_wp2_with fail
 refine(H2.out _ s1).mono ?_;rintro e w' ⟨rfl,rfl⟩
 go_wp2_with fail
 refine(H3.out _ s1).mono ?_;rintro e w2 hM;obtain⟨p,t,rfl,h1,h2,h3⟩:=hM;go_wp2
 go_ret
 exact⟨_,_,rfl,h1,h2,h3⟩
theorem Vj (ll lr r:BT) (y x:KV) (b:Nat) (pr:Option Addr) (w:World) (hl:Av w (some ⟨b,0,none⟩) (.node ll y lr)) (hr:Av w pr r) (hz:(BT.node (.node ll y lr) x r).list.length<4611686018427387904)
  (h2:((BT.node ll y lr).ht:Int)-r.ht=2) (ht:¬ll.ht<lr.ht) :
  Calls qP 228 #[.pointer (some ⟨b,0,none⟩),.agg #[.string x.1,.string x.2],.pointer pr] w (DC (BT.node (.node ll y lr) x r).list w):=by
 have a1:=(BT.node ll y lr).ht_le;have a2:=r.ht_le;have hz':=hz;simp only [BT.list,List.length_append,List.length_cons] at hz' a1 a2;have hw:=(GO (A:=(BT.node ll y lr).ht) (C:=r.ht) (by omega) (by omega)).trans h2;have H1:=qH (fun W (h:Aa w W)=>Fu (BT.node ll y lr) (some ⟨b,0,none⟩) W (hl.below h.below));have H2:=qH (fun W (h:Aa w W)=>Fu r pr W (hr.below h.below));have hl0:=hl;obtain⟨b0,p1,p3,e0,hb,h11,h33⟩:=hl0
 cases e0
 have HB:=qH (Bh hb);have HA:=qH (fun W (h:Aa w W)=>Fu ll p1 W (h11.below h.below));have HC:=qH (fun W (h:Aa w W)=>Fu lr p3 W (h33.below h.below))
 have et:((ll.ht:Int)<(lr.ht:Int))↔False:=by rw [Int.ofNat_lt];simp only [ht]
 have H3:=qH (fun W (h:Aa w W)=>LC h (JF ll lr r y x b pr W (hl.below h.below) (hr.below h.below) hz));have HL:=qH (show ∀ w' p t,Av w' p t→t.list=(BT.node (.node ll y lr) x r).list→Below w.heap.size w w'→DC _ w (.returned (.pointer p)) w' from fun w' p t h1 h2 h3=>⟨_,t,rfl,h1,h2,h3⟩);clear hz hz' h2 a1 a2 ht hl hr hb h11 h33;obtain⟨xk,xv⟩:=x;obtain⟨yk,yv⟩:=y;simp only at *;generalize ((BT.node ll (yk,yv) lr).ht:Int)=A at *;generalize (r.ht:Int)=C at *;generalize (ll.ht:Int)=A1 at *;generalize (lr.ht:Int)=A3 at *;go_enter Tryz.func228,Tryz.ntmps228
 go_wp2_with fail
 have bk:Blk (w.alloc (.cells #[.string xk,.string xv] 36)) w.heap.size 36 #[.string xk,.string xv]:=Blk.new _ _ _;have s1:Aa w (w.alloc (.cells #[.string xk,.string xv] 36)):=Ad ((Below.refl _ _).alloc (Nat.le_refl _) _);generalize w.alloc (.cells #[.string xk,.string xv] 36)=w1 at *;have k0:w1.cell? ⟨w.heap.size,0,none⟩=some (.string xk):=bk.cell 0;have k1:w1.cell? ⟨w.heap.size,1,none⟩=some (.string xv):=bk.cell 1;clear bk;refine(H1.out _ s1).mono ?_;rintro e w' ⟨rfl,rfl⟩
 go_wp2_with fail
 refine(H2.out _ s1).mono ?_;rintro e w' ⟨rfl,rfl⟩
 go_wp2_with fail
 obtain⟨c0,c1,c2,c3,_⟩:=HB.out;have d0:=s1.cell c0;have d1:=s1.cell c1;have d2:=s1.cell c2;have d3:=s1.cell c3;clear c0 c1 c2 c3
 go_region_held3 (fun w'=>w'.cell? ⟨b,0,none⟩=some (.pointer p1)∧w'.cell? ⟨b,3,none⟩=some (.pointer p3))
  (go_keep)
  (first
    | (go_at_call 244;refine(HA.out _ (by exact s1)).mono ?_;clear HA;rintro en wJ ⟨rfl,rfl⟩)
    | (go_at_call 244;refine(HC.out _ (by exact s1)).mono ?_;clear HC;rintro en wJ ⟨rfl,rfl⟩))
 go_wp2_with fail
 refine(H3.out _ (by exact s1)).mono ?_;rintro e w2 ⟨b',rfl,hT,hB,-⟩;go_wp2
 go_ret
 exact HL.out _ _ _ hT (by simp [BT.list]) hB.below
theorem Vk (ll lr r:BT) (y x:KV) (b:Nat) (pr:Option Addr) (w:World) (hl:Av w (some ⟨b,0,none⟩) (.node ll y lr)) (hr:Av w pr r) (hz:(BT.node (.node ll y lr) x r).list.length<4611686018427387904)
  (h2:((BT.node ll y lr).ht:Int)-r.ht=2) (ht:ll.ht<lr.ht) :
  Calls qP 228 #[.pointer (some ⟨b,0,none⟩),.agg #[.string x.1,.string x.2],.pointer pr] w (DC (BT.node (.node ll y lr) x r).list w):=by
 have a1:=(BT.node ll y lr).ht_le;have a2:=r.ht_le;have hz':=hz;simp only [BT.list,List.length_append,List.length_cons] at hz' a1 a2;have hw:=(GO (A:=(BT.node ll y lr).ht) (C:=r.ht) (by omega) (by omega)).trans h2;have H1:=qH (fun W (h:Aa w W)=>Fu (BT.node ll y lr) (some ⟨b,0,none⟩) W (hl.below h.below));have H2:=qH (fun W (h:Aa w W)=>Fu r pr W (hr.below h.below));have hl0:=hl;obtain⟨b0,p1,p3,e0,hb,h11,h33⟩:=hl0
 cases e0
 obtain⟨ma,z,mb,rfl⟩:∃ ma z mb,lr=BT.node ma z mb:=by
  cases lr with
  | leaf=>exact absurd ht (by simp [BT.ht])
  | node ma z mb=>exact⟨_,_,_,rfl⟩
 have hin:=h33;obtain⟨b3,p4,p5,rfl,_,_,_⟩:=hin;have HB:=qH (Bh hb);have HA:=qH (fun W (h:Aa w W)=>Fu ll p1 W (h11.below h.below));have HC:=qH (fun W (h:Aa w W)=>Fu (BT.node ma z mb) (some ⟨b3,0,none⟩) W (h33.below h.below))
 have et:((ll.ht:Int)<((BT.node ma z mb).ht:Int))↔True:=by rw [Int.ofNat_lt];simp only [ht]
 have H4:=qH (fun W (h:Aa w W)=>LC h (Lz ll ma mb y z b3 p1 W (h11.below h.below) (h33.below h.below) (by simp only [BT.list,List.length_append,List.length_cons] at hz' ⊢;omega)));have H3:=qH (fun W (h:Aa w W) c (hc:Av W (some ⟨c,0,none⟩) (.node (.node ll y ma) z mb))=>LC h (JF (.node ll y ma) mb r z x c pr W hc (hr.below h.below) (by simp only [BT.list,List.length_append,List.length_cons] at hz' ⊢;omega)));have HL:=qH (show ∀ w' p t,Av w' p t→t.list=(BT.node (.node ll y (.node ma z mb)) x r).list→Below w.heap.size w w'→DC _ w (.returned (.pointer p)) w' from fun w' p t h1 h2 h3=>⟨_,t,rfl,h1,h2,h3⟩);clear hz hz' h2 a1 a2 ht hl hr hb h11 h33;obtain⟨xk,xv⟩:=x;obtain⟨yk,yv⟩:=y;simp only at *;generalize ((BT.node ll (yk,yv) (.node ma z mb)).ht:Int)=A at *;generalize (r.ht:Int)=C at *;generalize (ll.ht:Int)=A1 at *;generalize ((BT.node ma z mb).ht:Int)=A3 at *;go_enter Tryz.func228,Tryz.ntmps228
 go_wp2_with fail
 have bk:Blk (w.alloc (.cells #[.string xk,.string xv] 36)) w.heap.size 36 #[.string xk,.string xv]:=Blk.new _ _ _;have s1:Aa w (w.alloc (.cells #[.string xk,.string xv] 36)):=Ad ((Below.refl _ _).alloc (Nat.le_refl _) _);generalize w.alloc (.cells #[.string xk,.string xv] 36)=w1 at *;have k0:w1.cell? ⟨w.heap.size,0,none⟩=some (.string xk):=bk.cell 0;have k1:w1.cell? ⟨w.heap.size,1,none⟩=some (.string xv):=bk.cell 1;clear bk;refine(H1.out _ s1).mono ?_;rintro e w' ⟨rfl,rfl⟩
 go_wp2_with fail
 refine(H2.out _ s1).mono ?_;rintro e w' ⟨rfl,rfl⟩
 go_wp2_with fail
 obtain⟨c0,c1,c2,c3,_⟩:=HB.out;have d0:=s1.cell c0;have d1:=s1.cell c1;have d2:=s1.cell c2;have d3:=s1.cell c3;clear c0 c1 c2 c3
 go_region_held3 (fun w'=>w'.cell? ⟨b,0,none⟩=some (.pointer p1)∧w'.cell? ⟨b,3,none⟩=some (.pointer (some ⟨b3,0,none⟩)))
  (go_keep)
  (first
    | (go_at_call 244;refine(HA.out _ (by exact s1)).mono ?_;clear HA;rintro en wJ ⟨rfl,rfl⟩)
    | (go_at_call 244;refine(HC.out _ (by exact s1)).mono ?_;clear HC;rintro en wJ ⟨rfl,rfl⟩))
 go_wp2_with fail
 go_region_held3 (fun w'=>w'.cell? ⟨b,0,none⟩=some (.pointer p1)∧w'.cell? ⟨b,1,none⟩=some (.string yk)∧w'.cell? ⟨b,2,none⟩=some (.string yv)∧w'.cell? ⟨b,3,none⟩=some (.pointer (some ⟨b3,0,none⟩)))
  (first|go_keep|exact⟨qJ _ _ d0,qJ _ _ d1,qJ _ _ d2,qJ _ _ d3⟩)
  (first
    | (go_at_call 245;refine(H4.out _ (by exact s1)).mono ?_;clear H4;rintro en wJ ⟨c,rfl,tJ,bJ,qJ⟩))
 have q0:=qJ _ _ k0;have q1:=qJ _ _ k1
 go_wp2_with fail
 refine(H3.out _ (by exact bJ) _ (by exact tJ)).mono ?_;rintro e w2 ⟨b',rfl,hT,hB,-⟩;go_wp2
 go_ret
 exact HL.out _ _ _ hT (by simp [BT.list]) hB.below
theorem Vl (l rl rr:BT) (x y:KV) (b:Nat) (pl:Option Addr) (w:World) (hl:Av w pl l) (hr:Av w (some ⟨b,0,none⟩) (.node rl y rr)) (hz:(BT.node l x (.node rl y rr)).list.length<4611686018427387904)
  (h2:(l.ht:Int)-(BT.node rl y rr).ht=-2) (ht:¬rr.ht<rl.ht) :
  Calls qP 228 #[.pointer pl,.agg #[.string x.1,.string x.2],.pointer (some ⟨b,0,none⟩)] w (DC (BT.node l x (.node rl y rr)).list w):=by
 have a1:=l.ht_le;have a2:=(BT.node rl y rr).ht_le;have hz':=hz;simp only [BT.list,List.length_append,List.length_cons] at hz' a1 a2;have hw:=(GO (A:=l.ht) (C:=(BT.node rl y rr).ht) (by omega) (by omega)).trans h2;have H1:=qH (fun W (h:Aa w W)=>Fu l pl W (hl.below h.below));have H2:=qH (fun W (h:Aa w W)=>Fu (BT.node rl y rr) (some ⟨b,0,none⟩) W (hr.below h.below));have hl0:=hr;obtain⟨b0,p1,p3,e0,hb,h11,h33⟩:=hl0
 cases e0
 have HB:=qH (Bh hb);have HA:=qH (fun W (h:Aa w W)=>Fu rr p3 W (h33.below h.below));have HC:=qH (fun W (h:Aa w W)=>Fu rl p1 W (h11.below h.below))
 have et:((rr.ht:Int)<(rl.ht:Int))↔False:=by rw [Int.ofNat_lt];simp only [ht]
 have H3:=qH (fun W (h:Aa w W)=>LC h (Lz l rl rr x y b pl W (hl.below h.below) (hr.below h.below) hz));have HL:=qH (show ∀ w' p t,Av w' p t→t.list=(BT.node l x (.node rl y rr)).list→Below w.heap.size w w'→DC _ w (.returned (.pointer p)) w' from fun w' p t h1 h2 h3=>⟨_,t,rfl,h1,h2,h3⟩);clear hz hz' h2 a1 a2 ht hl hr hb h11 h33;obtain⟨xk,xv⟩:=x;obtain⟨yk,yv⟩:=y;simp only at *;generalize (l.ht:Int)=A at *;generalize ((BT.node rl (yk,yv) rr).ht:Int)=C at *;generalize (rr.ht:Int)=A1 at *;generalize (rl.ht:Int)=A3 at *;go_enter Tryz.func228,Tryz.ntmps228
 go_wp2_with fail
 have bk:Blk (w.alloc (.cells #[.string xk,.string xv] 36)) w.heap.size 36 #[.string xk,.string xv]:=Blk.new _ _ _;have s1:Aa w (w.alloc (.cells #[.string xk,.string xv] 36)):=Ad ((Below.refl _ _).alloc (Nat.le_refl _) _);generalize w.alloc (.cells #[.string xk,.string xv] 36)=w1 at *;have k0:w1.cell? ⟨w.heap.size,0,none⟩=some (.string xk):=bk.cell 0;have k1:w1.cell? ⟨w.heap.size,1,none⟩=some (.string xv):=bk.cell 1;clear bk;refine(H1.out _ s1).mono ?_;rintro e w' ⟨rfl,rfl⟩
 go_wp2_with fail
 refine(H2.out _ s1).mono ?_;rintro e w' ⟨rfl,rfl⟩
 go_wp2_with fail
 obtain⟨c0,c1,c2,c3,_⟩:=HB.out;have d0:=s1.cell c0;have d1:=s1.cell c1;have d2:=s1.cell c2;have d3:=s1.cell c3;clear c0 c1 c2 c3
 go_region_held3 (fun w'=>w'.cell? ⟨b,0,none⟩=some (.pointer p1)∧w'.cell? ⟨b,3,none⟩=some (.pointer p3))
  (go_keep)
  (first
    | (go_at_call 244;refine(HA.out _ (by exact s1)).mono ?_;clear HA;rintro en wJ ⟨rfl,rfl⟩)
    | (go_at_call 244;refine(HC.out _ (by exact s1)).mono ?_;clear HC;rintro en wJ ⟨rfl,rfl⟩))
 go_wp2_with fail
 refine(H3.out _ (by exact s1)).mono ?_;rintro e w2 ⟨b',rfl,hT,hB,-⟩;go_wp2
 go_ret
 exact HL.out _ _ _ hT (by simp [BT.list]) hB.below
theorem Vm (l rl rr:BT) (x y:KV) (b:Nat) (pl:Option Addr) (w:World) (hl:Av w pl l) (hr:Av w (some ⟨b,0,none⟩) (.node rl y rr)) (hz:(BT.node l x (.node rl y rr)).list.length<4611686018427387904)
  (h2:(l.ht:Int)-(BT.node rl y rr).ht=-2) (ht:rr.ht<rl.ht) :
  Calls qP 228 #[.pointer pl,.agg #[.string x.1,.string x.2],.pointer (some ⟨b,0,none⟩)] w (DC (BT.node l x (.node rl y rr)).list w):=by
 have a1:=l.ht_le;have a2:=(BT.node rl y rr).ht_le;have hz':=hz;simp only [BT.list,List.length_append,List.length_cons] at hz' a1 a2;have hw:=(GO (A:=l.ht) (C:=(BT.node rl y rr).ht) (by omega) (by omega)).trans h2;have H1:=qH (fun W (h:Aa w W)=>Fu l pl W (hl.below h.below));have H2:=qH (fun W (h:Aa w W)=>Fu (BT.node rl y rr) (some ⟨b,0,none⟩) W (hr.below h.below));have hl0:=hr;obtain⟨b0,p1,p3,e0,hb,h11,h33⟩:=hl0
 cases e0
 obtain⟨ma,z,mb,rfl⟩:∃ ma z mb,rl=BT.node ma z mb:=by
  cases rl with
  | leaf=>exact absurd ht (by simp [BT.ht])
  | node ma z mb=>exact⟨_,_,_,rfl⟩
 have hin:=h11;obtain⟨b3,p4,p5,rfl,_,_,_⟩:=hin;have HB:=qH (Bh hb);have HA:=qH (fun W (h:Aa w W)=>Fu rr p3 W (h33.below h.below));have HC:=qH (fun W (h:Aa w W)=>Fu (BT.node ma z mb) (some ⟨b3,0,none⟩) W (h11.below h.below))
 have et:((rr.ht:Int)<((BT.node ma z mb).ht:Int))↔True:=by rw [Int.ofNat_lt];simp only [ht]
 have H4:=qH (fun W (h:Aa w W)=>LC h (JF ma mb rr z y b3 p3 W (h11.below h.below) (h33.below h.below) (by simp only [BT.list,List.length_append,List.length_cons] at hz' ⊢;omega)));have H3:=qH (fun W (h:Aa w W) c (hc:Av W (some ⟨c,0,none⟩) (.node ma z (.node mb y rr)))=>LC h (Lz l ma (.node mb y rr) x z c pl W (hl.below h.below) hc (by simp only [BT.list,List.length_append,List.length_cons] at hz' ⊢;omega)));have HL:=qH (show ∀ w' p t,Av w' p t→t.list=(BT.node l x (.node (.node ma z mb) y rr)).list→Below w.heap.size w w'→DC _ w (.returned (.pointer p)) w' from fun w' p t h1 h2 h3=>⟨_,t,rfl,h1,h2,h3⟩);clear hz hz' h2 a1 a2 ht hl hr hb h11 h33;obtain⟨xk,xv⟩:=x;obtain⟨yk,yv⟩:=y;simp only at *;generalize (l.ht:Int)=A at *;generalize ((BT.node (.node ma z mb) (yk,yv) rr).ht:Int)=C at *;generalize (rr.ht:Int)=A1 at *;generalize ((BT.node ma z mb).ht:Int)=A3 at *;go_enter Tryz.func228,Tryz.ntmps228
 go_wp2_with fail
 have bk:Blk (w.alloc (.cells #[.string xk,.string xv] 36)) w.heap.size 36 #[.string xk,.string xv]:=Blk.new _ _ _;have s1:Aa w (w.alloc (.cells #[.string xk,.string xv] 36)):=Ad ((Below.refl _ _).alloc (Nat.le_refl _) _);generalize w.alloc (.cells #[.string xk,.string xv] 36)=w1 at *;have k0:w1.cell? ⟨w.heap.size,0,none⟩=some (.string xk):=bk.cell 0;have k1:w1.cell? ⟨w.heap.size,1,none⟩=some (.string xv):=bk.cell 1;clear bk;refine(H1.out _ s1).mono ?_;rintro e w' ⟨rfl,rfl⟩
 go_wp2_with fail
 refine(H2.out _ s1).mono ?_;rintro e w' ⟨rfl,rfl⟩
 go_wp2_with fail
 obtain⟨c0,c1,c2,c3,_⟩:=HB.out;have d0:=s1.cell c0;have d1:=s1.cell c1;have d2:=s1.cell c2;have d3:=s1.cell c3;clear c0 c1 c2 c3
 go_region_held3 (fun w'=>w'.cell? ⟨b,0,none⟩=some (.pointer (some ⟨b3,0,none⟩))∧w'.cell? ⟨b,3,none⟩=some (.pointer p3))
  (go_keep)
  (first
    | (go_at_call 244;refine(HA.out _ (by exact s1)).mono ?_;clear HA;rintro en wJ ⟨rfl,rfl⟩)
    | (go_at_call 244;refine(HC.out _ (by exact s1)).mono ?_;clear HC;rintro en wJ ⟨rfl,rfl⟩))
 go_wp2_with fail
 go_region_held3 (fun w'=>w'.cell? ⟨b,0,none⟩=some (.pointer (some ⟨b3,0,none⟩))∧w'.cell? ⟨b,1,none⟩=some (.string yk)∧w'.cell? ⟨b,2,none⟩=some (.string yv)∧w'.cell? ⟨b,3,none⟩=some (.pointer p3))
  (first|go_keep|exact⟨qJ _ _ d0,qJ _ _ d1,qJ _ _ d2,qJ _ _ d3⟩)
  (first
    | (go_at_call 246;refine(H4.out _ (by exact s1)).mono ?_;clear H4;rintro en wJ ⟨c,rfl,tJ,bJ,qJ⟩))
 have q0:=qJ _ _ k0;have q1:=qJ _ _ k1
 go_wp2_with fail
 refine(H3.out _ (by exact bJ) _ (by exact tJ)).mono ?_;rintro e w2 ⟨b',rfl,hT,hB,-⟩;go_wp2
 go_ret
 exact HL.out _ _ _ hT (by simp [BT.list]) hB.below
theorem TR (l r:BT) (x:KV) (pl pr:Option Addr) (w:World) (hl:Av w pl l) (hr:Av w pr r) (hz:(BT.node l x r).list.length<4611686018427387904) :
  Calls qP 228 #[.pointer pl,.agg #[.string x.1,.string x.2],.pointer pr] w (DC (BT.node l x r).list w):=by
 by_cases h2:(l.ht:Int)-r.ht=2
 ·cases l with
  | leaf=>exact absurd h2 (by simp only [BT.ht];omega)
  | node ll y lr =>
    have hl':=hl;obtain⟨b,_,_,rfl,_⟩:=hl';by_cases ht:ll.ht<lr.ht
    ·exact Vk ll lr r y x b pr w hl hr hz h2 ht
    ·exact Vj ll lr r y x b pr w hl hr hz h2 ht
 ·by_cases h3:(l.ht:Int)-r.ht=-2
  ·cases r with
   | leaf=>exact absurd h3 (by simp only [BT.ht];omega)
   | node rl y rr =>
     have hr':=hr;obtain⟨b,_,_,rfl,_⟩:=hr';by_cases ht:rr.ht<rl.ht
     ·exact Vm l rl rr x y b pl w hl hr hz h3 ht
     ·exact Vl l rl rr x y b pl w hl hr hz h3 ht
  ·exact Qa l r x pl pr w hl hr hz h2 h3
def fA (L:List KV) (w0 W:World) (e:Ending) (w':World):Prop:=∃ p t,e=.returned (.pointer p)∧Av w' p t∧t.list=L∧Aa w0 w'∧∀ a v,W.cell? a=some v→w'.cell? a=some v
theorem NE {f:FuncId} {args:Array Value} {L:List KV} {w0 W:World} (hs:Aa w0 W) (h:Calls qP f args W (DC L W)):Calls qP f args W (fA L w0 W) :=
 h.mono fun _ _ ⟨p,t,he,ht,hl,hb⟩=>⟨p,t,he,ht,hl,Ad (Ae hs.below hb),fun _ _ hc=>(Ad hb).cell hc⟩
theorem Hj {a b:ByteArray} {n:Int} (h:kc a b=n) (w:World):Calls qP 166 #[.string a,.string b] w fun e w'=>e=.returned (.int .i64 n)∧w'=w:=h▸aD a b w
theorem aE (x:KV) (w:World):Calls qP 204 #[.pointer none,.agg #[.string x.1,.string x.2]] w (DC [x] w):=by
 have H:=qH (fun W (h:Aa w W)=>MN w .leaf .leaf x none none W h rfl rfl (by simp [BT.list]));obtain⟨xk,xv⟩:=x;simp only at *;go_enter Tryz.func204,Tryz.ntmps204
 go_wp2_with fail
 have bk:Blk (w.alloc (.cells #[.string xk,.string xv] 36)) w.heap.size 36 #[.string xk,.string xv]:=Blk.new _ _ _;have s1:Aa w (w.alloc (.cells #[.string xk,.string xv] 36)):=Ad ((Below.refl _ _).alloc (Nat.le_refl _) _);generalize w.alloc (.cells #[.string xk,.string xv] 36)=w1 at *;have k0:w1.cell? ⟨w.heap.size,0,none⟩=some (.string xk):=bk.cell 0;have k1:w1.cell? ⟨w.heap.size,1,none⟩=some (.string xv):=bk.cell 1;clear bk;refine(H.out _ (by exact s1)).mono ?_;rintro e w2 ⟨b',rfl,hT,hB⟩;go_wp2
 go_ret
 exact⟨_,_,rfl,hT,rfl,hB.below⟩
theorem XU (l r:BT) (x y:KV) (b:Nat) (w:World) (hT:Av w (some ⟨b,0,none⟩) (.node l y r)) (hu:Up (BT.node l y r).list) (hz:(BT.node l y r).list.length+1<4611686018427387904) (hk:kc x.1 y.1=-1)
  (ih:∀ p w,Av w p l→Up l.list→l.list.length+1<4611686018427387904→Calls qP 204 #[.pointer p,.agg #[.string x.1,.string x.2]] w (DC (Az l.list x.1 x.2) w)) :
  Calls qP 204 #[.pointer (some ⟨b,0,none⟩),.agg #[.string x.1,.string x.2]] w (DC (Az (BT.node l y r).list x.1 x.2) w):=by
 obtain⟨b0,pl,pr,e0,hb,hl,hr⟩:=hT
 cases e0
 have HN:=qH (Bh hb);have hu':=Fh hu;simp only [BT.list,List.length_append,List.length_cons] at hz;have H1:=qH (fun W (h:Aa w W)=>NE h (ih pl W (hl.below h.below) hu'.1 (by omega)))
 have H2:=qH (fun W (h:Aa w W) p' t' (h1:Av W p' t') (h2:t'.list=Az l.list x.1 x.2)=>NE h (TR t' r y p' pr W h1 (hr.below h.below) (by
  have:=CJ (k:=x.1) (v:=x.2) l.list
  simp only [BT.list,List.length_append,List.length_cons,h2];omega)))
 have HL:=qH (show ∀ t':BT,t'.list=Az l.list x.1 x.2→(BT.node t' y r).list=Az (BT.node l y r).list x.1 x.2 from fun t' h=>by simp only [BT.list,h];rw [Uw hk]);have HC:=qH (fun W=>Hj hk W);clear hb hu' hu hz ih hl hr hk;obtain⟨xk,xv⟩:=x;obtain⟨yk,yv⟩:=y;simp only at *;go_enter Tryz.func204,Tryz.ntmps204
 go_wp2_with fail
 have bk:Blk (w.alloc (.cells #[.string xk,.string xv] 36)) w.heap.size 36 #[.string xk,.string xv]:=Blk.new _ _ _;have s1:Aa w (w.alloc (.cells #[.string xk,.string xv] 36)):=Ad ((Below.refl _ _).alloc (Nat.le_refl _) _);generalize w.alloc (.cells #[.string xk,.string xv] 36)=w1 at *;have k0:w1.cell? ⟨w.heap.size,0,none⟩=some (.string xk):=bk.cell 0;have k1:w1.cell? ⟨w.heap.size,1,none⟩=some (.string xv):=bk.cell 1;clear bk;obtain⟨c0,c1,c2,c3,_⟩:=HN.out;have d0:=s1.cell c0;have d1:=s1.cell c1;have d2:=s1.cell c2;have d3:=s1.cell c3;clear c0 c1 c2 c3
 go_region_held3 (fun w'=>w'.cell? ⟨w.heap.size,0,none⟩=some (.string xk)∧w'.cell? ⟨w.heap.size,1,none⟩=some (.string xv)∧w'.cell? ⟨b,0,none⟩=some (.pointer pl)∧w'.cell? ⟨b,1,none⟩=some (.string yk)∧w'.cell? ⟨b,2,none⟩=some (.string yv)∧w'.cell? ⟨b,3,none⟩=some (.pointer pr))
  (go_keep)
  (first
    | (go_at_call 166;refine(HC.out _).mono ?_;rintro en wJ ⟨rfl,rfl⟩))
 go_wp2_with fail
 go_region_held3 (fun w'=>w'.cell? ⟨w.heap.size,0,none⟩=some (.string xk)∧w'.cell? ⟨w.heap.size,1,none⟩=some (.string xv)∧w'.cell? ⟨b,0,none⟩=some (.pointer pl)∧w'.cell? ⟨b,1,none⟩=some (.string yk)∧w'.cell? ⟨b,2,none⟩=some (.string yv)∧w'.cell? ⟨b,3,none⟩=some (.pointer pr))
  (first|go_keep|exact⟨qJ _ _ k0,qJ _ _ k1,qJ _ _ d0,qJ _ _ d1,qJ _ _ d2,qJ _ _ d3⟩|exact⟨qK _ _ (qJ _ _ k0),qK _ _ (qJ _ _ k1),qK _ _ (qJ _ _ d0),qK _ _ (qJ _ _ d1),qK _ _ (qJ _ _ d2),qK _ _ (qJ _ _ d3)⟩)
  (first
    | (go_at_call 204;refine(H1.out _ (by exact s1)).mono ?_;clear H1;rintro en wJ ⟨p',t',rfl,tJ,lJ,bJ,qJ⟩)
    | (go_at_call 228;refine(H2.out _ (by exact bJ) _ _ (by exact tJ) (by exact lJ)).mono ?_;clear H2;rintro en wK ⟨p'',t'',rfl,tK,lK,bK,qK⟩))
 go_wp2
 go_ret
 exact⟨_,_,rfl,tK,lK.trans (HL.out _ lJ),bK.below⟩
theorem Vn (l r:BT) (x y:KV) (b:Nat) (w:World) (hT:Av w (some ⟨b,0,none⟩) (.node l y r)) (hu:Up (BT.node l y r).list) (hz:(BT.node l y r).list.length+1<4611686018427387904) (hk:kc x.1 y.1=1)
  (ih:∀ p w,Av w p r→Up r.list→r.list.length+1<4611686018427387904→Calls qP 204 #[.pointer p,.agg #[.string x.1,.string x.2]] w (DC (Az r.list x.1 x.2) w)) :
  Calls qP 204 #[.pointer (some ⟨b,0,none⟩),.agg #[.string x.1,.string x.2]] w (DC (Az (BT.node l y r).list x.1 x.2) w):=by
 obtain⟨b0,pl,pr,e0,hb,hl,hr⟩:=hT
 cases e0
 have HN:=qH (Bh hb);have hu':=Fh hu;simp only [BT.list,List.length_append,List.length_cons] at hz;have H1:=qH (fun W (h:Aa w W)=>NE h (ih pr W (hr.below h.below) hu'.2.1 (by omega)))
 have H2:=qH (fun W (h:Aa w W) p' t' (h1:Av W p' t') (h2:t'.list=Az r.list x.1 x.2)=>NE h (TR l t' y pl p' W (hl.below h.below) h1 (by
  have:=CJ (k:=x.1) (v:=x.2) r.list
  simp only [BT.list,List.length_append,List.length_cons,h2];omega)))
 have HL:=qH (show ∀ t':BT,t'.list=Az r.list x.1 x.2→(BT.node l y t').list=Az (BT.node l y r).list x.1 x.2 from fun t' h=>by simp only [BT.list,h];rw [QN hu hk]);have HC:=qH (fun W=>Hj hk W);clear hb hu' hu hz ih hl hr hk;obtain⟨xk,xv⟩:=x;obtain⟨yk,yv⟩:=y;simp only at *;go_enter Tryz.func204,Tryz.ntmps204
 go_wp2_with fail
 have bk:Blk (w.alloc (.cells #[.string xk,.string xv] 36)) w.heap.size 36 #[.string xk,.string xv]:=Blk.new _ _ _;have s1:Aa w (w.alloc (.cells #[.string xk,.string xv] 36)):=Ad ((Below.refl _ _).alloc (Nat.le_refl _) _);generalize w.alloc (.cells #[.string xk,.string xv] 36)=w1 at *;have k0:w1.cell? ⟨w.heap.size,0,none⟩=some (.string xk):=bk.cell 0;have k1:w1.cell? ⟨w.heap.size,1,none⟩=some (.string xv):=bk.cell 1;clear bk;obtain⟨c0,c1,c2,c3,_⟩:=HN.out;have d0:=s1.cell c0;have d1:=s1.cell c1;have d2:=s1.cell c2;have d3:=s1.cell c3;clear c0 c1 c2 c3
 go_region_held3 (fun w'=>w'.cell? ⟨w.heap.size,0,none⟩=some (.string xk)∧w'.cell? ⟨w.heap.size,1,none⟩=some (.string xv)∧w'.cell? ⟨b,0,none⟩=some (.pointer pl)∧w'.cell? ⟨b,1,none⟩=some (.string yk)∧w'.cell? ⟨b,2,none⟩=some (.string yv)∧w'.cell? ⟨b,3,none⟩=some (.pointer pr))
  (go_keep)
  (first
    | (go_at_call 166;refine(HC.out _).mono ?_;rintro en wJ ⟨rfl,rfl⟩))
 go_wp2_with fail
 go_region_held3 (fun w'=>w'.cell? ⟨w.heap.size,0,none⟩=some (.string xk)∧w'.cell? ⟨w.heap.size,1,none⟩=some (.string xv)∧w'.cell? ⟨b,0,none⟩=some (.pointer pl)∧w'.cell? ⟨b,1,none⟩=some (.string yk)∧w'.cell? ⟨b,2,none⟩=some (.string yv)∧w'.cell? ⟨b,3,none⟩=some (.pointer pr))
  (first|go_keep|exact⟨qJ _ _ k0,qJ _ _ k1,qJ _ _ d0,qJ _ _ d1,qJ _ _ d2,qJ _ _ d3⟩|exact⟨qK _ _ (qJ _ _ k0),qK _ _ (qJ _ _ k1),qK _ _ (qJ _ _ d0),qK _ _ (qJ _ _ d1),qK _ _ (qJ _ _ d2),qK _ _ (qJ _ _ d3)⟩)
  (first
    | (go_at_call 204;refine(H1.out _ (by exact s1)).mono ?_;clear H1;rintro en wJ ⟨p',t',rfl,tJ,lJ,bJ,qJ⟩)
    | (go_at_call 228;refine(H2.out _ (by exact bJ) _ _ (by exact tJ) (by exact lJ)).mono ?_;clear H2;rintro en wK ⟨p'',t'',rfl,tK,lK,bK,qK⟩))
 go_wp2
 go_ret
 exact⟨_,_,rfl,tK,lK.trans (HL.out _ lJ),bK.below⟩
theorem XV (l r:BT) (x y:KV) (b:Nat) (w:World) (hT:Av w (some ⟨b,0,none⟩) (.node l y r)) (hu:Up (BT.node l y r).list) (hz:(BT.node l y r).list.length+1<4611686018427387904) (hk:kc x.1 y.1=0) :
  Calls qP 204 #[.pointer (some ⟨b,0,none⟩),.agg #[.string x.1,.string x.2]] w (DC (Az (BT.node l y r).list x.1 x.2) w):=by
 obtain⟨b0,pl,pr,e0,hb,hl,hr⟩:=hT
 cases e0
 have HN:=qH (Bh hb);have H1:=qH (fun W (h:Aa w W)=>LC h (cQ l r x pl pr W (hl.below h.below) (hr.below h.below) (by simp only [BT.list,List.length_append,List.length_cons] at hz ⊢;omega)));have HL:=qH (show(BT.node l x r).list=Az (BT.node l y r).list x.1 x.2 by simp only [BT.list];rw [Mp hu hk]);have HC:=qH (fun W=>Hj hk W);clear hb hu hz hl hr hk;obtain⟨xk,xv⟩:=x;obtain⟨yk,yv⟩:=y;simp only at *;go_enter Tryz.func204,Tryz.ntmps204
 go_wp2_with fail
 have bk:Blk (w.alloc (.cells #[.string xk,.string xv] 36)) w.heap.size 36 #[.string xk,.string xv]:=Blk.new _ _ _;have s1:Aa w (w.alloc (.cells #[.string xk,.string xv] 36)):=Ad ((Below.refl _ _).alloc (Nat.le_refl _) _);generalize w.alloc (.cells #[.string xk,.string xv] 36)=w1 at *;have k0:w1.cell? ⟨w.heap.size,0,none⟩=some (.string xk):=bk.cell 0;have k1:w1.cell? ⟨w.heap.size,1,none⟩=some (.string xv):=bk.cell 1;clear bk;obtain⟨c0,c1,c2,c3,_⟩:=HN.out;have d0:=s1.cell c0;have d1:=s1.cell c1;have d2:=s1.cell c2;have d3:=s1.cell c3;clear c0 c1 c2 c3
 go_region_held3 (fun w'=>w'.cell? ⟨w.heap.size,0,none⟩=some (.string xk)∧w'.cell? ⟨w.heap.size,1,none⟩=some (.string xv)∧w'.cell? ⟨b,0,none⟩=some (.pointer pl)∧w'.cell? ⟨b,1,none⟩=some (.string yk)∧w'.cell? ⟨b,2,none⟩=some (.string yv)∧w'.cell? ⟨b,3,none⟩=some (.pointer pr))
  (go_keep)
  (first
    | (go_at_call 166;refine(HC.out _).mono ?_;rintro en wJ ⟨rfl,rfl⟩))
 go_wp2_with fail
 go_region_held3 (fun w'=>w'.cell? ⟨w.heap.size,0,none⟩=some (.string xk)∧w'.cell? ⟨w.heap.size,1,none⟩=some (.string xv)∧w'.cell? ⟨b,0,none⟩=some (.pointer pl)∧w'.cell? ⟨b,1,none⟩=some (.string yk)∧w'.cell? ⟨b,2,none⟩=some (.string yv)∧w'.cell? ⟨b,3,none⟩=some (.pointer pr))
  (first|go_keep|exact⟨qJ _ _ k0,qJ _ _ k1,qJ _ _ d0,qJ _ _ d1,qJ _ _ d2,qJ _ _ d3⟩)
  (first
    | (go_at_call 227;refine(H1.out _ (by exact s1)).mono ?_;clear H1;rintro en wJ ⟨b',rfl,tJ,bJ,qJ⟩))
 go_wp2
 go_ret
 exact⟨_,_,rfl,tJ,HL.out,bJ.below⟩
theorem iL (x:KV) (t:BT):∀ p w,Av w p t→Up t.list→t.list.length+1<4611686018427387904→Calls qP 204 #[.pointer p,.agg #[.string x.1,.string x.2]] w (DC (Az t.list x.1 x.2) w):=by
 induction t with
 | leaf =>
   intro p w hT _ _;obtain rfl:p=none:=hT;exact aE x w
 | node l y r ihl ihr =>
   intro p w hT hu hz;have hT':=hT;obtain⟨b,_,_,rfl,_⟩:=hT'
   rcases De x.1 y.1 with h|h|h
   ·exact XU l r x y b w hT hu hz h ihl
   ·exact XV l r x y b w hT hu hz h
   ·exact Vn l r x y b w hT hu hz h ihr

theorem iM (k:ByteArray) (t:BT) (p:Option Addr) (w:World) (hT:Av w p t) (hu:Up t.list) :
  Calls qP 133 #[.pointer p,.string k] w fun e w'=>e=.returned (Dl (AD t.list k))∧w'=w:=by
 have HC:=qH (fun x n (h:kc k x=n) W=>Hj h W);obtain⟨n0,hn0⟩:∃ n0,n0=t.list.length:=⟨_,rfl⟩;obtain⟨r,hr⟩:∃ r,r=AD t.list k:=⟨_,rfl⟩;rw [←hr];have H0:=qH (And.intro hT (And.intro hu (And.intro hn0 hr)));clear hT hu hn0 hr;go_enter Tryz.func133,Tryz.ntmps133;go_wp2
 go_loopg [0] n0 (fun g v wr=>wr=w∧∃ q s,v=.pointer q∧Hid (Av w q s∧Up s.list∧g=s.list.length∧r=AD s.list k))
 case atStart=>exact⟨rfl,_,_,rfl,H0⟩
 case round =>
  obtain⟨rfl,q,s,rfl,HS⟩:=hrel
  cases s with
  | leaf =>
    obtain rfl:q=none:=HS.out.1;go_wp2
    go_returns
    obtain rfl:r=none:=HS.out.2.2.2;exact⟨rfl,rfl⟩
  | node l y rr =>
    obtain⟨hT,hu,hg,hr⟩:=HS.out;clear HS;obtain⟨b,pl,pr,rfl,hb,hl,hr2⟩:=hT;have hm:=Fh hu;obtain⟨c0,c1,c2,c3,_⟩:=Bh hb;obtain⟨yk,yv⟩:=y;simp only at *;simp only [BT.list,List.length_append,List.length_cons] at hg
    rcases De k yk with h|h|h
    ·have HQ:=HC.out yk _ h
     have HS2:=qH (show Av wr pl l∧Up l.list∧l.list.length=l.list.length∧r=AD l.list k from⟨hl,hm.1,rfl,by rw [hr,BT.list,Ux hu h]⟩);have HG:=qH (show l.list.length<gk by omega);clear hb hl hr2 hm hu h hr hg
     go_wp2_with fail
     refine(HQ _).mono ?_;rintro e w' ⟨rfl,rfl⟩;go_wp2
     go_roundg l.list.length
     case measure=>exact HG.out
     case rel=>exact⟨rfl,_,_,rfl,qH ⟨HS2.out.1,HS2.out.2.1,rfl,HS2.out.2.2.2⟩⟩
    ·have HQ:=HC.out yk _ h
     have HS2:=qH (show r=some yv by rw [hr,BT.list,Uy hu h]);clear hb hl hr2 hm hu h hr hg
     go_wp2_with fail
     refine(HQ _).mono ?_;rintro e w' ⟨rfl,rfl⟩;go_wp2
     go_returns
     rw [HS2.out];exact⟨rfl,rfl⟩
    ·have HQ:=HC.out yk _ h
     have HS2:=qH (show Av wr pr rr∧Up rr.list∧rr.list.length=rr.list.length∧r=AD rr.list k from⟨hr2,hm.2.1,rfl,by rw [hr,BT.list,QO hu h]⟩);have HG:=qH (show rr.list.length<gk by omega);clear hb hl hr2 hm hu h hr hg
     go_wp2_with fail
     refine(HQ _).mono ?_;rintro e w' ⟨rfl,rfl⟩;go_wp2
     go_roundg rr.list.length
     case measure=>exact HG.out
     case rel=>exact⟨rfl,_,_,rfl,qH ⟨HS2.out.1,HS2.out.2.1,rfl,HS2.out.2.2.2⟩⟩
end Go.Proofs.YtkejaepmoabikaaGreatDoor.W
namespace Go.Proofs.YtkejaepmoabikaaGreatDoor.W
section
variable {F:Fence} {n:Nat} {P:Program} {ops:Array Oper} {Q:Exit→Act→World→Prop} {md:Region.Mode}
theorem qI (i:Nat) {oi:Oper} {v:Value} {fuel:Nat} {listed:Array Bool} {a:Act} {w:World} (h:wpAnyIn F n P md ops Q fuel (listed.setIfInBounds i true) (a.put oi.dst v) w) (hro:F.round=none:=by rfl) (hi:ops[i]?=some oi:=by rfl)
  (hs:Region.noSelect ops=true:=by kernel_rfl) (hf:Region.free md ops listed i=true:=by kernel_rfl) (hr:(Region.ready md ops listed).contains i=true:=by kernel_rfl)
  (hQ:∀ c a w,Q (.panic c) (a.put oi.dst v) w→Q (.panic c) a w:=by exact fun _ _ _ h=>h) (hy:YieldsFenced P ops oi v a:=by exact⟨Or.inl ⟨by rfl,fun w=>by go_simp;rfl⟩,fun _=>rfl⟩):wpAnyIn F n P md ops Q (fuel+1) listed a w:=wpAnyIn_take hro hi hs hf hr hQ hy h
theorem qJ (i:Nat) {oi:Oper} {fuel:Nat} {listed:Array Bool} {a:Act} {w:World} (h:wpAnyIn F n P md ops Q fuel (listed.setIfInBounds i true) (a.put oi.dst undef) w) (hro:F.round=none:=by rfl) (hi:ops[i]?=some oi:=by rfl)
  (hs:Region.noSelect ops=true:=by kernel_rfl) (hf:Region.free md ops listed i=true:=by kernel_rfl) (hr:(Region.ready md ops listed).contains i=true:=by kernel_rfl)
  (hQ:∀ c a w,Q (.panic c) (a.put oi.dst undef) w→Q (.panic c) a w:=by exact fun _ _ _ h=>h) (hy:YieldsFenced P ops oi undef a:=by exact⟨Or.inr ⟨by rfl,rfl⟩,fun _=>rfl⟩):wpAnyIn F n P md ops Q (fuel+1) listed a w:=wpAnyIn_take hro hi hs hf hr hQ hy h
theorem qK (i:Nat) {o:Oper} {fuel:Nat} {listed:Array Bool} {a:Act} {w:World} (h:∀ K':Act→World→Prop,(∀ a w,wpAnyIn F n P md ops Q fuel (listed.setIfInBounds i true) a w→K' a w)→if Region.wanted o (yielded ops a.tmps)=true then Oper.wpIn F n P o a w K' Q else (∀ f,o.about P w a.eval=some f→F.fn f)∧K' (a.put o.dst undef) w)
  (hr:Region.ready md ops listed=[i]:=by decide +kernel) (ho:ops[i]?=some o:=by rfl):wpAnyIn F n P md ops Q (fuel+1) listed a w:=wpAnyIn_ready hr (by simp) (AllReadyIn.cons ho h AllReadyIn.nil)
theorem qK2 (i j:Nat) {o o':Oper} {fuel:Nat} {listed:Array Bool} {a:Act} {w:World} (h:∀ K':Act→World→Prop,(∀ a w,wpAnyIn F n P md ops Q fuel (listed.setIfInBounds i true) a w→K' a w)→if Region.wanted o (yielded ops a.tmps)=true then Oper.wpIn F n P o a w K' Q else (∀ f,o.about P w a.eval=some f→F.fn f)∧K' (a.put o.dst undef) w)
  (h':∀ K':Act→World→Prop,(∀ a w,wpAnyIn F n P md ops Q fuel (listed.setIfInBounds j true) a w→K' a w)→if Region.wanted o' (yielded ops a.tmps)=true then Oper.wpIn F n P o' a w K' Q else (∀ f,o'.about P w a.eval=some f→F.fn f)∧K' (a.put o'.dst undef) w)
  (hr:Region.ready md ops listed=[i,j]:=by decide +kernel) (ho:ops[i]?=some o:=by rfl) (ho':ops[j]?=some o':=by rfl):wpAnyIn F n P md ops Q (fuel+1) listed a w:=wpAnyIn_ready hr (by simp) (AllReadyIn.cons ho h (AllReadyIn.cons ho' h' AllReadyIn.nil))
end
end Go.Proofs.YtkejaepmoabikaaGreatDoor.W
namespace Go.Proofs.YtkejaepmoabikaaGreatDoor.W
open Go.RowKit
structure At (S:Nat→Prop) (W W':World):Prop where
 os:W'.os=W.os
 tape:W'.tape=W.tape
 output:W'.output=W.output
 size:W.heap.size≤W'.heap.size
 block:∀ i,i<W.heap.size→¬S i→W'.heap[i]?=W.heap[i]?
def AR (S S':Nat→Prop) (W:World):Prop:=∀ i,S' i→S i∨W.heap.size≤i
section
variable {S S' S'':Nat→Prop} {A B C:World}
theorem At.refl (S:Nat→Prop) (W:World):At S W W:=⟨rfl,rfl,rfl,Nat.le_refl _,fun _ _ _=>rfl⟩
theorem AR.refl (S:Nat→Prop) (W:World):AR S S W:=fun _ h=>.inl h
theorem AR.trans (h:AR S S' A) (k:AR S' S'' B) (hs:A.heap.size≤B.heap.size):AR S S'' A:=fun i hi=>(k i hi).elim (h i) (fun h2=>.inr (by omega))
theorem AR.not (h:AR S S' A) {i:Nat} (hi:i<A.heap.size) (hn:¬S i):¬S' i:=fun h2=>(h i h2).elim hn (fun h3=>by omega)
theorem At.trans (h:At S A B) (hg:AR S S' A) (k:At S' B C):At S A C :=
 ⟨k.os.trans h.os,k.tape.trans h.tape,k.output.trans h.output,Nat.le_trans h.size k.size,fun i hi hn=>(k.block i (Nat.lt_of_lt_of_le hi h.size) (hg.not hi hn)).trans (h.block i hi hn)⟩
theorem At.step (h:At S A B) (k:At S B C):At S A C:=h.trans (AR.refl S A) k
theorem At.of_below (S:Nat→Prop) (h:Below A.heap.size A B):At S A B:=⟨h.os,h.tape,h.output,h.size,fun i hi _=>h.block i hi⟩
theorem At.of_grown {row:Option Nat} (h:A.grownBy B row) (hr:∀ r,row=some r→S r∨A.heap.size≤r):At S A B :=
 ⟨h.os,h.tape,h.output,h.size,fun i hi hn=>h.block i hi (fun e=>(hr i e.symm).elim hn (fun h=>by omega))⟩
theorem At.cell (h:At S A B) {p:Addr} {v:Value} (hc:A.cell? p=some v) (hn:¬S p.block):B.cell? p=some v:=(World.cell?_of_block (h.block _ (World.block_lt_of_cell? A _ hc) hn)).trans hc
theorem At.blk (h:At S A B) {g:Nat} {t:TypeId} {cs:Array Value} (hb:Blk A g t cs) (hn:¬S g):Blk B g t cs:=(h.block _ hb.lt hn).trans hb
theorem At.below {n:Nat} (h:At S A B) (hn:n≤A.heap.size) (hS:∀ i,S i→n≤i):Below n A B:=⟨h.os,h.tape,h.output,h.size,fun i hi=>h.block i (by omega) (fun e=>by have:=hS i e;omega)⟩
theorem At.more (h:At S A B) (hS:∀ i,i<A.heap.size→S i→S' i):At S' A B:=⟨h.os,h.tape,h.output,h.size,fun i hi hn=>h.block i hi (fun e=>hn (hS i hi e))⟩
end
def Bo (go:List KV→Bool):List KV→List KV→Option (List KV)
 | _,[]=>none
 | pre,y::ys=>if go (pre++[y]) then Bo go (pre++[y]) ys else some (pre++[y])
theorem DW (go:List KV→Bool):∀(a pre b:List KV),Bo go pre (a++b)=(Bo go pre a).or (Bo go (pre++a) b)
 | [],pre,b=>by simp [Bo]
 | y::a,pre,b=>by
   simp only [List.cons_append,Bo]
   split
   ·rw [DW go a];simp
   ·rfl
abbrev Inv:=List KV→(Nat→Prop)→World→Prop
def Cn (B:Nat) (J:Inv):Prop:=∀ pre S W W' row,J pre S W→W.grownBy W' row→(∀ r,row=some r→B≤r∧¬S r)→J pre S W'
def NG (J:Inv):Prop:=∀ pre S W,J pre S W→∀ i,S i→i<W.heap.size
theorem Cn.mono {B B':Nat} {J:Inv} (h:Cn B J) (hB:B≤B'):Cn B' J:=fun pre S W W' row hs hg hr=>h pre S W W' row hs hg (fun r e=>⟨by have:=(hr r e).1;omega,(hr r e).2⟩)
theorem Cn.alloc {B:Nat} {J:Inv} (h:Cn B J) {pre:List KV} {S:Nat→Prop} {W:World} (hs:J pre S W) (ob:Obj):J pre S (W.alloc ob):=h pre S W _ none hs (World.grownBy_alloc W ob none) (fun r e=>by cases e)
theorem Cn.drew {B:Nat} {J:Inv} (h:Cn B J) {pre:List KV} {S:Nat→Prop} {W:World} (hs:J pre S W):J pre S W.drew:=h pre S W _ none hs ⟨rfl,rfl,rfl,Nat.le_refl _,fun _ _ _=>rfl⟩ (fun r e=>by cases e)
theorem Cn.below {B:Nat} {J:Inv} (h:Cn B J) {pre:List KV} {S:Nat→Prop} {W W':World} (hs:J pre S W) (hb:Below W.heap.size W W'):J pre S W':=h pre S W W' none hs ⟨hb.os,hb.tape,hb.output,hb.size,fun k hk _=>hb.block k hk⟩ (fun r e=>by cases e)
def Fv (go:List KV→Bool) (J Jx:Inv) (pre ys:List KV) (S:Nat→Prop) (W:World):Prop:=match Bo go pre ys with
 | none=>J (pre++ys) S W
 | some q=>Jx q S W
section
variable {go:List KV→Bool} {J Jx:Inv} {pre ys q:List KV} {S:Nat→Prop} {W:World}
theorem Fv.all (h:Fv go J Jx pre ys S W) (hs:Bo go pre ys=none):J (pre++ys) S W:=by unfold Fv at h;rw [hs] at h;exact h
theorem Fv.stop (h:Fv go J Jx pre ys S W) (hs:Bo go pre ys=some q):Jx q S W:=by unfold Fv at h;rw [hs] at h;exact h
theorem JG (hs:Bo go pre ys=none) (h:J (pre++ys) S W):Fv go J Jx pre ys S W:=by unfold Fv;rw [hs];exact h
theorem Ip (hs:Bo go pre ys=some q) (h:Jx q S W):Fv go J Jx pre ys S W:=by unfold Fv;rw [hs];exact h
end
def TS (go:List KV→Bool) (J Jx:Inv) (q:List KV) (S:Nat→Prop) (W1:World) (e:Ending) (W':World):Prop :=
 e=.returned (.bool (go q))∧At S W1 W'∧∃ S',AR S S' W1∧(go q=true→J q S' W')∧(go q=false→Jx q S' W')
def LD (P:Program) (g:Nat) (lb:Array Value) (xs:List KV) (o:Nat→Prop) (w:World):Prop :=
 ∀(n l:Nat) (go:List KV→Bool) (J Jx:Inv) (S:Nat→Prop) (W:World),Below w.heap.size w W→Cn W.heap.size J→Cn W.heap.size Jx→NG J →
  (∀ k pre x S W1,J pre S W1→(pre++[x]) <+: xs→YieldAt Fence.wide k P l #[.string x.1,.string x.2] W1 (TS go J Jx (pre++[x]) S W1)) →
  J [] S W→(∀ i,i<w.heap.size→S i→o i) →
  CallsIn Fence.wide n P g (#[.func (.yield l) #[] #[]]++lb) W fun e W'=>(∃ v,e=.returned v)∧At S W W'∧∃ S',AR S S' W∧Fv go J Jx [] xs S' W'
theorem LD.later {P:Program} {g:Nat} {lb:Array Value} {xs:List KV} {o:Nat→Prop} {w w':World} (h:LD P g lb xs o w) (hb:Below w.heap.size w w'):LD P g lb xs o w' :=
 fun n l go J Jx S W hW h1 h2 h3 h4 h5 h6=>h n l go J Jx S W (hb.trans (hW.mono hb.size)) h1 h2 h3 h4 h5 (fun i hi=>h6 i (Nat.lt_of_lt_of_le hi hb.size))
def iN (go:List KV→Bool) (I:Inv) (Ix:Code→Inv) (q:List KV) (S:Nat→Prop) (W:World):Exit→Act→World→Prop
 | .normal,_,W'=>go q=true∧At S W W'∧∃ S',AR S S' W∧I q S' W'
 | .ret,_,W'=>go q=false∧At S W W'∧∃ S',AR S S' W∧Ix .ret q S' W'
 | .exit id,_,W'=>go q=false∧At S W W'∧∃ S',AR S S' W∧Ix (.exit id) q S' W'
 | .goto t,_,W'=>go q=false∧At S W W'∧∃ S',AR S S' W∧Ix (.goto t) q S' W'
 | .panic _,_,_=>False
 | .outgrown,_,_=>False
structure Fd (R:LoopState→Option Code→Loop) (D:Nat) (st:LoopState) (pe:Option Code) (W:World):Prop where
 loop:W.heap[D+1]?=some (.loop (R st pe))
 off:W.heap[D]?=some (.deferred (some []))
section
variable {R:LoopState→Option Code→Loop} {D:Nat} {st:LoopState} {pe:Option Code} {W W':World}
theorem Fd.lt (h:Fd R D st pe W):D+1<W.heap.size:=(Array.getElem?_eq_some_iff.1 h.loop).1
theorem Fd.keep {S:Nat→Prop} (h:Fd R D st pe W) (k:At S W W') (h0:¬S D) (h1:¬S (D+1)):Fd R D st pe W':=⟨(k.block _ h.lt h1).trans h.loop,(k.block _ (by have:=h.lt;omega) h0).trans h.off⟩
theorem Fd.turn (h:Fd R D st pe W) (st':LoopState) (pe':Option Code):Fd R D st' pe' (W.putObj (D+1) (.loop (R st' pe'))) :=
 ⟨World.putObj_heap_same h.lt,(World.putObj_heap_other (by omega)).trans h.off⟩
theorem Fd.grown {row:Option Nat} (h:Fd R D st pe W) (hg:W.grownBy W' row) (hr:∀ r,row=some r→D+1<r):Fd R D st pe W':=by
 have h1:=h.lt;exact⟨(hg.block _ h1 (fun e=>by have:=hr _ e.symm;omega)).trans h.loop,(hg.block _ (by omega) (fun e=>by have:=hr _ e.symm;omega)).trans h.off⟩
end
def NH (S:Nat→Prop) (D:Nat):Nat→Prop:=fun i=>S i∨i=D∨i=D+1
def XW (R:LoopState→Option Code→Loop) (D:Nat) (I:Inv) (st:LoopState) (pe:Option Code):Inv:=fun pre S W=>∃ S₁,S=NH S₁ D∧¬S₁ D∧¬S₁ (D+1)∧I pre S₁ W∧Fd R D st pe W
theorem Ka {R:LoopState→Option Code→Loop} {D B:Nat} {I:Inv} (hI:Cn D I) (hB:D+1<B) (st:LoopState) (pe:Option Code):Cn B (XW R D I st pe):=fun pre S W W' row hs hg hr=>by
 obtain⟨S₁,rfl,n0,n1,hi,hk⟩:=hs;exact⟨S₁,rfl,n0,n1,hI _ _ _ _ _ hi hg (fun r e=>⟨by have:=(hr r e).1;omega,fun h=>(hr r e).2 (.inl h)⟩),hk.grown hg (fun r e=>by have:=(hr r e).1;omega)⟩
section
variable {P:Program} {n:Nat}
theorem MO {g:Operand} {ps:Array Tmp} {assign body:Code} {Q:Exit→Act→World→Prop} {a:Act} {w w0:World} {gf:Nat} {lb:Array Value} {xs:List KV} {o:Nat→Prop}
  (hg:a.eval g=.func (.func gf) #[] lb) (eg:∀ args w,(callFunc gf args).run P w=.ok (.enter gf args) w)
  (hseq:LD P gf lb xs o w0) (hb0:Below w0.heap.size w0 w) (hps:ps.size=2)
  (go:List KV→Bool) (I:Inv) (Ix:Code→Inv) (hI:Cn w.heap.size I) (hIx:∀ c,Cn w.heap.size (Ix c)) (hIb:NG I) (S:Nat→Prop) (h0:I [] S w) (hS:∀ i,i<w0.heap.size→S i→o i) (a₁:KV→Act)
  (hassign:∀(l k:Nat) (x:KV) (W:World) (K:Act→World→Prop),K (a₁ x) W →
    assign.wpIn (Fence.wide.inRound l) k P (Exit.then K (fun _ _ _=>False)) { tmps:=(ps.zip #[.string x.1,.string x.2]).foldl (fun t (p,v)=>t.setIfInBounds p v) a.tmps,defers:=[] } W)
  (hbody:∀(l k:Nat) (pre:List KV) (x:KV) (S:Nat→Prop) (W:World),I pre S W→(pre++[x]) <+: xs→body.wpIn (Fence.wide.inRound l) k P (iN go I Ix (pre++[x]) S W) (a₁ x) W)
  (hdone:∀(D:Nat) (S':Nat→Prop) (W:World),w.heap.size≤D→Bo go [] xs=none→At S w W→AR S S' w→¬S' D→I xs S' W→W.heap[D]?=some (.deferred (some []))→Q .normal { a with defers:={ target:=.collected D,args:=#[] }::a.defers } W)
  (hstop:∀(D:Nat) (c:Code) (q:List KV) (S':Nat→Prop) (W:World),w.heap.size≤D→Bo go [] xs=some q→At S w W→AR S S' w→¬S' D→Ix c q S' W→W.heap[D]?=some (.deferred (some []))→c.wpIn Fence.wide n P Q { a with defers:={ target:=.collected D,args:=#[] }::a.defers } W) :
  (Code.rangeFunc g ps assign body).wpIn Fence.wide n P Q a w:=by
 refine wpIn_rangeFunc fun fn hfn=>?_;obtain⟨R,hR⟩:∃ R:LoopState→Option Code→Loop,R=fun st pe=>{ state:=st,pending:=pe,fn,tmps:=a.tmps,params:=ps,assign,body,defers:=w.heap.size }:=⟨_,rfl⟩;obtain⟨W1,hW1⟩:∃ W1,W1=(w.alloc (.deferred (some []))).alloc (.loop (R .ready none)):=⟨_,rfl⟩
 have hz:W1.heap.size=w.heap.size+1+1:=by rw [hW1];simp
 have hbel:Below w.heap.size w W1:=by rw [hW1];exact((Below.refl _ w).alloc (Nat.le_refl _) _).alloc (by simp) _
 have books1:Fd R w.heap.size .ready none W1:=by
  rw [hW1];refine⟨?_,(Below.heap_alloc _ _ _ (by simp)).trans (World.alloc_heap_new w _)⟩;have:=World.alloc_heap_new (w.alloc (.deferred (some []))) (.loop (R .ready none))
  rwa [World.size_alloc] at this
 have hI1:I [] S W1:=hI.below h0 hbel
 have nS:∀ i,w.heap.size≤i→¬S i:=fun i hi h=>by have:=hIb _ _ _ h0 i h;omega
 refine⟨w.heap.size+1,[{ target:=.collected w.heap.size,args:=#[] }],W1,{ target:=.fn (.func gf) lb,args:=#[.func (.yield (w.heap.size+1)) #[] #[]] },W1,gf,
  #[.func (.yield (w.heap.size+1)) #[] #[]]++lb,W1,?_,?_,fun _ _=>trivial,?_,fun hd=>(by cases hd),?_⟩
 ·rw [hW1,hR];exact run_enterLoop_outer _ _ _ _ _
 ·simp only [resolve,hg]
  simp [go_sem]
 ·simp [invoke,go_sem,eg]
 refine(hseq (n-1) (w.heap.size+1) go (XW R w.heap.size I .ready none) (fun q S W=>∃ c,XW R w.heap.size (Ix c) .done (some c) q S W) (NH S w.heap.size) W1
  (hb0.trans (hbel.mono hb0.size)) (Ka hI (by omega) _ _)
  (fun pre S W W' row hs hg hr=>by obtain⟨c,hc⟩:=hs;exact⟨c,Ka (hIx c) (by omega) _ _ pre S W W' row hc hg hr⟩)
  (fun pre S W hs i hi=>by
    obtain⟨S₁,rfl,_,_,h1,hk⟩:=hs;have:=hk.lt
    rcases hi with hi|rfl|rfl
    ·exact hIb _ _ _ h1 i hi
    ·omega
    ·omega)
  ?_ ⟨S,rfl,nS _ (Nat.le_refl _),nS _ (by omega),hI1,books1⟩
  (fun i hi hs=>by
    have:=hb0.size
    rcases hs with hs|rfl|rfl
    ·exact hS i hi hs
    ·omega
    ·omega)).mono ?_
 ·rintro k pre x _ W ⟨S₁,rfl,n0,n1,hi,hk⟩ hpre
  have hy:=run_yield (P:=P) (args:=#[.string x.1,.string x.2]) hk.loop (by rw [hR];simp [hps]);have hbeg:=run_beginRound (P:=P) hk.loop (by rw [hR])
  rw [show({ R .ready none with state:=.busy }:Loop)=R .busy none by rw [hR]] at hbeg
  have hk2:=hk.turn .busy none;have hi2:I pre S₁ (W.putObj (w.heap.size+1) (.loop (R .busy none))):=hI _ _ _ _ _ hi (grownBy_putObj' W _ _) (fun r e=>by cases e;exact⟨by omega,n1⟩);have keepPut:∀(U:World) (ob:Obj),At (NH S₁ w.heap.size) U (U.putObj (w.heap.size+1) ob):=fun U ob=>At.of_grown (grownBy_putObj' _ _ _) (fun r e=>by cases e;exact .inl (.inr (.inr rfl)));have hlt:=hk.lt;rw [hR] at hy;refine⟨fn,_,assign,body,hy,roundIn_of_wpIn hfn (hassign _ _ x W _ ⟨_,hbeg,?_⟩)⟩;refine wpIn_mono (hbody _ _ pre x S₁ _ hi2 hpre) ?_
  have fin:∀(jump:Option Code) (W3:World) (S₂:Nat→Prop),At S₁ (W.putObj (w.heap.size+1) (.loop (R .busy none))) W3→AR S₁ S₂ (W.putObj (w.heap.size+1) (.loop (R .busy none))) →
    (Instr.endRound (w.heap.size+1) jump).run P W3=.ok (.bool jump.isNone) (W3.putObj (w.heap.size+1) (.loop (R (if jump.isNone then .ready else .done) jump)))∧Fd R w.heap.size .busy none W3 ∧
    At (NH S₁ w.heap.size) W (W3.putObj (w.heap.size+1) (.loop (R (if jump.isNone then .ready else .done) jump)))∧AR (NH S₁ w.heap.size) (NH S₂ w.heap.size) W∧¬S₂ w.heap.size∧¬S₂ (w.heap.size+1):=fun jump W3 S₂ hk3 hg3=>by
   have hb3:=hk2.keep hk3 n0 n1;have he:=run_endRound (P:=P) jump hb3.loop
   rw [show({ R .busy none with state:=if jump.isNone then .ready else .done,pending:=jump }:Loop)=R (if jump.isNone then .ready else .done) jump by rw [hR]] at he
   have g2:AR S₁ S₂ W:=by intro i hi;have:=hg3 i hi;simpa using this
   exact⟨he,hb3,((keepPut _ _).step (hk3.more (fun _ _ h=>.inl h))).step (keepPut _ _),fun i hi=>hi.elim (fun h=>(g2 i h).elim (fun h=>.inl (.inl h)) .inr) (fun h=>.inl (.inr h)),g2.not (by omega) n0,g2.not (by omega) n1⟩
  have leave:∀(c:Code) (W3:World),(go (pre++[x])=false∧At S₁ (W.putObj (w.heap.size+1) (.loop (R .busy none))) W3∧∃ S₂,AR S₁ S₂ (W.putObj (w.heap.size+1) (.loop (R .busy none)))∧Ix c (pre++[x]) S₂ W3) →
    ∃ v w',(Instr.endRound (w.heap.size+1) (some c)).run P W3=.ok v w'∧TS go (XW R w.heap.size I .ready none) (fun q S W=>∃ c,XW R w.heap.size (Ix c) .done (some c) q S W) (pre++[x]) (NH S₁ w.heap.size) W (.returned v) w':=fun c W3 h=>by
   obtain⟨hgo,hk3,S₂,hg3,hi3⟩:=h;obtain⟨hr,hb3,hf,hg4,m0,m1⟩:=fin (some c) W3 S₂ hk3 hg3;exact⟨_,_,hr,by rw [hgo];rfl,hf,_,hg4,(fun h=>by rw [hgo] at h;cases h),fun _=>⟨c,S₂,rfl,m0,m1,hIx c _ _ _ _ _ hi3 (grownBy_putObj' W3 _ _) (fun r e=>by cases e;exact⟨by omega,m1⟩),hb3.turn _ _⟩⟩
  rintro e a3 W3 hp
  cases e with
  | normal =>
    obtain⟨hgo,hk3,S₂,hg3,hi3⟩:=hp;obtain⟨hr,hb3,hf,hg4,m0,m1⟩:=fin none W3 S₂ hk3 hg3;exact⟨_,_,hr,by rw [hgo];rfl,hf,_,hg4,(fun _=>⟨S₂,rfl,m0,m1,hI _ _ _ _ _ hi3 (grownBy_putObj' W3 _ _) (fun r e=>by cases e;exact⟨by omega,m1⟩),hb3.turn _ _⟩),fun h=>by rw [hgo] at h;cases h⟩
  | ret=>exact leave _ _ hp
  | exit id=>exact leave _ _ hp
  | goto t=>exact leave _ _ hp
  | panic ch=>exact hp.elim
  | outgrown=>exact hp.elim
 ·rintro e W2 ⟨⟨v,rfl⟩,hkeep,S',hg',ha⟩
  have kp:∀ {ob:Obj},At S w (W2.putObj (w.heap.size+1) ob):=fun {ob}=>by
   refine(At.of_below S hbel).trans (S':=NH S w.heap.size) (fun i hi=>hi.elim .inl (fun h=>.inr (by omega))) (hkeep.trans hg' (At.of_grown (grownBy_putObj' W2 _ _) (fun r e=>?_)))
   cases e
   cases hs:Bo go [] xs with
   | none=>obtain⟨S₁,rfl,_⟩:=ha.all hs;exact .inl (.inr (.inr rfl))
   | some q=>obtain⟨c,S₁,rfl,_⟩:=ha.stop hs;exact .inl (.inr (.inr rfl))
  have gr:∀ S₁,S'=NH S₁ w.heap.size→AR S S₁ w:=fun S₁ e i hi=>by
   have:=hg' i (by rw [e];exact .inl hi)
   rcases this with(h|h|h)|h
   ·exact .inl h
   ·exact .inr (by omega)
   ·exact .inr (by omega)
   ·exact .inr (by omega)
  cases hs:Bo go [] xs with
  | none =>
    obtain⟨S₁,e1,m0,m1,hi,hk⟩:=ha.all hs;have he:=run_endLoop (P:=P) hk.loop (by rw [hR];simp)
    exact⟨_,_,he,by
     simp only [show(R .ready none).pending=none by rw [hR]]
     exact hdone _ S₁ _ (Nat.le_refl _) hs kp (gr S₁ e1) m0 (hI _ _ _ _ _ hi (grownBy_putObj' W2 _ _) (fun r e=>by cases e;exact⟨by omega,m1⟩)) ((World.putObj_heap_other (by omega)).trans hk.off)⟩
  | some q =>
    obtain⟨c,S₁,e1,m0,m1,hi,hk⟩:=ha.stop hs;have he:=run_endLoop (P:=P) hk.loop (by rw [hR];simp)
    exact⟨_,_,he,by
     simp only [show(R .done (some c)).pending=some c by rw [hR]]
     exact hstop _ c q S₁ _ (Nat.le_refl _) hs kp (gr S₁ e1) m0 (hIx c _ _ _ _ _ hi (grownBy_putObj' W2 _ _) (fun r e=>by cases e;exact⟨by omega,m1⟩)) ((World.putObj_heap_other (by omega)).trans hk.off)⟩
end
end Go.Proofs.YtkejaepmoabikaaGreatDoor.W
namespace Go.Proofs.YtkejaepmoabikaaGreatDoor.W
open Go.RowKit Go.Shelf
open List renaming getElem_toArray → qA, getElem_cons_succ → qB, getElem_cons_zero → qC, setIfInBounds_toArray → qD, set_cons_zero → qE, set_cons_succ → qF
open _root_.Go.Proofs.Tryz renaming prog → qP
set_option maxHeartbeats 2000000
theorem Hk (f:FuncId):Fence.wide.fn f=True:=rfl
theorem DQ:Fence.wide.depth=none:=rfl
attribute [local go_sem] Oper.semAt_some Hk DQ
def Fw (S:Nat→Prop) (w:World):Option Addr→BT→Prop
 | p,.leaf=>p=none
 | p,.node l x r=>∃ b pl pr,p=some ⟨b,0,none⟩∧Blk w b 238 (Cv pl x pr (BT.node l x r).ht)∧¬S b∧Fw S w pl l∧Fw S w pr r
theorem Fw.keep {S S':Nat→Prop} {w w':World} (h:At S w w') (hg:AR S S' w):∀ {p:Option Addr} {t:BT},Fw S w p t→Fw S' w' p t
 | _,.leaf,ht=>ht
 | _,.node _ _ _,⟨b,pl,pr,hp,hb,h1,hl,hr⟩=>⟨b,pl,pr,hp,h.blk hb h1,hg.not hb.lt h1,hl.keep h hg,hr.keep h hg⟩
theorem Av.off {S:Nat→Prop} {w:World} (h:∀ g cs,Blk w g 238 cs→¬S g):∀ {p:Option Addr} {t:BT},Av w p t→Fw S w p t
 | _,.leaf,ht=>ht
 | _,.node _ _ _,⟨b,pl,pr,hp,hb,hl,hr⟩=>⟨b,pl,pr,hp,hb,h b _ hb,hl.off h,hr.off h⟩
theorem Fw.off {S S':Nat→Prop} {w:World} (h:∀ i,i<w.heap.size→S' i→S i):∀ {p:Option Addr} {t:BT},Fw S w p t→Fw S' w p t
 | _,.leaf,ht=>ht
 | _,.node _ _ _,⟨b,pl,pr,hp,hb,h1,hl,hr⟩=>⟨b,pl,pr,hp,hb,fun h2=>h1 (h b hb.lt h2),hl.off h,hr.off h⟩
def XX (go:List KV→Bool) (J Jx:Inv) (pre ys:List KV) (S:Nat→Prop) (W:World) (e:Ending) (W':World):Prop :=
 e=.returned (.bool (Bo go pre ys).isNone)∧At S W W'∧∃ S',AR S S' W∧Fv go J Jx pre ys S' W'
abbrev XY (go:List KV→Bool) (J Jx:Inv) (low:ByteArray) (l n:Nat) (p:Option Addr) (pre ys:List KV) (S:Nat→Prop) (W:World):Prop :=
 CallsIn Fence.wide n qP 199 #[.pointer p,.string low,.func (.yield l) #[] #[]] W (XX go J Jx pre ys S W)
theorem aF (go:List KV→Bool) (J Jx:Inv) (low:ByteArray) (l n:Nat) (pre:List KV) (S:Nat→Prop) (W:World) (hj:J pre S W):XY go J Jx low l n none pre [] S W:=by
 refine callsIn_of_wp Tryz.func199 rfl trivial ?_ rfl;simp only [Tryz.ntmps199,List.size_toArray,List.length_cons,List.length_nil,Nat.reduceAdd,Nat.reduceSub,Array.replicate_succ,Array.replicate_zero,List.push_toArray,List.append_toArray,List.nil_append,List.cons_append]
 gi_wp2
 go_ret
 exact⟨rfl,At.refl _ _,S,AR.refl _ _,JG rfl (by simpa using hj)⟩
theorem aG (low yk yv:ByteArray) (l n b ht:Nat) (pl pr:Option Addr) (W:World) (R:Ending→World→Prop) (hk:kc yk low=-1)
  (hb:Blk W b 238 (Cv pl (yk,yv) pr ht))
  (H1:CallsIn Fence.wide (n-1) qP 199 #[.pointer pr,.string low,.func (.yield l) #[] #[]] W fun e W'=>∃ c,e=.returned (.bool c)∧R e W') :
  CallsIn Fence.wide n qP 199 #[.pointer (some ⟨b,0,none⟩),.string low,.func (.yield l) #[] #[]] W R:=by
 have hls:Op.bytesLess yk.toList low.toList=true:=by rw [Ct];simpa using hk
 obtain⟨c0,c1,c2,c3,_⟩:=Bh hb;clear hb;simp only at *;refine callsIn_of_wp Tryz.func199 rfl trivial ?_ rfl;simp only [Tryz.ntmps199,List.size_toArray,List.length_cons,List.length_nil,Nat.reduceAdd,Nat.reduceSub,Array.replicate_succ,Array.replicate_zero,List.push_toArray,List.append_toArray,List.nil_append,List.cons_append]
 gi_wp2_with (first
  | (gi_at_call 199;refine H1.mono ?_;clear H1;rintro e W1 ⟨c,rfl,hR⟩))
 exact hR
attribute [local go_sem] Oper.semAt_some Hk DQ
theorem XZ (low yk yv:ByteArray) (l n b ht:Nat) (pl pr:Option Addr) (W:World) (R:Ending→World→Prop) (hk:kc yk low≠-1)
  (hb:Blk W b 238 (Cv pl (yk,yv) pr ht))
  (H1:CallsIn Fence.wide (n-1) qP 199 #[.pointer pl,.string low,.func (.yield l) #[] #[]] W.drew fun e W1=>e=.returned (.bool false)∧R e W1) :
  CallsIn Fence.wide n qP 199 #[.pointer (some ⟨b,0,none⟩),.string low,.func (.yield l) #[] #[]] W R:=by
 have hls:Op.bytesLess yk.toList low.toList=false:=by rw [Ct];simpa using hk
 obtain⟨c0,c1,c2,c3,_⟩:=Bh hb;clear hb;simp only at *;refine callsIn_of_wp Tryz.func199 rfl trivial ?_ rfl;simp only [Tryz.ntmps199,List.size_toArray,List.length_cons,List.length_nil,Nat.reduceAdd,Nat.reduceSub,Array.replicate_succ,Array.replicate_zero,List.push_toArray,List.append_toArray,List.nil_append,List.cons_append]
 gi_wp2
 refine wpIn_region_any (by kernel_rfl) ?_
 change wpAnyIn _ _ _ _ _ _ _ _ _ (World.drew _)
 simp only [List.size_toArray,List.length_cons,List.length_nil,Nat.reduceAdd,Array.replicate_succ,Array.replicate_zero,List.push_toArray,List.nil_append,List.cons_append];refine qI 0 ?_;simp only [qA,qC,Act.put,qD,qE,qF];refine qI 1 ?_;simp only [qA,qB,qC,Act.put,qD,qE,qF];refine qI 2 ?_;simp only [qA,qB,qC,Act.put,qD,qE,qF];refine qI 4 ?_;simp only [qA,qB,qC,Act.put,qD,qE,qF];refine qI 5 ?_;simp only [qA,qB,qC,Act.put,qD,qE,qF];refine qK 3 fun K hK=>?_;go_simp;refine hK _ _ ?_;clear hK K;simp only [qD,qE,qF];refine qK 6 fun K hK=>?_;go_simp;refine H1.mono ?_;rintro e W1 ⟨rfl,hR⟩;refine hK _ _ ?_;clear hK K;simp only [qD,qE,qF];refine qI 7 ?_;simp only [qA,qB,qC,Act.put,qD,qE,qF];refine qJ 8 ?_;simp only [qA,qB,qC,Act.put,qD,qE,qF];refine qJ 9 ?_;simp only [qA,qB,qC,Act.put,qD,qE,qF];refine qJ 10 ?_;simp only [qA,qB,qC,Act.put,qD,qE,qF];refine qJ 11 ?_;simp only [qA,qB,qC,Act.put,qD,qE,qF];refine qJ 12 ?_;simp only [qA,qB,qC,Act.put,qD,qE,qF];refine qJ 13 ?_;simp only [qA,qB,qC,Act.put,qD,qE,qF];refine qJ 14 ?_;simp only [qA,qB,qC,Act.put,qD,qE,qF];refine qJ 15 ?_;simp only [qA,qB,qC,Act.put,qD,qE,qF];refine qJ 16 ?_;simp only [qA,qB,qC,Act.put,qD,qE,qF];refine qJ 17 ?_;simp only [qA,qB,qC,Act.put,qD,qE,qF];refine qJ 18 ?_;simp only [qA,qB,qC,Act.put,qD,qE,qF];refine qK 19 fun K hK=>?_;go_simp;refine hK _ _ ?_;clear hK K;simp only [qD,qE,qF];refine qI 20 ?_;simp only [qA,qB,qC,Act.put,qD,qE,qF];refine qI 21 ?_;simp only [qA,qB,qC,Act.put,qD,qE,qF];refine qJ 22 ?_;simp only [qA,qB,qC,Act.put,qD,qE,qF];refine qJ 23 ?_;simp only [qA,qB,qC,Act.put,qD,qE,qF];refine qJ 24 ?_;simp only [qA,qB,qC,Act.put,qD,qE,qF];refine qJ 25 ?_;simp only [qA,qB,qC,Act.put,qD,qE,qF];refine qJ 26 ?_;simp only [qA,qB,qC,Act.put,qD,qE,qF];refine qJ 27 ?_;simp only [qA,qB,qC,Act.put,qD,qE,qF];refine qK 28 fun K hK=>?_;go_simp;refine hK _ _ ?_;clear hK K;simp only [qD,qE,qF];refine qI 29 ?_;simp only [qA,qB,qC,Act.put,qD,qE,qF];refine qI 30 ?_;simp only [qA,qB,qC,Act.put,qD,qE,qF]
 refine wpAnyIn_done (by kernel_rfl) ?_ _
 gi_wp2
 exact hR
theorem Ya (low yk yv:ByteArray) (l n b ht:Nat) (pl pr:Option Addr) (W:World) (R:Ending→World→Prop) (hk:kc yk low≠-1)
  (hb:Blk W b 238 (Cv pl (yk,yv) pr ht))
  (H1:CallsIn Fence.wide (n-1) qP 199 #[.pointer pl,.string low,.func (.yield l) #[] #[]] W.drew fun e W1=>e=.returned (.bool true)∧W1.cell? ⟨b,1,none⟩=some (.string yk)∧W1.cell? ⟨b,2,none⟩=some (.string yv)∧YieldAt Fence.wide (n-1) qP l #[.string yk,.string yv] W1 fun e W2=>e=.returned (.bool false)∧R e W2) :
  CallsIn Fence.wide n qP 199 #[.pointer (some ⟨b,0,none⟩),.string low,.func (.yield l) #[] #[]] W R:=by
 have hls:Op.bytesLess yk.toList low.toList=false:=by rw [Ct];simpa using hk
 obtain⟨c0,c1,c2,c3,_⟩:=Bh hb;clear hb;simp only at *;refine callsIn_of_wp Tryz.func199 rfl trivial ?_ rfl;simp only [Tryz.ntmps199,List.size_toArray,List.length_cons,List.length_nil,Nat.reduceAdd,Nat.reduceSub,Array.replicate_succ,Array.replicate_zero,List.push_toArray,List.append_toArray,List.nil_append,List.cons_append]
 gi_wp2
 refine wpIn_region_any (by kernel_rfl) ?_
 change wpAnyIn _ _ _ _ _ _ _ _ _ (World.drew _)
 simp only [List.size_toArray,List.length_cons,List.length_nil,Nat.reduceAdd,Array.replicate_succ,Array.replicate_zero,List.push_toArray,List.nil_append,List.cons_append];refine qI 0 ?_;simp only [qA,qC,Act.put,qD,qE,qF];refine qI 1 ?_;simp only [qA,qB,qC,Act.put,qD,qE,qF];refine qI 2 ?_;simp only [qA,qB,qC,Act.put,qD,qE,qF];refine qI 4 ?_;simp only [qA,qB,qC,Act.put,qD,qE,qF];refine qI 5 ?_;simp only [qA,qB,qC,Act.put,qD,qE,qF];refine qK 3 fun K hK=>?_;go_simp;refine hK _ _ ?_;clear hK K;simp only [qD,qE,qF];refine qK 6 fun K hK=>?_;go_simp;refine H1.mono ?_;rintro e W1 ⟨rfl,d1,d2,fn,tmps,assign,body,hy,hr⟩;refine hK _ _ ?_;clear hK K;simp only [qD,qE,qF];refine qI 7 ?_;simp only [qA,qB,qC,Act.put,qD,qE,qF];refine qI 8 ?_;simp only [qA,qB,qC,Act.put,qD,qE,qF];refine qI 9 ?_;simp only [qA,qB,qC,Act.put,qD,qE,qF];refine qI 10 ?_;simp only [qA,qB,qC,Act.put,qD,qE,qF];refine qI 11 ?_;simp only [qA,qB,qC,Act.put,qD,qE,qF];refine qI 12 ?_;simp only [qA,qB,qC,Act.put,qD,qE,qF];refine qI 14 ?_;simp only [qA,qB,qC,Act.put,qD,qE,qF];refine qI 15 ?_;simp only [qA,qB,qC,Act.put,qD,qE,qF];refine qI 16 ?_;simp only [qA,qB,qC,Act.put,qD,qE,qF];refine qI 17 ?_;simp only [qA,qB,qC,Act.put,qD,qE,qF];refine qK2 13 18 (fun K hK=>?_) fun K hK=>?_
 ·go_simp
  refine hK _ _ ?_;clear hK K;simp only [qD,qE,qF];refine qK 18 fun K hK=>?_;go_simp;refine hK _ _ ?_;clear hK K;simp only [qD,qE,qF];refine qK 19 fun K hK=>?_;go_simp;refine hr.mono ?_;rintro e W2 ⟨rfl,hR⟩;refine hK _ _ ?_;clear hK K;simp only [qD,qE,qF];refine qI 20 ?_;simp only [qA,qB,qC,Act.put,qD,qE,qF];refine qI 21 ?_;simp only [qA,qB,qC,Act.put,qD,qE,qF];refine qJ 22 ?_;simp only [qA,qB,qC,Act.put,qD,qE,qF];refine qJ 23 ?_;simp only [qA,qB,qC,Act.put,qD,qE,qF];refine qJ 24 ?_;simp only [qA,qB,qC,Act.put,qD,qE,qF];refine qJ 25 ?_;simp only [qA,qB,qC,Act.put,qD,qE,qF];refine qJ 26 ?_;simp only [qA,qB,qC,Act.put,qD,qE,qF];refine qJ 27 ?_;simp only [qA,qB,qC,Act.put,qD,qE,qF];refine qK 28 fun K hK=>?_;go_simp;refine hK _ _ ?_;clear hK K;simp only [qD,qE,qF];refine qI 29 ?_;simp only [qA,qB,qC,Act.put,qD,qE,qF];refine qI 30 ?_;simp only [qA,qB,qC,Act.put,qD,qE,qF];refine wpAnyIn_done (by kernel_rfl) ?_ _
  gi_wp2
  exact hR
 ·go_simp
  refine hK _ _ ?_;clear hK K;simp only [qD,qE,qF];refine qK 13 fun K hK=>?_;go_simp;refine hK _ _ ?_;clear hK K;simp only [qD,qE,qF];refine qK 19 fun K hK=>?_;go_simp;refine hr.mono ?_;rintro e W2 ⟨rfl,hR⟩;refine hK _ _ ?_;clear hK K;simp only [qD,qE,qF];refine qI 20 ?_;simp only [qA,qB,qC,Act.put,qD,qE,qF];refine qI 21 ?_;simp only [qA,qB,qC,Act.put,qD,qE,qF];refine qJ 22 ?_;simp only [qA,qB,qC,Act.put,qD,qE,qF];refine qJ 23 ?_;simp only [qA,qB,qC,Act.put,qD,qE,qF];refine qJ 24 ?_;simp only [qA,qB,qC,Act.put,qD,qE,qF];refine qJ 25 ?_;simp only [qA,qB,qC,Act.put,qD,qE,qF];refine qJ 26 ?_;simp only [qA,qB,qC,Act.put,qD,qE,qF];refine qJ 27 ?_;simp only [qA,qB,qC,Act.put,qD,qE,qF];refine qK 28 fun K hK=>?_;go_simp;refine hK _ _ ?_;clear hK K;simp only [qD,qE,qF];refine qI 29 ?_;simp only [qA,qB,qC,Act.put,qD,qE,qF];refine qI 30 ?_;simp only [qA,qB,qC,Act.put,qD,qE,qF];refine wpAnyIn_done (by kernel_rfl) ?_ _
  gi_wp2
  exact hR
attribute [local go_sem] Oper.semAt_some Hk DQ
theorem aH (low yk yv:ByteArray) (l n b ht:Nat) (pl pr:Option Addr) (W:World) (R:Ending→World→Prop) (hk:kc yk low≠-1)
  (hb:Blk W b 238 (Cv pl (yk,yv) pr ht))
  (H1:CallsIn Fence.wide (n-1) qP 199 #[.pointer pl,.string low,.func (.yield l) #[] #[]] W.drew fun e W1=>e=.returned (.bool true)∧W1.cell? ⟨b,1,none⟩=some (.string yk)∧W1.cell? ⟨b,2,none⟩=some (.string yv)∧YieldAt Fence.wide (n-1) qP l #[.string yk,.string yv] W1 fun e W2=>e=.returned (.bool true)∧W2.cell? ⟨b,3,none⟩=some (.pointer pr)∧CallsIn Fence.wide (n-1) qP 199 #[.pointer pr,.string low,.func (.yield l) #[] #[]] W2 fun e W3=>∃ c,e=.returned (.bool c)∧R e W3) :
  CallsIn Fence.wide n qP 199 #[.pointer (some ⟨b,0,none⟩),.string low,.func (.yield l) #[] #[]] W R:=by
 have hls:Op.bytesLess yk.toList low.toList=false:=by rw [Ct];simpa using hk
 obtain⟨c0,c1,c2,c3,_⟩:=Bh hb;clear hb;simp only at *;refine callsIn_of_wp Tryz.func199 rfl trivial ?_ rfl;simp only [Tryz.ntmps199,List.size_toArray,List.length_cons,List.length_nil,Nat.reduceAdd,Nat.reduceSub,Array.replicate_succ,Array.replicate_zero,List.push_toArray,List.append_toArray,List.nil_append,List.cons_append]
 gi_wp2
 refine wpIn_region_any (by kernel_rfl) ?_
 change wpAnyIn _ _ _ _ _ _ _ _ _ (World.drew _)
 simp only [List.size_toArray,List.length_cons,List.length_nil,Nat.reduceAdd,Array.replicate_succ,Array.replicate_zero,List.push_toArray,List.nil_append,List.cons_append];refine qI 0 ?_;simp only [qA,qC,Act.put,qD,qE,qF];refine qI 1 ?_;simp only [qA,qB,qC,Act.put,qD,qE,qF];refine qI 2 ?_;simp only [qA,qB,qC,Act.put,qD,qE,qF];refine qI 4 ?_;simp only [qA,qB,qC,Act.put,qD,qE,qF];refine qI 5 ?_;simp only [qA,qB,qC,Act.put,qD,qE,qF];refine qK 3 fun K hK=>?_;go_simp;refine hK _ _ ?_;clear hK K;simp only [qD,qE,qF];refine qK 6 fun K hK=>?_;go_simp;refine H1.mono ?_;rintro e W1 ⟨rfl,d1,d2,fn,tmps,assign,body,hy,hr⟩;refine hK _ _ ?_;clear hK K;simp only [qD,qE,qF];refine qI 7 ?_;simp only [qA,qB,qC,Act.put,qD,qE,qF];refine qI 8 ?_;simp only [qA,qB,qC,Act.put,qD,qE,qF];refine qI 9 ?_;simp only [qA,qB,qC,Act.put,qD,qE,qF];refine qI 10 ?_;simp only [qA,qB,qC,Act.put,qD,qE,qF];refine qI 11 ?_;simp only [qA,qB,qC,Act.put,qD,qE,qF];refine qI 12 ?_;simp only [qA,qB,qC,Act.put,qD,qE,qF];refine qI 14 ?_;simp only [qA,qB,qC,Act.put,qD,qE,qF];refine qI 15 ?_;simp only [qA,qB,qC,Act.put,qD,qE,qF];refine qI 16 ?_;simp only [qA,qB,qC,Act.put,qD,qE,qF];refine qI 17 ?_;simp only [qA,qB,qC,Act.put,qD,qE,qF];refine qK2 13 18 (fun K hK=>?_) fun K hK=>?_
 ·go_simp
  refine hK _ _ ?_;clear hK K;simp only [qD,qE,qF];refine qK 18 fun K hK=>?_;go_simp;refine hK _ _ ?_;clear hK K;simp only [qD,qE,qF];refine qK 19 fun K hK=>?_;go_simp;refine hr.mono ?_;rintro e W2 ⟨rfl,d3,H3⟩;refine hK _ _ ?_;clear hK K;simp only [qD,qE,qF];refine qI 20 ?_;simp only [qA,qB,qC,Act.put,qD,qE,qF];refine qI 21 ?_;simp only [qA,qB,qC,Act.put,qD,qE,qF];refine qI 22 ?_;simp only [qA,qB,qC,Act.put,qD,qE,qF];refine qI 23 ?_;simp only [qA,qB,qC,Act.put,qD,qE,qF];refine qI 24 ?_;simp only [qA,qB,qC,Act.put,qD,qE,qF];refine qI 26 ?_;simp only [qA,qB,qC,Act.put,qD,qE,qF];refine qI 27 ?_;simp only [qA,qB,qC,Act.put,qD,qE,qF];refine qK 25 fun K hK=>?_;go_simp;refine hK _ _ ?_;clear hK K;simp only [qD,qE,qF];refine qK 28 fun K hK=>?_;go_simp;refine H3.mono ?_;rintro e W3 ⟨c,rfl,hR⟩;refine hK _ _ ?_;clear hK K;simp only [qD,qE,qF];refine qI 29 ?_;simp only [qA,qB,qC,Act.put,qD,qE,qF];refine qI 30 ?_;simp only [qA,qB,qC,Act.put,qD,qE,qF];refine wpAnyIn_done (by kernel_rfl) ?_ _
  gi_wp2
  exact hR
 ·go_simp
  refine hK _ _ ?_;clear hK K;simp only [qD,qE,qF];refine qK 13 fun K hK=>?_;go_simp;refine hK _ _ ?_;clear hK K;simp only [qD,qE,qF];refine qK 19 fun K hK=>?_;go_simp;refine hr.mono ?_;rintro e W2 ⟨rfl,d3,H3⟩;refine hK _ _ ?_;clear hK K;simp only [qD,qE,qF];refine qI 20 ?_;simp only [qA,qB,qC,Act.put,qD,qE,qF];refine qI 21 ?_;simp only [qA,qB,qC,Act.put,qD,qE,qF];refine qI 22 ?_;simp only [qA,qB,qC,Act.put,qD,qE,qF];refine qI 23 ?_;simp only [qA,qB,qC,Act.put,qD,qE,qF];refine qI 24 ?_;simp only [qA,qB,qC,Act.put,qD,qE,qF];refine qI 26 ?_;simp only [qA,qB,qC,Act.put,qD,qE,qF];refine qI 27 ?_;simp only [qA,qB,qC,Act.put,qD,qE,qF];refine qK 25 fun K hK=>?_;go_simp;refine hK _ _ ?_;clear hK K;simp only [qD,qE,qF];refine qK 28 fun K hK=>?_;go_simp;refine H3.mono ?_;rintro e W3 ⟨c,rfl,hR⟩;refine hK _ _ ?_;clear hK K;simp only [qD,qE,qF];refine qI 29 ?_;simp only [qA,qB,qC,Act.put,qD,qE,qF];refine qI 30 ?_;simp only [qA,qB,qC,Act.put,qD,qE,qF];refine wpAnyIn_done (by kernel_rfl) ?_ _
  gi_wp2
  exact hR
end Go.Proofs.YtkejaepmoabikaaGreatDoor.W
