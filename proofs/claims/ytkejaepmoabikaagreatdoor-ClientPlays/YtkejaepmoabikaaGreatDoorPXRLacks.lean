import Derived.Test.YtkejaepmoabikaaGreatDoorP1c
import Derived.Test.YtkejaepmoabikaaGreatDoorP0e
namespace Go.Proofs.YtkejaepmoabikaaGreatDoor.W
open Go.RowKit
open Lib renaming hid → qH
open _root_.Go.Proofs.Tryz renaming prog → qP
set_option maxHeartbeats 4000000
set_option maxRecDepth 100000
theorem Ve (root key:ByteArray) (n pos:Int) (t:Bool) (nv pv:Value) (L:List (List UInt8)) (w:World) (h:t=true∨pos<0∨n<pos) :
  Calls qP 82 #[.string root,.string key,.agg #[.int .i64 n,.int .i64 pos,.bool t,nv,pv]] w (Dh w false L):=by
 have HR:=qH (Em (L:=L) (show Below w.heap.size w (w.alloc (.cells #[.int .i64 n,.int .i64 pos,.bool t,nv,pv] 112)) by go_grown))
 cases t with
 | true =>
   clear h;go_enter Tryz.func82,Tryz.ntmps82;go_wp2
   go_ret2
   exact HR.out
 | false =>
   by_cases h1:pos<0
   ·clear h
    go_enter Tryz.func82,Tryz.ntmps82;go_wp2
    go_ret2
    exact HR.out
   ·have h2:n<pos:=by rcases h with h|h|h<;>first|cases h|omega
    clear h;go_enter Tryz.func82,Tryz.ntmps82;go_wp2
    go_ret2
    exact HR.out
def JE (V:World) (P:List Int) (e:Ending) (w':World):Prop:=∃ A c,e=.returned (.slice A P.length c)∧Aa V w'∧∀ i (h:i<P.length),∃ b off,A=some ⟨b,off,none⟩∧w'.cell? ⟨b,off+i,none⟩=some (.int .i64 P[i])
theorem Vf (root key:ByteArray) (n pos:Int) (P:List Int) (A1 A2:Option Addr) (m1 c1 m2 c2:Nat) (L:List (List UInt8)) (w:World) (h0:0≤pos) (h1:pos≤n) (h:m1≠P.length∨m2≠P.length)
  (HP:Hid (∀ W,Aa w W→Calls qP 131 #[.agg #[.int .i64 n,.int .i64 pos,.bool false,.slice A1 m1 c1,.slice A2 m2 c2]] W (JE W P))) :
  Calls qP 82 #[.string root,.string key,.agg #[.int .i64 n,.int .i64 pos,.bool false,.slice A1 m1 c1,.slice A2 m2 c2]] w (Dh w false L):=by
 have k0:=Blk.new w 112 #[.int .i64 n,.int .i64 pos,.bool false,.slice A1 m1 c1,.slice A2 m2 c2];have HV:=qH (show Aa w (w.alloc (.cells #[.int .i64 n,.int .i64 pos,.bool false,.slice A1 m1 c1,.slice A2 m2 c2] 112)) from Ad (by go_grown));have q3:=(k0.cell 3).trans (by rfl:_=some (Value.slice A1 m1 c1));have q4:=(k0.cell 4).trans (by rfl:_=some (Value.slice A2 m2 c2))
 have b1:¬pos<0:=by omega
 have b2:¬n<pos:=by omega
 clear k0;by_cases h3:m1=P.length
 ·have h4:((m2:Int) != (P.length:Int))=true:=by rw [bne_iff_ne];rcases h with h|h;exact absurd h3 h;omega
  have h5:((m1:Int) != (P.length:Int))=false:=by rw [h3];simp
  clear h h3;go_enter Tryz.func82,Tryz.ntmps82
  go_wp2_with fail
  refine(HP.out _ HV.out).mono ?_;rintro e w1 ⟨A,c,rfl,s1,_⟩;have y3:=s1.cell q3;have y4:=s1.cell q4;have R:=qH (Em (L:=L) (Ae HV.out.below s1.below));clear q3 q4 HV HP s1;go_wp2
  go_ret2
  exact R.out
 ·have h5:((m1:Int) != (P.length:Int))=true:=by rw [bne_iff_ne];omega
  clear h h3;go_enter Tryz.func82,Tryz.ntmps82
  go_wp2_with fail
  refine(HP.out _ HV.out).mono ?_;rintro e w1 ⟨A,c,rfl,s1,_⟩;have y3:=s1.cell q3;have y4:=s1.cell q4;have R:=qH (Em (L:=L) (Ae HV.out.below s1.below));clear q3 q4 HV HP s1;go_wp2
  go_ret2
  exact R.out
theorem Vg (root:List UInt8) (key:ByteArray) (n pos lo:Int) (P:List Int) (A1 A2:Option Addr) (c1 c2:Nat) (near:List KV) (paths:List (List (List UInt8))) (w:World) (h0:0≤pos) (h1:pos≤n)
  (hl1:near.length=P.length) (hl2:paths.length=P.length) (hP2:P.length≤2) (hPat:∀ k (h:k<P.length),P[k]=lo+(k:Int)) (hbd:(Bd n lo near paths).length≤10000000)
  (hc:∀ k (h:k<near.length),∃ b off,A1=some ⟨b,off,none⟩∧w.cell? ⟨b,off+k*2,none⟩=some (.string near[k].1)∧w.cell? ⟨b,off+k*2+1,none⟩=some (.string near[k].2))
  (hq:∀(k:Nat) q,paths[k]?=some q→∃ b off u,A2=some ⟨b,off,none⟩∧w.cell? ⟨b,off+k,none⟩=some u ∧
    ∀(p:KV) (i:Int) W,Aa w W→Calls qP 130 #[.string (bs root),.agg #[.string p.1,.string p.2],.int .i64 n,.int .i64 i,u] W fun e w'=>∃ A m c,e=.returned (.tuple #[.bool (El root p q i n),.slice A m c])∧Aq W.heap.size (.slice A m c) (bss (Bz p q i n)) W w')
  (HP:Hid (∀ W,Aa w W→Calls qP 131 #[.agg #[.int .i64 n,.int .i64 pos,.bool false,.slice A1 near.length c1,.slice A2 paths.length c2]] W (JE W P)))
  (HT:Hid (∀ W,Aa w W→Calls qP 75 #[.int .i64 0,.string ⟨#[]⟩] W fun e w'=>e=.returned (.string (bs (Bt 0 [])))∧Aa w w'))
  (HS:Hid (∀ W,Aa w W→Calls qP 76 #[.string (bs (Bt 0 []))] W fun e w'=>e=.returned (.string (bs (Ax (Bt 0 []))))∧Aa w w')) :
  Calls qP 82 #[.string (bs root),.string key,.agg #[.int .i64 n,.int .i64 pos,.bool false,.slice A1 near.length c1,.slice A2 paths.length c2]] w (Dh w (BL root key pos n lo near paths&&(decide (0<n)||decide (root=Ax (Bt 0 [])))) (if n=0 then [Bt 0 []] else Bd n lo near paths)):=by
 obtain⟨r,hr⟩:∃ r,r=(BL root key pos n lo near paths&&(decide (0<n)||decide (root=Ax (Bt 0 [])))):=⟨_,rfl⟩;obtain⟨LL,hLL⟩:∃ LL,LL=(if n=0 then [Bt 0 []] else Bd n lo near paths):=⟨_,rfl⟩;rw [←hr,←hLL];have HR:=qH hr;have HLL:=qH hLL;have HC:=qH hc;have HQ:=qH hq;have HV:=qH (show Aa w (w.alloc (.cells #[.int .i64 n,.int .i64 pos,.bool false,.slice A1 near.length c1,.slice A2 paths.length c2] 112)) from Ad (by go_grown));have k0:=Blk.new w 112 #[.int .i64 n,.int .i64 pos,.bool false,.slice A1 near.length c1,.slice A2 paths.length c2];have q0:=(k0.cell 0).trans (by rfl:_=some (Value.int .i64 n));have q1:=(k0.cell 1).trans (by rfl:_=some (Value.int .i64 pos));have q3:=(k0.cell 3).trans (by rfl:_=some (Value.slice A1 near.length c1));have q4:=(k0.cell 4).trans (by rfl:_=some (Value.slice A2 paths.length c2))
 have b1:¬pos<0:=by omega
 have b2:¬n<pos:=by omega
 have h4:((paths.length:Int) != (P.length:Int))=false:=by rw [hl2];simp
 have h5:((near.length:Int) != (P.length:Int))=false:=by rw [hl1];simp
 have HL:=qH (show near.length=P.length∧paths.length=P.length∧P.length≤2 from⟨hl1,hl2,hP2⟩);have HPA:=qH hPat;have HBD:=qH hbd;clear hr hLL hc hq k0 hl1 hl2 hPat hbd hP2;go_enter Tryz.func82,Tryz.ntmps82
 go_wp2_with fail
 refine(HP.out _ HV.out).mono ?_;rintro e V ⟨Ap,cp,rfl,sV,hpc⟩;have y0:=sV.cell q0;have y1:=sV.cell q1;have y3:=sV.cell q3;have y4:=sV.cell q4;have HW:=qH (show Aa w V from Ad (Ae HV.out.below sV.below));have HPC:=qH hpc;clear q0 q1 q3 q4 HV HP sV hpc;go_wp2
 go_loopw [9,10,11,12,13] (fun s i _ _ _ wr=>∃(k:Nat) (A:Option Addr) (m c:Nat) (L:List (List UInt8)),k≤P.length∧i=.int .i64 k∧s=.slice A m c∧Hid (BL root key pos n lo near paths=BL root key pos n (lo+k) (near.drop k) (paths.drop k)∧Bd n lo near paths=L++Bd n (lo+k) (near.drop k) (paths.drop k))∧Hid (Aq V.heap.size (.slice A m c) (bss L) V wr)) (fun _ i _ _ _ _=>P.length-(intOf i).toNat)
 case atStart=>exact⟨0,none,0,0,[],Nat.zero_le _,rfl,rfl,qH ⟨by rw [Int.natCast_zero,Int.add_zero,List.drop_zero,List.drop_zero],by rw [Int.natCast_zero,Int.add_zero,List.drop_zero,List.drop_zero];rfl⟩,qH (Eb V)⟩
 case round =>
  obtain⟨k,A,m,c,L,hk,rfl,rfl,HI,HO⟩:=hrel;have hS:Aa V wr:=Ad HO.out.below;by_cases hlt:k<P.length
  ·have hlt1:k<near.length:=by have:=HL.out;omega
   have hlt2:k<paths.length:=by have:=HL.out;omega
   obtain⟨g0,o0,rfl,d0⟩:=HPC.out k hlt;obtain⟨g1,o1,rfl,d1,d2⟩:=HC.out k hlt1;obtain⟨g2,o2,u,rfl,d3,H⟩:=HQ.out k _ (List.getElem?_eq_getElem hlt2);rw [HPA.out k hlt] at d0;have HSS:=qH (show Aa w wr from Ad (Ae HW.out.below hS.below));have z0:=hS.cell d0;have z1:=HSS.out.cell d1;have z2:=HSS.out.cell d2;have z3:=HSS.out.cell d3;have x0:=hS.cell y0;have x1:=hS.cell y1;have x3:=hS.cell y3;have x4:=hS.cell y4;have HE:=qH (HI.out.1.trans (JZ (root:=root) (key:=key) (pos:=pos) (n:=n) (i:=lo) hlt1 hlt2));have HE2:=qH (HI.out.2.trans (by rw [Lx hlt1 hlt2]));have HSD:=qH (Ly key pos (lo+k) near[k]);have HRE:=qH (H near[k] (lo+k))
   have i0:(0:Int)≤(k:Int):=by omega
   have i1:(k:Int)<(near.length:Int):=by omega
   have i2:(k:Int)<(paths.length:Int):=by omega
   have i3:(k:Int)<(P.length:Int):=by omega
   have HI2:=qH (show(k:Int)≤1 by have:=HL.out;omega);have hless:=Ct near[k].1 key;have heq:=XN near[k].1 key;generalize El root near[k] paths[k] (lo+k) n=re at *;generalize Bz near[k] paths[k] (lo+k) n=more at *;obtain⟨p,hp⟩:∃ p,p=near[k]:=⟨_,rfl⟩;rw [←hp] at z1 z2 HE HSD HRE hless heq;obtain⟨p1,p2⟩:=p;simp only at z1 z2 HSD HRE hless heq;generalize hci:lo+(k:Int)=ci at *;clear d0 d1 d2 d3 H hp HI
   rcases HSD.out with⟨s1,s2,s3⟩|⟨s1,s2,s3⟩|⟨s1,s2,s3⟩|⟨s1,s2,s3⟩
   ·rw [decide_eq_true s2] at hless
    clear heq;rw [s3] at HE;clear s2;have rr:=HSS.out;clear HSD
    cases re with
    | false =>
      have h3:r=false:=by rw [HR.out,HE.out];simp
      subst h3;clear HR HE HE2 HI2 HLL;go_wp2
      go_region
      go_wp2
      go_region_held3 (fun W=>W.cell? ⟨w.heap.size,0,none⟩=some (.int .i64 n)∧W.cell? ⟨w.heap.size,3,none⟩=some (.slice (some ⟨g1,o1,none⟩) near.length c1)∧W.cell? ⟨w.heap.size,4,none⟩=some (.slice (some ⟨g2,o2,none⟩) paths.length c2)∧W.cell? ⟨g0,o0+k,none⟩=some (.int .i64 ci)∧W.cell? ⟨g1,o1+k*2,none⟩=some (.string p1)∧W.cell? ⟨g1,o1+k*2+1,none⟩=some (.string p2)∧W.cell? ⟨g2,o2+k,none⟩=some u)
       (first|exact⟨(Ad o5.below).cell x0,(Ad o5.below).cell x3,(Ad o5.below).cell x4,(Ad o5.below).cell z0,(Ad o5.below).cell z1,(Ad o5.below).cell z2,(Ad o5.below).cell z3⟩|go_keep)
       (first|(go_at_call 130;refine(HRE.out _ (by exact rr)).mono ?_;clear HRE;rintro en w5 ⟨A5,m5,c5,rfl,o5⟩))
      all_goals go_wp2
      all_goals go_ret2
      all_goals exact Em (Ae (Below.drewN (Below.drewN HSS.out.below 1) 1) o5.below)
    | true =>
      have hk9:=HI2.out;have HE3:=qH (show BL root key pos n lo near paths=BL root key pos n (lo+((k+1:Nat):Int)) (near.drop (k+1)) (paths.drop (k+1)) by rw [HE.out];simp);have HE4:=qH (show Bd n lo near paths=(L++more)++Bd n (lo+((k+1:Nat):Int)) (near.drop (k+1)) (paths.drop (k+1)) by rw [HE2.out,List.append_assoc]);have HLN:=qH (show(bss L).length+(bss more).length≤1000000000 by have h:=congrArg List.length HE4.out;rw [List.length_append,List.length_append] at h;have:=HBD.out;rw [BM,BM];omega);clear HE HE2;go_wp2
      go_region
      go_wp2
      go_region_held3 (fun W=>W.cell? ⟨w.heap.size,0,none⟩=some (.int .i64 n)∧W.cell? ⟨w.heap.size,3,none⟩=some (.slice (some ⟨g1,o1,none⟩) near.length c1)∧W.cell? ⟨w.heap.size,4,none⟩=some (.slice (some ⟨g2,o2,none⟩) paths.length c2)∧W.cell? ⟨g0,o0+k,none⟩=some (.int .i64 ci)∧W.cell? ⟨g1,o1+k*2,none⟩=some (.string p1)∧W.cell? ⟨g1,o1+k*2+1,none⟩=some (.string p2)∧W.cell? ⟨g2,o2+k,none⟩=some u)
       (first|exact⟨(Ad o5.below).cell x0,(Ad o5.below).cell x3,(Ad o5.below).cell x4,(Ad o5.below).cell z0,(Ad o5.below).cell z1,(Ad o5.below).cell z2,(Ad o5.below).cell z3⟩|go_keep)
       (first|(go_at_call 130;refine(HRE.out _ (by exact rr)).mono ?_;clear HRE;rintro en w5 ⟨A5,m5,c5,rfl,o5⟩))
      all_goals have OA:=qH ((HO.out.after (Below.drewN (Below.drewN (Below.refl _ _) 1) 1)).after o5.below)
      all_goals have OB:=qH o5
      all_goals clear o5
      all_goals go_wp2_with (at_builtin;refine BQ _ rfl _ _ rfl V.heap.size _ (.slice A m c) (.slice A5 m5 c5) (bss L) (bss more) rfl rfl V OA.out OB.out.txs HLN.out ?_;intro v7 w7 o7 g7;rw [←Co] at o7;obtain⟨A7,c7,rfl⟩:=ND o7;have O7:=qH o7;clear o7 g7 OA OB)
      all_goals go_roundw
      case rel=>exact⟨k+1,A7,_,c7,L++more,by omega,by go_num,rfl,qH ⟨HE3.out,HE4.out⟩,qH (by have h:=O7.out;rwa [List.length_append] at h)⟩
      case measure=>simp [intOf];omega
   ·rw [decide_eq_false s2] at hless
    clear heq;rw [s3] at HE;clear s2
    have h3:r=false:=by rw [HR.out,HE.out];simp
    subst h3;clear HR HE HE2 HSD HRE HI2 HLL;have HF:=qH (Em (L:=LL) (Below.drewN HSS.out.below 1));go_wp2
    go_region
    go_wp2
    go_ret2
    exact HF.out
   ·rw [decide_eq_false (by rw [s2];decide)] at hless
    rw [decide_eq_false (by rw [s2];decide)] at heq;rw [s3] at HE;clear s2;have rr:=HSS.out;clear HSD
    cases re with
    | false =>
      have h3:r=false:=by rw [HR.out,HE.out];simp
      subst h3;clear HR HE HE2 HI2 HLL;go_wp2
      go_region
      go_wp2
      go_region_held3 (fun W=>W.cell? ⟨w.heap.size,0,none⟩=some (.int .i64 n)∧W.cell? ⟨w.heap.size,3,none⟩=some (.slice (some ⟨g1,o1,none⟩) near.length c1)∧W.cell? ⟨w.heap.size,4,none⟩=some (.slice (some ⟨g2,o2,none⟩) paths.length c2)∧W.cell? ⟨g0,o0+k,none⟩=some (.int .i64 ci)∧W.cell? ⟨g1,o1+k*2,none⟩=some (.string p1)∧W.cell? ⟨g1,o1+k*2+1,none⟩=some (.string p2)∧W.cell? ⟨g2,o2+k,none⟩=some u)
       (first|exact⟨(Ad o5.below).cell x0,(Ad o5.below).cell x3,(Ad o5.below).cell x4,(Ad o5.below).cell z0,(Ad o5.below).cell z1,(Ad o5.below).cell z2,(Ad o5.below).cell z3⟩|go_keep)
       (first|(go_at_call 130;refine(HRE.out _ (by exact rr)).mono ?_;clear HRE;rintro en w5 ⟨A5,m5,c5,rfl,o5⟩))
      all_goals go_wp2
      all_goals go_ret2
      all_goals exact Em (Ae (Below.drewN (Below.drewN HSS.out.below 1) 1) o5.below)
    | true =>
      have hk9:=HI2.out;have HE3:=qH (show BL root key pos n lo near paths=BL root key pos n (lo+((k+1:Nat):Int)) (near.drop (k+1)) (paths.drop (k+1)) by rw [HE.out];simp);have HE4:=qH (show Bd n lo near paths=(L++more)++Bd n (lo+((k+1:Nat):Int)) (near.drop (k+1)) (paths.drop (k+1)) by rw [HE2.out,List.append_assoc]);have HLN:=qH (show(bss L).length+(bss more).length≤1000000000 by have h:=congrArg List.length HE4.out;rw [List.length_append,List.length_append] at h;have:=HBD.out;rw [BM,BM];omega);clear HE HE2;go_wp2
      go_region
      go_wp2
      go_region_held3 (fun W=>W.cell? ⟨w.heap.size,0,none⟩=some (.int .i64 n)∧W.cell? ⟨w.heap.size,3,none⟩=some (.slice (some ⟨g1,o1,none⟩) near.length c1)∧W.cell? ⟨w.heap.size,4,none⟩=some (.slice (some ⟨g2,o2,none⟩) paths.length c2)∧W.cell? ⟨g0,o0+k,none⟩=some (.int .i64 ci)∧W.cell? ⟨g1,o1+k*2,none⟩=some (.string p1)∧W.cell? ⟨g1,o1+k*2+1,none⟩=some (.string p2)∧W.cell? ⟨g2,o2+k,none⟩=some u)
       (first|exact⟨(Ad o5.below).cell x0,(Ad o5.below).cell x3,(Ad o5.below).cell x4,(Ad o5.below).cell z0,(Ad o5.below).cell z1,(Ad o5.below).cell z2,(Ad o5.below).cell z3⟩|go_keep)
       (first|(go_at_call 130;refine(HRE.out _ (by exact rr)).mono ?_;clear HRE;rintro en w5 ⟨A5,m5,c5,rfl,o5⟩))
      all_goals have OA:=qH ((HO.out.after (Below.drewN (Below.drewN (Below.refl _ _) 1) 1)).after o5.below)
      all_goals have OB:=qH o5
      all_goals clear o5
      all_goals go_wp2_with (at_builtin;refine BQ _ rfl _ _ rfl V.heap.size _ (.slice A m c) (.slice A5 m5 c5) (bss L) (bss more) rfl rfl V OA.out OB.out.txs HLN.out ?_;intro v7 w7 o7 g7;rw [←Co] at o7;obtain⟨A7,c7,rfl⟩:=ND o7;have O7:=qH o7;clear o7 g7 OA OB)
      all_goals go_roundw
      case rel=>exact⟨k+1,A7,_,c7,L++more,by omega,by go_num,rfl,qH ⟨HE3.out,HE4.out⟩,qH (by have h:=O7.out;rwa [List.length_append] at h)⟩
      case measure=>simp [intOf];omega
   ·rcases De p1 key with h6|h6|h6
    ·rw [decide_eq_true h6] at hless
     clear heq;rw [s3] at HE;clear s2
     have h3:r=false:=by rw [HR.out,HE.out];simp
     subst h3;clear HR HE HE2 HSD HRE HI2 HLL;have HF:=qH (Em (L:=LL) (Below.drewN HSS.out.below 1));go_wp2
     go_region
     go_wp2
     go_ret2
     exact HF.out
    ·rw [decide_eq_false (by rw [h6];decide)] at hless
     rw [decide_eq_true h6] at heq;rw [s3] at HE;clear s2
     have h3:r=false:=by rw [HR.out,HE.out];simp
     subst h3;clear HR HE HE2 HSD HRE HI2 HLL;have HF:=qH (Em (L:=LL) (Below.drewN HSS.out.below 1));go_wp2
     go_region
     go_wp2
     go_ret2
     exact HF.out
    ·exact absurd h6 s2
  ·obtain rfl:k=P.length:=by omega
   have hall:BL root key pos n lo near paths=true:=by
    rw [HI.out.1,List.drop_eq_nil_of_le (by have:=HL.out;omega)]
    cases paths.drop P.length<;>rfl
   have htx:Bd n lo near paths=L:=by
    have h:=HI.out.2;rw [List.drop_eq_nil_of_le (by have:=HL.out;omega)] at h
    have e:∀ i qs,Bd n i [] qs=[]:=by intro i qs;unfold Bd;rfl
    rw [e,List.append_nil] at h;exact h
   have HSS:=qH (show Aa w wr from Ad (Ae HW.out.below hS.below));have x0:=hS.cell y0;have HR2:=qH (HR.out.trans (show _=(decide (0<n)||decide (root=Ax (Bt 0 []))) by rw [hall,Bool.true_and]));have HL2:=qH (HLL.out.trans (show _=(if n=0 then [Bt 0 []] else L) by rw [htx]));have HO2:=qH (Aq.from HW.out.below HO.out);clear HI hall htx HR HLL HC HQ HL HPA HBD HPC HO HW;by_cases h6:0<n
   ·have h3:r=true:=by rw [HR2.out,decide_eq_true h6];rfl
    have h7:LL=L:=by rw [HL2.out,if_neg (by omega)]
    have hn0:(n==0)=false:=beq_eq_false_iff_ne.2 (by omega);subst h3 h7;clear HR2 HL2;go_wp2
    go_ret2
    exact⟨_,_,rfl,HO2.out,fun _=>rfl⟩
   ·have h8:decide (0<n)=false:=decide_eq_false h6
    have hr2:=HR2.out
    obtain rfl:n=0:=by omega
    have h7:LL=[Bt 0 []]:=by rw [HL2.out,if_pos rfl]
    rw [h8,Bool.false_or] at hr2;subst h7;clear HR2 h8 HL2 HO2;generalize Ax (Bt 0 [])=y at *;generalize Bt 0 []=z at *
    go_wp2_with fail
    refine(HT.out _ HSS.out).mono ?_;rintro en w5 ⟨rfl,s5⟩;have S5:=qH s5;clear HT s5
    go_wp2_with fail
    refine(HS.out _ S5.out).mono ?_;rintro en w6 ⟨rfl,s6⟩;have HF:=qH (show ∀ b,Dh w b [z] (.returned (.tuple #[.bool b,.slice (some ⟨w6.heap.size,0,none⟩) 1 1])) (w6.alloc (.cells #[.string (bs z)] 9)) from fun b=>⟨_,[z],rfl,NA s6.below (bs z),fun _=>rfl⟩);clear HS S5 s6;by_cases h9:root=y
    ·have h3:r=true:=by rw [hr2,decide_eq_true h9]
     subst h3 h9;clear hr2;go_wp2
     go_ret2
     exact HF.out _
    ·have h3:r=false:=by rw [hr2,decide_eq_false h9]
     subst h3;have hne:=Eh (Tb (Ne.symm h9));clear hr2 h9;go_wp2
     go_ret2
     exact HF.out _
theorem aC (root:List UInt8) (key:ByteArray) (x:Pf) (v:Value) (w:World) (hP:Prf w v x) (hI:Xl x) (hz:x.near.length≤2→x.paths.length≤2→∀ q ∈ x.paths,q.length≤1000000∧∀ y ∈ q,y.length≤70000) :
  Calls qP 82 #[.string (bs root),.string key,v] w (Dh w (CC root key x) (QU x)):=by
 have hcount:=RM x;have hlen:=XH x.pos x.n;have hat:=ZY (x:=x);have hi:=hI;obtain⟨n0,n1,p0,p1,_,_⟩:=hi;clear hI;obtain⟨n,pos,there,near,paths⟩:=x;obtain⟨nv,pv,rfl,⟨A1,c1,rfl,_,hc1⟩,⟨A2,c2,rfl,_,hc⟩⟩:=hP;simp only at hz hc hc1 hcount hlen hat n0 n1 p0 p1 ⊢
 have HPl:Hid (∀ W,Aa w W→Calls qP 131 #[.agg #[.int .i64 n,.int .i64 pos,.bool there,.slice A1 near.length c1,.slice A2 paths.length c2]] W (JE W (Io pos n))) :=
  qH fun W _=>(aA n pos there A1 A2 near.length c1 paths.length c2 W p0 p1).mono fun e w' ⟨v,he,ho⟩=>by
   obtain⟨A,c,rfl,h⟩:=ho.ints;exact⟨A,c,he,Ad ho.below,h⟩
 by_cases h1:there=true∨pos<0∨n<pos
 ·have e:CC root key ⟨n,pos,there,near,paths⟩=false:=by
   unfold CC;rw [decide_eq_false,Bool.false_and,Bool.false_and];rintro⟨f1,f2,f3,_,_⟩;simp only at f1 f2 f3
   rcases h1 with h|h|h
   ·rw [f1] at h;cases h
   ·omega
   ·omega
  rw [e];exact Ve _ _ n pos there _ _ _ w h1
 ·have h2:there=false:=by cases there with
   | false=>rfl
   | true=>exact absurd (.inl rfl) h1
  subst h2
  have h3:0≤pos:=by by_cases h:pos<0;exact absurd (.inr (.inl h)) h1;omega
  have h4:pos≤n:=by by_cases h:n<pos;exact absurd (.inr (.inr h)) h1;omega
  by_cases hF:near.length=(Io pos n).length∧paths.length=(Io pos n).length
  ·have hfit:OI ⟨n,pos,false,near,paths⟩:=⟨rfl,h3,h4,by simp only;rw [←hcount];omega,by simp only;rw [←hcount];omega⟩
   have e:CC root key ⟨n,pos,false,near,paths⟩=(BL root key pos n (loI ⟨n,pos,false,near,paths⟩) near paths&&(decide (0<n)||decide (root=Ax (Bt 0 [])))):=by
    unfold CC;rw [decide_eq_true hfit,Bool.true_and]
   rw [e];have hq:=hz (by omega) (by omega);have hb:=Lw 1000000 n near paths (loI ⟨n,pos,false,near,paths⟩) hq;exact Vg root key n pos _ (Io pos n) A1 A2 c1 c2 near paths w h3 h4 hF.1 hF.2 hlen (fun k h=>hat h4 k h) (by have:=hb.1;have:near.length*(1000000+2)≤2*(1000000+2):=Nat.mul_le_mul_right _ (by omega);omega) hc1
    (fun k q hk=>by
      obtain⟨b,off,u,rfl,d,hT,hR⟩:=hc k q hk;have h5:=hq q (List.mem_of_getElem? hk)
      exact⟨b,off,u,rfl,d,fun p i W hW=>(XK root p q u i n W ((hT.below hW.below).more hW.2.2.2.1) hR n1 h5.1 h5.2).mono fun e w' ⟨v,he,ho⟩=>by
       obtain⟨A,c,rfl⟩:=ND ho
       exact⟨A,_,c,he,ho⟩⟩)
    HPl
    (qH fun W hW=>(Xt 0 [] W (by simp)).mono fun e w' ⟨he,hb⟩=>⟨he,Ad (Ae hW.below hb)⟩)
    (qH fun W hW=>(JY (Bt 0 []) _ (qH rfl) W (by have:=GZ 0 [];simp at this;omega)).mono fun e w' ⟨he,hb⟩=>⟨he,Ad (Ae hW.below hb)⟩)
  ·have e:CC root key ⟨n,pos,false,near,paths⟩=false:=by
    unfold CC;rw [decide_eq_false,Bool.false_and,Bool.false_and];rintro⟨_,_,_,f4,f5⟩;simp only at f4 f5;rw [←hcount] at f4 f5;exact hF ⟨by omega,by omega⟩
   rw [e];refine Vf _ _ n pos (Io pos n) A1 A2 _ c1 _ c2 _ w h3 h4 ?_ HPl;by_cases h5:near.length=(Io pos n).length
   ·exact .inr fun h6=>hF ⟨h5,h6⟩
   ·exact .inl h5
end Go.Proofs.YtkejaepmoabikaaGreatDoor.W
