import Derived.Laws.StructEq
import Derived.KernelRfl
import Derived.Deep.AppendLies
import Derived.Laws.Append
import Derived.Test.YtkejaepmoabikaaGreatDoorRows
import Derived.WalkKit
import Derived.ProofKit
import Derived.OpenShut
import Derived.ShutString
import Derived.ChangeOld
import Derived.Below
import Derived.JoinedCond
import Derived.Deep.Slices
import Derived.Deep.Fields
import Derived.Lib.SmallJoins
import Derived.SliceStrings
import Derived.Deep.RegionHeld3
import Derived.IntWalk
import Derived.Maps.OwnIn
import Derived.Maps.AppendAt
import Derived.Laws.AppendOwn
import Derived.Laws.Cover1
import Derived.Test.YtkejaepmoabikaaGreatDoorP0c
import Derived.Test.YtkejaepmoabikaaGreatDoorP0b
import Derived.Test.YtkejaepmoabikaaGreatDoorP0a
namespace Go.Proofs.YtkejaepmoabikaaGreatDoor.W
open Go.RowKit
open Lib renaming hid → qH
open _root_.Go.Proofs.Tryz renaming prog → qP
set_option maxHeartbeats 2000000
set_option maxRecDepth 100000
theorem Tz (k:Int) (w:World):Calls qP 115 #[.int .i64 k] w fun e w'=>e=.returned (.string (bs (wd k)))∧w=w':=by
 rcases Ft k with rfl|rfl|rfl|⟨h,h1,h2,h3⟩
 ·go_enter Tryz.func115,Tryz.ntmps115
  go_wp2
  go_ret
  exact⟨rfl,rfl⟩
 ·go_enter Tryz.func115,Tryz.ntmps115
  go_wp2
  go_ret
  exact⟨rfl,rfl⟩
 ·go_enter Tryz.func115,Tryz.ntmps115
  go_wp2
  go_ret
  exact⟨rfl,rfl⟩
 ·have HE:=qH (congrArg bs h)
  clear h;go_enter Tryz.func115,Tryz.ntmps115;go_wp2
  go_ret
  exact⟨by rw [HE.out];rfl,rfl⟩
theorem Il {k:Int} (h:wd k=[]) (w:World):Calls qP 115 #[.int .i64 k] w fun e w'=>e=.returned (.string ⟨#[]⟩)∧w=w':=by
 have:=Tz k w;rw [h] at this;exact this
theorem ZM (n:Nat) (hn:n≤1099511627776) (w:World) :
  Calls qP 159 #[.int .i64 n] w fun e w'=>e=.returned (.string (bs (dcm n)))∧Below w.heap.size w w':=by
 have hle:=Fa n hn;go_enter Tryz.func159,Tryz.ntmps159;go_wp2
 go_loopw [0,3] (fun v s wr=>∃(j:Nat) (t:List UInt8),v=.int .i64 j∧s=.string (bs t)∧j≤1099511627776∧Hid (dcm j++t=dcm n)∧Below w.heap.size w wr) (fun v _ _=>(intOf v).toNat)
 case atStart=>exact⟨n,[],rfl,rfl,hn,by unfold Hid;simp,Below.refl _ _⟩
 case round =>
  obtain⟨j,t,rfl,rfl,hj,hcat,hbel⟩:=hrel
  have htl:t.length≤13:=by have:=congrArg List.length hcat.out;rw [List.length_append] at this;omega
  have hsz:=hbel.size;by_cases hpos:10≤j
  ·have hcv:=IB wr (48+(j:Int)%10) (by omega) (by omega)
   have e8:(48+(j:Int)%10).toNat=48+j%10:=by omega
   rw [e8] at hcv;obtain⟨c,hc⟩:∃ c,UInt8.ofNat (48+j%10)=c:=⟨_,rfl⟩;rw [hc] at hcv;have HC:=qH hc;have hadd:=fun W=>AB W [c] t (by simp;omega);clear e8 hc;go_wp2
   go_roundw
   case rel =>
    refine⟨j/10,c::t,by go_num,rfl,by omega,?_,hbel.alloc hsz _⟩;have e:=GX (n:=j) (by omega);have h2:=hcat.out;rw [e,HC.out] at h2;unfold Hid;rw [←h2];simp
   case measure=>simp [intOf];omega
  ·have hcv:=IB wr (48+(j:Int)) (by omega) (by omega)
   have e8:(48+(j:Int)).toNat=48+j:=by omega
   rw [e8] at hcv;obtain⟨c,hc⟩:∃ c,UInt8.ofNat (48+j)=c:=⟨_,rfl⟩;rw [hc] at hcv;have hadd:=fun W=>AB W [c] t (by simp;omega)
   have HE:Hid (bs ([c]++t)=bs (dcm n)):=qH (by
    rw [←hcat.out,Dq (by omega),hc])
   clear e8 hc;go_wp2
   go_ret
   exact⟨by rw [←HE.out];rfl,hbel.alloc hsz _⟩
theorem Rm {l:List UInt8} (h:l≠[]):bs l≠⟨#[]⟩:=by
 intro e;have:=congrArg (fun x:ByteArray=>x.data.toList) e;rw [Bs] at this;exact h this
theorem cM (k n:Int) (w:World):Calls qP 119 #[.int .i64 k,.int .i64 n] w fun e w'=>e=.returned (mkV k n)∧Below w.heap.size w w':=by
 by_cases h:wd k=[]
 ·have HE:=qH (Tu h n)
  have HW:=qH (Il h);have hem:=KK;clear h;go_enter Tryz.func119,Tryz.ntmps119
  go_wp2_with fail
  refine(HW.out w).mono ?_;rintro e w1 ⟨rfl,rfl⟩;go_wp2
  go_ret2
  exact⟨by rw [HE.out];rfl,Below.refl _ _⟩
 ·have HW:=qH (Tz k)
  have hw:=Nq k;have hem:=KJ (Rm h);by_cases h0:n<0
  ·have HE:=qH (Hf h (.inl h0))
   clear h;go_enter Tryz.func119,Tryz.ntmps119
   go_wp2_with fail
   refine(HW.out w).mono ?_;rintro e w1 ⟨rfl,rfl⟩;go_wp2
   go_ret2
   exact⟨by rw [HE.out];rfl,Below.refl _ _⟩
  ·by_cases h1:1099511627776<n
   ·have HE:=qH (Hf h (.inr h1))
    clear h;go_enter Tryz.func119,Tryz.ntmps119
    go_wp2_with fail
    refine(HW.out w).mono ?_;rintro e w1 ⟨rfl,rfl⟩;go_wp2
    go_ret2
    exact⟨by rw [HE.out];rfl,Below.refl _ _⟩
   ·have HE:=qH (WV (n:=n) h (by omega))
    clear h;obtain⟨m,rfl⟩:∃ m:Nat,n=m:=⟨n.toNat,by omega⟩
    have hm:m≤1099511627776:=by omega
    go_enter Tryz.func119,Tryz.ntmps119
    go_wp2_with fail
    refine(HW.out w).mono ?_;rintro e w1 ⟨rfl,rfl⟩
    go_wp2_with fail
    refine(HW.out w).mono ?_;rintro e w1 ⟨rfl,rfl⟩
    go_wp2_with fail
    refine(ZM m hm w).mono ?_;rintro e w1 ⟨rfl,b1⟩;have hadd:=AB w1 (wd k) (dcm m) (by have:=Fa m hm;omega);go_wp2
    go_ret2
    exact⟨by rw [HE.out];rfl,b1⟩
theorem ZN (c:UInt8) (w:World):Calls qP 158 #[.int .u8 c.toNat] w fun e w'=>e=.returned (.bool (ltr c))∧w=w':=by
 have hb:=c.toNat_lt;go_enter Tryz.func158,Tryz.ntmps158;go_wp2
 all_goals
  go_ret
  refine⟨?_,rfl⟩;refine congrArg (fun b=>Ending.returned (Value.bool b)) (?_:_=ltr c)
  first
   | (refine Eq.symm (?_:ltr c=true)
      simp only [ltr,Bool.or_eq_true,decide_eq_true_eq]
      omega)
   | (rw [Bool.eq_iff_iff]
      simp only [ltr,Bool.or_eq_true,decide_eq_true_eq,beq_iff_eq]
      omega)
theorem eA (s:ByteArray) (w:World) (hs:s.size≤1000000) :
  Calls qP 117 #[.string s] w fun e w'=>e=.returned (.bool (plain s.data.toList))∧w=w':=by
 go_enter Tryz.func117,Tryz.ntmps117;go_wp2
 go_loop [3] (fun i=>∃ k:Nat,k≤s.size∧i=.int .i64 k∧(s.data.toList.take k).all ltr=true) (fun i=>s.size-(intOf i).toNat)
 case atStart=>exact⟨0,Nat.zero_le _,rfl,rfl⟩
 case round =>
  obtain⟨k,hk,rfl,hall⟩:=hrel;by_cases hlt:k<s.size
  ·have hb:=s[k].toNat_lt
   have HS:=qH (Pi hall hlt);have HF:=qH (Pj hlt);clear hall
   go_wp2_with fail
   refine(ZN s[k] w).mono ?_;rintro e w1 ⟨rfl,rfl⟩
   cases hl:ltr s[k] with
   | true =>
     have HR:=qH (HS.out hl);clear hl;go_wp2
     go_round
     case rel=>exact⟨k+1,by omega,by go_num,HR.out⟩
     case measure=>simp [intOf];omega
   | false =>
     have HR:Hid (plain s.data.toList=false):=qH (by unfold plain;rw [HF.out hl];rfl);clear hl;go_wp2
     go_ret
     exact⟨by rw [HR.out];rfl,rfl⟩
  ·obtain rfl:k=s.size:=by omega
   have HE:=qH (Pk hall);clear hall;by_cases h1:1≤s.size
   ·by_cases h2:s.size≤64
    ·have HP:=qH ((MG h1 h2).trans HE.out)
     go_wp2
     go_ret
     refine⟨?_,rfl⟩
     show Ending.returned (Value.bool (decide ((s.size:Int)≤64)))=_
     rw [HP.out,decide_eq_true (by omega)]
    ·have HP:=qH (IR (s:=s) (by omega))
     go_wp2
     go_ret
     refine⟨?_,rfl⟩
     show Ending.returned (Value.bool (decide ((s.size:Int)≤64)))=_
     rw [HP.out,decide_eq_false (by omega)]
   ·have HP:=qH (IR (s:=s) (by omega))
    go_wp2
    go_ret
    exact⟨by rw [HP.out];rfl,rfl⟩
theorem Po {k:Int} {l:List UInt8} (h:l.length≤(wd k).length∨(wd k).length+13<l.length):∀ n,mkE k n=0→mkS k n≠l:=by
 intro n h1 h2;obtain⟨e,h0,hn⟩:=Ot h1 h2;have h3:=Zz n.toNat;have h4:=Fa n.toNat (by omega);have h5:=congrArg List.length e;rw [List.length_append] at h5
 omega
theorem Pp {k:Int} {d:List UInt8} {b:UInt8} (hb:b ∈ d) (h:b.toNat<48∨57<b.toNat):∀ n,mkE k n=0→mkS k n≠wd k++d:=by
 intro n h1 h2;obtain⟨e,h0,hn⟩:=Ot h1 h2;have:d=dcm n.toNat:=List.append_cancel_left e;rw [this] at hb;have:=Mm _ b hb
 omega
theorem WZ {k:Int} {m:Nat} {d:List UInt8} (hv:Lib.decFrom 0 d=some m) (h:¬(mkE k m=0∧mkS k m=wd k++d)):∀ n,mkE k n=0→mkS k n≠wd k++d:=by
 intro n h1 h2;obtain⟨e,h0,hn⟩:=Ot h1 h2;have e2:d=dcm n.toNat:=List.append_cancel_left e;rw [e2,EW] at hv
 injection hv with hv
 have:n=m:=by omega
 subst this;exact h ⟨h1,h2⟩
theorem Im (k v:Int) (q:ByteArray) (z:Int) (h1:bs (mkS k v)=q) (h2:mkE k v=z) (w:World) :
  Calls qP 119 #[.int .i64 k,.int .i64 v] w fun e w'=>e=.returned (.tuple #[.string q,.int .i64 z])∧Below w.heap.size w w':=by
 subst h1 h2;exact cM k v w
theorem Pq (s:ByteArray) (m:Nat):(s.extract 0 m).data.toList=s.data.toList.take m:=by
 rw [ByteArray.data_extract];simp
theorem ZO {s q:ByteArray} (h:((s.extract 0 q.size).toList==q.toList)=true):∃ d,s.data.toList=q.data.toList++d:=by
 have e:=congrArg (fun x:ByteArray=>x.data.toList) (Fg h);simp only [Pq] at e;exact⟨s.data.toList.drop q.size,by rw [←e,List.take_append_drop]⟩
theorem eB {s q:ByteArray} (h:((s.extract 0 q.size).toList==q.toList)=false):∀ d,s.data.toList≠q.data.toList++d:=by
 intro d e
 have e2:s.extract 0 q.size=q:=by
  refine Go.WideShapes.bytes_inj ?_;rw [Pq,e,←Ah q,List.take_left]
 rw [e2] at h;simp at h
def Hr (s q:ByteArray) (p m:Nat):Prop:=Lib.decFrom 0 ((s.data.toList.take p).drop q.size)=some m
theorem Hr.start (s q:ByteArray):Hr s q q.size 0:=by
 unfold Hr;rw [List.drop_eq_nil_of_le (by rw [List.length_take];omega)]
 rfl
theorem Hr.step {s q:ByteArray} {p m:Nat} (h:Hr s q p m) (hq:q.size≤p) (hp:p<s.size) (h1:48≤s[p].toNat) (h2:s[p].toNat≤57):Hr s q (p+1) (m*10+(s[p].toNat-48)):=by
 unfold Hr at h ⊢;rw [Je s p hp,List.drop_append_of_le_length (by rw [List.length_take,Ah];omega),EF,h];simp only [Option.bind_some,Lib.decFrom,Lib.digitVal];rw [if_pos ⟨h1,h2⟩]
theorem Hr.lt {s q:ByteArray} {p m:Nat} (h:Hr s q p m) (hp:p≤q.size+12):m<1000000000000:=by
 have h3:=Lib.decFrom_lt _ _ _ h
 have h4:((s.data.toList.take p).drop q.size).length≤12:=by rw [List.length_drop,List.length_take];omega
 have h5:=Nat.pow_le_pow_right (n:=10) (by omega) h4
 omega
theorem Hr.lt13 {s q:ByteArray} {p m:Nat} (h:Hr s q p m) (hp:p≤q.size+13):m<10000000000000:=by
 have h3:=Lib.decFrom_lt _ _ _ h
 have h4:((s.data.toList.take p).drop q.size).length≤13:=by rw [List.length_drop,List.length_take];omega
 have h5:=Nat.pow_le_pow_right (n:=10) (by omega) h4
 omega
theorem Hr.all {s q:ByteArray} {m:Nat} {d:List UInt8} (h:Hr s q s.size m) (e:s.data.toList=q.data.toList++d):Lib.decFrom 0 d=some m:=by
 unfold Hr at h;rw [List.take_of_length_le (by rw [Ah];exact Nat.le_refl _),e,←Ah q,List.drop_left] at h;exact h
theorem Pr {s q:ByteArray} {d:List UInt8} (e:s.data.toList=q.data.toList++d) {p:Nat} (hq:q.size≤p) (hp:p<s.size):s[p] ∈ d:=by
 have h1:s.data.toList[p]?=some s[p]:=by
  rw [List.getElem?_eq_getElem (by rw [Ah];exact hp)]
  rfl
 rw [e,List.getElem?_append_right (by rw [Ah];exact hq)] at h1;exact List.mem_of_getElem? h1
theorem ZP (k:Int) (s:ByteArray) (w:World) :
  Calls qP 116 #[.int .i64 k,.string s] w fun e w'=>e=.returned (nmV k s.data.toList)∧Below w.heap.size w w':=by
 by_cases h:wd k=[]
 ·have HE:=qH (Tv h s.data.toList)
  have HW:=qH (Il h);have hem:=KK;clear h;go_enter Tryz.func116,Tryz.ntmps116
  go_wp2_with fail
  refine(HW.out w).mono ?_;rintro e w1 ⟨rfl,rfl⟩;go_wp2
  go_ret2
  exact⟨by rw [HE.out];rfl,Below.refl _ _⟩
 ·have HW:=qH (Tz k)
  have hw:=Nq k;have hem:=KJ (Rm h);have hqs:=Aw (wd k);have HQ:=qH (Bs (wd k));have hls:=Ah s;generalize bs (wd k)=q at *;by_cases h1:s.size≤q.size
  ·have HE:=qH (Ik (l:=s.data.toList) h (Po (.inl (by omega))))
   clear h hqs hls;go_enter Tryz.func116,Tryz.ntmps116
   go_wp2_with fail
   refine(HW.out w).mono ?_;rintro e w1 ⟨rfl,rfl⟩;go_wp2
   go_ret2
   exact⟨by rw [HE.out];rfl,Below.refl _ _⟩
  ·by_cases h2:q.size+13<s.size
   ·have HE:=qH (Ik (l:=s.data.toList) h (Po (.inr (by omega))))
    have hq9:q.size≤11:=by omega
    clear h hqs hls;go_enter Tryz.func116,Tryz.ntmps116
    go_wp2_with fail
    refine(HW.out w).mono ?_;rintro e w1 ⟨rfl,rfl⟩;go_wp2
    go_ret2
    exact⟨by rw [HE.out];rfl,Below.refl _ _⟩
   ·have hq9:q.size≤11:=by omega
    clear hqs hls
    cases hp:((s.extract 0 q.size).toList==q.toList) with
    | false =>
      have HE:=qH (Ik (l:=s.data.toList) h (Ty (by rw [←HQ.out];exact eB hp)));clear h;go_enter Tryz.func116,Tryz.ntmps116
      go_wp2_with fail
      refine(HW.out w).mono ?_;rintro e w1 ⟨rfl,rfl⟩;go_wp2
      go_ret2
      exact⟨by rw [HE.out];rfl,Below.refl _ _⟩
    | true =>
      obtain⟨d,hd⟩:=ZO hp;have HD:=qH hd
      have hd2:s.data.toList=wd k++d:=by rw [←HQ.out];exact hd
      have HD2:=qH hd2;have HN:=qH (fun H=>Ik (l:=s.data.toList) h H);clear h hd hd2;go_enter Tryz.func116,Tryz.ntmps116
      go_wp2_with fail
      refine(HW.out w).mono ?_;rintro e w1 ⟨rfl,rfl⟩;go_wp2;clear hp hem
      go_loop [7,8] (fun v i=>∃ p m:Nat,v=.int .i64 m∧i=.int .i64 p∧q.size≤p∧p≤s.size∧Hid (Hr s q p m)) (fun _ i=>s.size-(intOf i).toNat)
      case atStart=>exact⟨q.size,0,rfl,rfl,Nat.le_refl _,by omega,qH (Hr.start s q)⟩
      case round =>
       obtain⟨p,m,rfl,rfl,hqp,hps,HR⟩:=hrel;by_cases hlt:p<s.size
       ·have hb:=s[p].toNat_lt
        have hm:=HR.out.lt (by omega);by_cases c1:s[p].toNat<48
        ·have HE:=qH (HN.out (by rw [HD2.out];exact Pp (Pr HD.out hqp hlt) (.inl c1)))
         go_wp2
         go_ret2
         exact⟨by rw [HE.out];rfl,Below.refl _ _⟩
        ·by_cases c2:57<s[p].toNat
         ·have HE:=qH (HN.out (by rw [HD2.out];exact Pp (Pr HD.out hqp hlt) (.inr c2)))
          go_wp2
          go_ret2
          exact⟨by rw [HE.out];rfl,Below.refl _ _⟩
         ·have HR2:=qH (HR.out.step hqp hlt (by omega) (by omega))
          go_wp2
          go_round
          case rel=>exact⟨p+1,m*10+(s[p].toNat-48),by go_num,by go_num,by omega,by omega,HR2⟩
          case measure=>simp [intOf];omega
       ·obtain rfl:p=s.size:=by omega
        have hm:=HR.out.lt13 (by omega);have hv:=HR.out.all HD.out;by_cases hm2:mkE k m=0∧mkS k m=wd k++d
        ·have HE:=qH (Tw hm2.1 (hm2.2.trans HD2.out.symm))
         have HM:=qH (Im k m s 0 (by rw [hm2.2,←HD2.out,Ch]) hm2.1);clear hv hm2
         go_wp2_with fail
         refine(HM.out w).mono ?_;rintro e w2 ⟨rfl,b2⟩;go_wp2
         go_ret2
         exact⟨by rw [HE.out];rfl,b2⟩
        ·have HE:=qH (HN.out (by rw [HD2.out];exact WZ hv hm2))
         by_cases hz:mkE k m=0
         ·have hne:bs (mkS k m)≠s:=by
           intro e;refine hm2 ⟨hz,?_⟩;rw [←HD2.out,←e,Bs]
          have HM:=qH (Im k m (bs (mkS k m)) 0 rfl hz);generalize bs (mkS k m)=y at *
          replace hne:=Eh hne
          clear hv hm2 hz
          go_wp2_with fail
          refine(HM.out w).mono ?_;rintro e w2 ⟨rfl,b2⟩;go_wp2
          go_ret2
          exact⟨by rw [HE.out];rfl,b2⟩
         ·have HM:=qH (Im k m (bs (mkS k m)) (mkE k m) rfl rfl)
          generalize bs (mkS k m)=y at *;generalize mkE k m=z at *;clear hv hm2
          go_wp2_with fail
          refine(HM.out w).mono ?_;rintro e w2 ⟨rfl,b2⟩;go_wp2
          go_ret2
          exact⟨by rw [HE.out];rfl,b2⟩
theorem Nr (k:Int) (s:ByteArray) (a b:Int) (h1:nmN k s.data.toList=a) (h2:nmE k s.data.toList=b) (w:World) :
  Calls qP 116 #[.int .i64 k,.string s] w fun e w'=>e=.returned (.tuple #[.int .i64 a,.int .i64 b])∧Below w.heap.size w w':=by
 subst h1 h2;exact ZP k s w
theorem JX (s:ByteArray) (hs:s.size≤1000000) (b:Bool) (h:plain s.data.toList=b) (w:World) :
  Calls qP 117 #[.string s] w fun e w'=>e=.returned (.bool b)∧w=w':=by
 subst h;exact eA s w hs
theorem Ps {k:Int} (h:wd k=[]) (h1:0≤k) (h2:k≤6) (l:List UInt8):ck k l=if plain l then 0 else 7:=by
 rw [ck,if_neg (by omega),if_pos h]
theorem eC (k:Int) (s:ByteArray) (w:World) (hs:s.size≤1000000) :
  Calls qP 70 #[.int .i64 k,.string s] w fun e w'=>e=.returned (.int .i64 (ck k s.data.toList))∧Below w.heap.size w w':=by
 by_cases h0:k<0
 ·have HE:=qH (Rl (.inl h0) s.data.toList)
  go_enter Tryz.func70,Tryz.ntmps70;go_wp2
  go_ret
  exact⟨by rw [HE.out];rfl,Below.refl _ _⟩
 ·by_cases h6:6<k
  ·have HE:=qH (Rl (.inr h6) s.data.toList)
   go_enter Tryz.func70,Tryz.ntmps70;go_wp2
   go_ret
   exact⟨by rw [HE.out];rfl,Below.refl _ _⟩
  ·by_cases h:wd k=[]
   ·have HW:=qH (Il h)
    have hem:=KK;have HE:=qH (Ps h (by omega) (by omega) s.data.toList);clear h
    cases hp:plain s.data.toList with
    | true =>
      have HP:=qH (JX s hs true hp);have HZ:=qH hp;clear hp;go_enter Tryz.func70,Tryz.ntmps70
      go_wp2_with fail
      refine(HW.out w).mono ?_;rintro e w1 ⟨rfl,rfl⟩
      go_wp2_with fail
      refine(HP.out w).mono ?_;rintro e w1 ⟨rfl,rfl⟩;go_wp2
      go_ret
      exact⟨by rw [HE.out,HZ.out];rfl,Below.refl _ _⟩
    | false =>
      have HP:=qH (JX s hs false hp);have HZ:=qH hp;clear hp;go_enter Tryz.func70,Tryz.ntmps70
      go_wp2_with fail
      refine(HW.out w).mono ?_;rintro e w1 ⟨rfl,rfl⟩
      go_wp2_with fail
      refine(HP.out w).mono ?_;rintro e w1 ⟨rfl,rfl⟩;go_wp2
      go_ret
      exact⟨by rw [HE.out,HZ.out];rfl,Below.refl _ _⟩
   ·have HW:=qH (Tz k)
    have hem:=KJ (Rm h);have HE:=qH (WX h s.data.toList);have HN:=qH (Nr k s _ _ rfl rfl);generalize nmN k s.data.toList=a at *;generalize nmE k s.data.toList=b at *;generalize bs (wd k)=q at *;clear h;go_enter Tryz.func70,Tryz.ntmps70
    go_wp2_with fail
    refine(HW.out w).mono ?_;rintro e w1 ⟨rfl,rfl⟩
    go_wp2_with fail
    refine(HN.out w).mono ?_;rintro e w1 ⟨rfl,b1⟩;go_wp2
    go_ret
    exact⟨by rw [HE.out];rfl,b1⟩
structure LAt (w:World) (go gx gr:Nat) (To Tx:TypeId) (oc xc:Array Value) (t:ByteArray) (e:Int) (W:World):Prop where
 o:Blk W go To oc
 x:Blk W gx Tx xc
 q:Blk W gr 93 #[.string t,.int .i64 e]
 s:Aa w W
 d:go≠gx∧go≠gr∧gx≠gr∧w.heap.size≤go∧w.heap.size≤gx∧w.heap.size≤gr
section
variable {w W W':World} {go gx gr:Nat} {To Tx:TypeId} {oc xc:Array Value} {t:ByteArray} {e:Int}
theorem LAt.next (h:LAt w go gx gr To Tx oc xc t e W) (k:Below W.heap.size W W'):LAt w go gx gr To Tx oc xc t e W':=⟨h.o.next k,h.x.next k,h.q.next k,Ad (Ae h.s.below k),h.d⟩
theorem LAt.setR (h:LAt w go gx gr To Tx oc xc t e W) (t':ByteArray) (e':Int):LAt w go gx gr To Tx oc xc t' e' ((W.setCell ⟨gr,0,none⟩ (.string t')).setCell ⟨gr,1,none⟩ (.int .i64 e')) :=
 have d:=h.d
 ⟨(h.o.far (p:=⟨gr,0,none⟩) d.2.1 _).far (p:=⟨gr,1,none⟩) d.2.1 _,(h.x.far (p:=⟨gr,0,none⟩) d.2.2.1 _).far (p:=⟨gr,1,none⟩) d.2.2.1 _,(h.q.set_ 0 _).set_ 1 _,Ak (Ak h.s d.2.2.2.2.2 _) d.2.2.2.2.2 _,d⟩
theorem LAt.setX (h:LAt w go gx gr To Tx oc xc t e W) (i:Nat) (v:Value):LAt w go gx gr To Tx oc (xc.setIfInBounds i v) t e (W.setCell ⟨gx,i,none⟩ v) :=
 have d:=h.d
 ⟨h.o.far (p:=⟨gx,i,none⟩) d.1 _,h.x.set_ i v,h.q.far (p:=⟨gx,i,none⟩) d.2.2.1.symm _,Ak h.s d.2.2.2.2.1 _,d⟩
theorem LAt.q0 (h:LAt w go gx gr To Tx oc xc t e W):W.cell? ⟨gr,0,none⟩=some (.string t):=h.q.c 0 rfl
theorem LAt.q1 (h:LAt w go gx gr To Tx oc xc t e W):W.cell? ⟨gr,1,none⟩=some (.int .i64 e):=h.q.c 1 rfl
theorem LAt.xcell (h:LAt w go gx gr To Tx oc xc t e W) (i:Nat) {v:Value} (hv:xc[i]?=some v):W.cell? ⟨gx,i,none⟩=some v:=h.x.c i hv
end
theorem put4 {W:World} {b:Nat} {t:TypeId} {a0 a1 a2 a3:Value} (h:Blk W b t #[a0,a1,a2,a3]) (v0 v1 v2 v3:Value) :
  Blk ((((W.setCell ⟨b,0,none⟩ v0).setCell ⟨b,1,none⟩ v1).setCell ⟨b,2,none⟩ v2).setCell ⟨b,3,none⟩ v3) b t #[v0,v1,v2,v3] :=
 (((h.set_ 0 v0).set_ 1 v1).set_ 2 v2).set_ 3 v3
theorem Bv {w W:World} {b:Nat} (h:Aa w W) (hb:w.heap.size≤b) (v0 v1 v2 v3:Value) :
  Aa w ((((W.setCell ⟨b,0,none⟩ v0).setCell ⟨b,1,none⟩ v1).setCell ⟨b,2,none⟩ v2).setCell ⟨b,3,none⟩ v3) :=
 Ak (Ak (Ak (Ak h (p:=⟨b,0,none⟩) hb v0) (p:=⟨b,1,none⟩) hb v1) (p:=⟨b,2,none⟩) hb v2) (p:=⟨b,3,none⟩) hb v3
theorem put2 {W:World} {b:Nat} {t:TypeId} {a0 a1:Value} (h:Blk W b t #[a0,a1]) (v0 v1:Value) :
  Blk ((W.setCell ⟨b,0,none⟩ v0).setCell ⟨b,1,none⟩ v1) b t #[v0,v1]:=(h.set_ 0 v0).set_ 1 v1
theorem Cp {w W:World} {b:Nat} (h:Aa w W) (hb:w.heap.size≤b) (v0 v1:Value) :
  Aa w ((W.setCell ⟨b,0,none⟩ v0).setCell ⟨b,1,none⟩ v1):=Ak (Ak h (p:=⟨b,0,none⟩) hb v0) (p:=⟨b,1,none⟩) hb v1
theorem Bg {w W:World} (h:Aa w W):Aa w W.drew:=h
theorem CL {W:World} {g:Nat} {t:TypeId} {cs:Array Value} (h:Blk W g t cs):Blk W.drew g t cs:=h
theorem UP (n:Int):max 0 (min n 99999999999999)=(EE n:Int):=by unfold EE;omega
theorem Xa (n:Int) (w:World) :
  Calls qP 22 #[.int .i64 n] w fun e w'=>e=.returned (.string (bs (FM 14 (EE n))))∧Below w.heap.size w w':=by
 have hc:=UP n
 have hm:EE n≤99999999999999:=by unfold EE;omega
 generalize EE n=m at *;go_enter Tryz.func22,Tryz.ntmps22;go_wp2
 go_loopw [0,3,4] (fun v s i wr=>∃(k j:Nat) (t:List UInt8),k≤14∧v=.int .i64 j∧s=.string (bs t)∧i=.int .i64 k∧Hid (j=m/10 ^ k)∧j≤99999999999999∧Hid (t=FM k m)∧Below w.heap.size w wr) (fun _ _ i _=>14-(intOf i).toNat)
 case atStart=>exact⟨0,m,[],by omega,rfl,rfl,rfl,qH (by simp),hm,qH rfl,Below.refl _ _⟩
 case round =>
  obtain⟨k,j,t,hk,rfl,rfl,rfl,hj,hj1,ht,hbel⟩:=hrel
  have htl:t.length≤14:=by rw [ht.out,Iz];exact hk
  have hsz:=hbel.size;by_cases hlt:k<14
  ·have hcv:=IB wr (48+(j:Int)%10) (by omega) (by omega)
   have e8:(48+(j:Int)%10).toNat=48+j%10:=by omega
   rw [e8] at hcv;obtain⟨c,hc⟩:∃ c,UInt8.ofNat (48+j%10)=c:=⟨_,rfl⟩;rw [hc] at hcv;have HC:=qH hc;have hadd:=fun W=>AB W [c] t (by simp;omega);clear e8 hc;go_wp2
   go_roundw
   case rel =>
    refine⟨k+1,j/10,c::t,by omega,by go_num,rfl,by go_num,qH ?_,by omega,qH ?_,hbel.alloc hsz _⟩
    ·rw [hj.out,Nat.div_div_eq_div_mul,Nat.pow_succ]
    ·rw [Jk,←HC.out,ht.out,hj.out]
   case measure=>simp [intOf];omega
  ·obtain rfl:k=14:=by omega
   have HE:=qH (congrArg bs ht.out);go_wp2
   go_ret
   exact⟨by rw [HE.out];rfl,hbel⟩
theorem Kp (x y:ByteArray):x.toList=y.toList↔x=y:=⟨fun h=>Fg (by rw [h];simp),fun h=>by rw [h]⟩
theorem Xd (c c' r r' m m':ByteArray) (a a' b b':Int) (w:World) :
  (Op.equalIn 10000 34 (.agg #[.string c,.int .i64 a,.int .i64 b,.string r,.string m]) (.agg #[.string c',.int .i64 a',.int .i64 b',.string r',.string m'])).run qP w=.ok (decide (c=c'∧a=a'∧b=b'∧r=r'∧m=m')) w:=by
 have u1:=Tryz.underlying3;have u2:=Tryz.underlying9;have a1:=Tryz.isAgg3;have a2:=Tryz.isAgg9;have z1:=Tryz.sizeOf3;have z2:=Tryz.sizeOf9
 have hS:qP.underlying 34=some (.struct (qP.fieldsOf 34)):=by kernel_rfl
 have hp:qP.stoodInHeld 34=false:=by kernel_rfl
 rw [show(10000:Nat)=9999+1 from rfl,run_equalIn_agg w 9999 34 _ _ hS hp];simp only [Program.fieldsOf,Tryz.underlying34];go_simp;by_cases h1:c=c'<;>by_cases h2:a=a'<;>by_cases h3:b=b'<;>by_cases h4:r=r'<;>by_cases h5:m=m'<;>simp [h1,h2,h3,h4,h5,Kp]
theorem Rr:(qP.info? 74).map (fun i=>(i.zero,i.size,i.bytes))=some (some (.slice none 0 0),1,24):=by kernel_rfl
def Jz (w:World) (v:Value) (L:List (List (List UInt8))):Prop :=
 ∃ A cap,v=.slice A L.length cap∧L.length≤cap∧∀(i:Nat) q,L[i]?=some q→∃ b off u,A=some ⟨b,off,none⟩∧w.cell? ⟨b,off+i,none⟩=some u∧Txs w w.heap.size u (bss q)∧BU u
section
variable {w w':World} {v:Value} {L:List (List (List UInt8))}
theorem Jz.below (h:Jz w v L) (hb:Below w.heap.size w w'):Jz w' v L:=by
 obtain⟨A,cap,rfl,hl,hc⟩:=h;refine⟨A,cap,rfl,hl,fun i q hq=>?_⟩;obtain⟨b,off,u,rfl,h1,h2,h3⟩:=hc i q hq;exact⟨b,off,u,rfl,(Ad hb).cell h1,(h2.below hb).more hb.size,h3⟩
theorem Jz.nil (w:World) (A:Option Addr) (cap:Nat):Jz w (.slice A 0 cap) []:=⟨A,cap,rfl,Nat.zero_le _,fun i q h=>by simp at h⟩
theorem Xj {w:World} {g:Nat} {u:Value} {q:List (List UInt8)} (h:Blk w g 74 #[u]) (hT:Txs w w.heap.size u (bss q)) (hR:BU u):Jz w (.slice (some ⟨g,0,none⟩) 1 1) [q]:=by
 refine⟨_,1,rfl,Nat.le_refl _,fun i q' hq=>?_⟩;obtain⟨hi,e⟩:=List.getElem?_eq_some_iff.1 hq
 obtain rfl:i=0:=by simpa using hi
 obtain rfl:q=q':=by simpa using e
 exact⟨g,0,u,rfl,h.cell 0,hT,hR⟩
end
def AM (B:Nat) (v:Value) (L:List (List (List UInt8))) (w:World):Prop :=
 ∃ us:List Value,us.length=L.length∧w.ownsRow B 74 1 v L.length us∧B≤w.heap.size∧∀(i:Nat) u q,us[i]?=some u→L[i]?=some q→Txs w w.heap.size u (bss q)∧BU u∧∀ g,u.ownBlock=some g→B≤g∧g<w.heap.size∧some g≠v.ownBlock
section
variable {B:Nat} {v:Value} {L:List (List (List UInt8))} {w w':World}
theorem AM.nil (hB:B≤w.heap.size):AM B (.slice none 0 0) [] w:=⟨[],rfl,World.ownsRow_nil _ _ _ _,hB,fun i u q h=>by simp at h⟩
theorem AM.lt (h:AM B v L w):∀ g,v.ownBlock=some g→B≤g∧g<w.heap.size:=by
 obtain⟨us,_,h1,_⟩:=h;exact h1.lt
theorem AM.keep (h:AM B v L w) (hs:w.heap.size≤w'.heap.size) (hk:∀ g,B≤g→g<w.heap.size→w'.heap[g]?=w.heap[g]?):AM B v L w':=by
 obtain⟨us,h0,h1,h2,h3⟩:=h;refine⟨us,h0,?_,Nat.le_trans h2 hs,fun i u q hu hq=>?_⟩
 ·refine⟨h1.1,?_⟩
  rcases h1.2 with hn|⟨g,cap,cur,e1,e2,e3,rest⟩
  ·exact .inl hn
  ·refine .inr ⟨g,cap,cur,e1,e2,?_,rest⟩
   rw [hk g e2 (h1.lt g (by rw [e1];rfl)).2];exact e3
 ·obtain⟨hT,hR,hg⟩:=h3 i u q hu hq
  exact⟨(hT.moved fun g hb=>hk g (hg g hb).1 (hg g hb).2.1).more hs,hR,fun g hb=>⟨(hg g hb).1,Nat.lt_of_lt_of_le (hg g hb).2.1 hs,(hg g hb).2.2⟩⟩
theorem AM.after (h:AM B v L w) (k:Below w.heap.size w w'):AM B v L w':=h.keep k.size fun g _ hg=>k.block g hg
theorem AM.alloc (h:AM B v L w) (o:Obj):AM B v L (w.alloc o):=h.after ((Below.refl _ _).alloc (Nat.le_refl _) _)
theorem AM.set_ (h:AM B v L w) (p:Addr) (hp:p.block<B) (u:Value):AM B v L (w.setCell p u) :=
 h.keep (by simp [World.setCell]) fun g hg _=>Below.heap_setCell w p u g (by omega)
theorem AM.grown (h:AM B v L w) {b:Nat} (k:w.grownBy w' (some b)) (hb:b<B):AM B v L w':=h.keep k.size fun g hg hlt=>k.block g hlt (by intro e;injection e with e;omega)
theorem AM.drewN (h:AM B v L w) (n:Nat):AM B v L (w.drewN n):=h.after (BI w n)
theorem AM.drew (h:AM B v L w):AM B v L w.drew:=h.drewN 1
theorem AM.pths (h:AM B v L w):Jz w v L:=by
 obtain⟨us,h0,h1,_,h3⟩:=h
 rcases h1.2 with⟨rfl,hn⟩|⟨g,cap,cur,rfl,hb,hg,hc,_⟩
 ·obtain rfl:L=[]:=List.eq_nil_of_length_eq_zero hn
  exact Jz.nil _ _ _
 ·refine⟨some ⟨g,0,none⟩,cap,rfl,hc,fun i q hq=>?_⟩
  have hi:i<us.length:=by rw [h0];exact(List.getElem?_eq_some_iff.1 hq).1
  have hu:us[i]?=some us[i]:=List.getElem?_eq_getElem hi;have:=h1.cells (g:=g) rfl i _ hu;rw [show(⟨g,0,none⟩:Addr).add i=⟨g,0+i,none⟩ by unfold Addr.add;split<;>simp_all] at this;exact⟨g,0,_,rfl,this,(h3 i _ q hu hq).1,(h3 i _ q hu hq).2.1⟩
theorem AM.more {u v':Value} {q:List (List UInt8)} {us:List Value} (h0:us.length=L.length) (h3:∀(i:Nat) u q,us[i]?=some u→L[i]?=some q→Txs w w.heap.size u (bss q)∧BU u∧∀ g,u.ownBlock=some g→B≤g∧g<w.heap.size∧some g≠v.ownBlock)
  (hT:Txs w w.heap.size u (bss q)) (hR:BU u) (hu:∀ g,u.ownBlock=some g→B≤g∧g<w.heap.size∧some g≠v.ownBlock) (hown:w'.ownsRow B 74 1 v' (L.length+1) (us++[u])) (hB:B≤w'.heap.size) (hg:w.grownBy w' v.ownBlock) (hat:v'.ownBlock=v.ownBlock∨∃ g,v'.ownBlock=some g∧w.heap.size≤g) :
  AM B v' (L++[q]) w':=by
 have key:∀(u:Value) (q:List (List UInt8)),(Txs w w.heap.size u (bss q)∧BU u∧∀ g,u.ownBlock=some g→B≤g∧g<w.heap.size∧some g≠v.ownBlock)→Txs w' w'.heap.size u (bss q)∧BU u∧∀ g,u.ownBlock=some g→B≤g∧g<w'.heap.size∧some g≠v'.ownBlock:=by
  rintro u q ⟨k1,k0,k2⟩;refine⟨(k1.moved fun g hb=>hg.block g (k2 g hb).2.1 (k2 g hb).2.2).more hg.size,k0,fun g hb=>⟨(k2 g hb).1,Nat.lt_of_lt_of_le (k2 g hb).2.1 hg.size,?_⟩⟩
  rcases hat with e|⟨g',e,hge⟩
  ·rw [e];exact(k2 g hb).2.2
  ·rw [e]
   intro e2
   injection e2 with e2
   have:=(k2 g hb).2.1
   omega
 refine⟨us++[u],by rw [List.length_append,List.length_append,h0];rfl,by rw [List.length_append];exact hown,hB,fun i u' q' hu' hq'=>?_⟩;by_cases hi:i<us.length
 ·rw [List.getElem?_append_left hi] at hu'
  rw [List.getElem?_append_left (by omega)] at hq';exact key u' q' (h3 i u' q' hu' hq')
 ·rw [List.getElem?_append_right (by omega)] at hu' hq'
  by_cases hz:i-us.length=0
  ·rw [hz] at hu'
   rw [show i-L.length=0 by omega] at hq';simp only [List.getElem?_cons_zero,Option.some.injEq] at hu' hq';subst hu' hq';exact key u q ⟨hT,hR,hu⟩
  ·rw [List.getElem?_eq_none (by simp;omega)] at hu'
   cases hu'
end
def Prf (w:World) (v:Value) (x:Pf):Prop:=∃ nv pv,v=.agg #[.int .i64 x.n,.int .i64 x.pos,.bool x.there,nv,pv]∧Prs w nv x.near∧Jz w pv x.paths
def BP (B:Nat) (v:Value):Prop:=∀ a b c nv pv,v=.agg #[a,b,c,nv,pv]→∀ g,pv.ownBlock=some g→B≤g
theorem BP.of {B:Nat} {a b c nv pv:Value} (h:∀ g,pv.ownBlock=some g→B≤g):BP B (.agg #[a,b,c,nv,pv]):=fun _ _ _ _ _ e g hg=>by
 simp only [Value.agg.injEq,Array.mk.injEq,List.cons.injEq,and_true] at e;obtain⟨_,_,_,_,rfl⟩:=e;exact h g hg
theorem BP.nil {B n k:Nat} {a b c nv:Value}:BP B (.agg #[a,b,c,nv,.slice none n k]):=BP.of fun g hg=>by simp [Value.ownBlock] at hg
theorem Prf.below {w w':World} {v:Value} {x:Pf} (h:Prf w v x) (hb:Below w.heap.size w w'):Prf w' v x:=by
 obtain⟨nv,pv,rfl,h1,h2⟩:=h;exact⟨nv,pv,rfl,h1.below hb,h2.below hb⟩
theorem Prf.zero (w:World):Prf w (.agg #[.int .i64 0,.int .i64 0,.bool false,.slice none 0 0,.slice none 0 0]) Pf.zero:=⟨_,_,rfl,Prs.nil _ _ _,Jz.nil _ _ _⟩
section
variable {w:World} {A:Option Addr} {cap:Nat} {l:List KV}
end
end Go.Proofs.YtkejaepmoabikaaGreatDoor.W
namespace Go.Proofs.YtkejaepmoabikaaGreatDoor.W
open Go.ChangeShapes Go.WideShapes Go.ChangeAt Go.RowKit
open _root_.Go.Proofs.Tryz renaming prog → qP
theorem own:ownKnob qP.godebug=none:=by kernel_rfl
theorem ZT:laidOutB qP=true:=by kernel_rfl
theorem LY {H:Type} {enc:TypeId×Value→H} {P:Program} (hl:laidOutB P=true) {W W':World} (hb:Below W.heap.size W W') (ts:List TypeId):∀(vs:List Value) (ds:List (DataW H)) (p:List MemPlace),
  (ts.all fun t=>P.readableRec t&&decide (t<P.types.size))=true→DataW.TrodAll enc P W 0 (fun _=>true) true ts vs ds p→DataW.TrodAll enc P W' 0 (fun b=>decide (b<W.heap.size)) true ts vs ds p:=by
 induction ts with
 | nil =>
   intro vs ds p _ h;obtain⟨rfl,rfl,rfl⟩:=trodAll_nil h;exact trodAll_mk0
 | cons t ts ih =>
   intro vs ds p hr h;rw [List.all_cons,Bool.and_eq_true,Bool.and_eq_true,decide_eq_true_eq] at hr;obtain⟨v0,vs0,d0,ds0,p0,q0,rfl,rfl,rfl,h0,r0⟩:=trodAll_cons h
   have lt0:∀ x ∈ p0,x.block<W.heap.size:=by obtain⟨m,hm⟩:=h0;exact DataW.trod_lt m _ _ _ hm
   exact trodAll_cons_mk (Below.trod hl hr.1.1 hr.1.2 h0 hb lt0) (ih vs0 ds0 q0 hr.2 r0)
theorem Lm {W:World} {a:Addr} {v:Value} (h:W.cell? (a.add 0)=some v):∃ b off,a=⟨b,off,none⟩:=by
 obtain⟨b,off,spot⟩:=a
 have hspot:spot=none:=by simpa [Addr.add] using World.cell?_spot h
 subst hspot;exact⟨b,off,rfl⟩
theorem MJ (b off i:Nat):(⟨b,off,none⟩:Addr).add i=⟨b,off+i,none⟩:=by unfold Addr.add;split<;>simp_all
end Go.Proofs.YtkejaepmoabikaaGreatDoor.W
namespace Go.Proofs.YtkejaepmoabikaaGreatDoor.W
open Go.RowKit
theorem GM {w w':World} {B k n:Nat} {e:TypeId} {v:Value} {xs:List Value} (h:w.ownsRow B e k v n xs) (hb:Below w.heap.size w w'):w'.ownsRow B e k v n xs :=
 h.kept (row:=none) ⟨hb.os,hb.tape,hb.output,hb.size,fun i hi _=>hb.block i hi⟩ (by cases hv:v.ownBlock<;>simp)
theorem Db {w:World} {B k n:Nat} {e:TypeId} {v:Value} {xs:List Value} (h:w.ownsRow B e k v n xs):∃ A cap,v=.slice A n cap∧n≤cap:=by
 rcases h.2 with⟨rfl,rfl⟩|⟨g,cap,cur,rfl,_,_,hc,_⟩
 ·exact⟨none,0,rfl,Nat.le_refl _⟩
 ·exact⟨_,_,rfl,hc⟩
end Go.Proofs.YtkejaepmoabikaaGreatDoor.W
namespace Go.Proofs.YtkejaepmoabikaaGreatDoor.W
open Go.ChangeShapes Go.WideShapes Go.ChangeAt Go.RowKit Go.Deep
section
variable {H:Type} {enc:TypeId×Value→H} {P:Program} {w:World} {held:Bool}
theorem UU {t e:TypeId} {fs:Array Field} {A:Option Addr} {len cap:Nat} {d:DataW H} {p:List MemPlace} (ht:P.underlying t=some (.slice e)) (he:P.underlying e=some (.struct fs)) (hone:oneCellFields P fs=true) (hC:P.cellsOf e=fs.size) (h0:0<fs.size)
  (h:DataW.Trod enc P w 0 (fun _=>true) held t (.slice A len cap) d p) :
  len≤cap∧len≤maxLen∧∀ i,i<len→∃ b off,A=some ⟨b,off,none⟩∧∀(j:Nat) (f:Field),fs[j]?=some f→∃ v n y,w.cell? ⟨b,off+(i*fs.size+j),none⟩=some v∧DataW.trod enc P w 0 (fun _=>true) held n f.type [v]=some y:=by
 obtain⟨fuel,hf⟩:=h
 rcases open_slice ht hf with⟨hcs,_⟩|⟨a,l,c,m,n,D,Pl,hcs,_,hl,hm,hmm,_,hx⟩
 ·simp [Value.cells] at hcs
  obtain⟨rfl,rfl,rfl⟩:=hcs;exact⟨Nat.le_refl _,Nat.zero_le _,fun i hi=>absurd hi (by omega)⟩
 ·simp [Value.cells] at hcs
  obtain⟨rfl,rfl,rfl⟩:=hcs;simp only [if_true] at hmm;subst hmm;refine⟨hl,by omega,fun i hi=>?_⟩;obtain⟨cs,hc,hs⟩:=hx i (by omega);obtain⟨ys,n',_,_,hlen,hyl,hfs⟩:=DataW.trod_struct he hs;obtain⟨_,_,hat⟩:=World.cells?_some hc;rw [hC] at hat hlen
  have hp:∃ b off,a=⟨b,off,none⟩:=by
   obtain⟨cs0,hc0,_⟩:=hx 0 (by omega);obtain⟨_,hl0,hat0⟩:=World.cells?_some hc0;rw [hC] at hat0 hl0;have h1:=hat0 0 h0;rw [List.getElem?_eq_getElem (by omega),add_add,show 0*fs.size+0=0 by omega] at h1;exact Lm h1
  obtain⟨b,off,rfl⟩:=hp;refine⟨b,off,rfl,fun j f hj=>?_⟩;have hjl:j<fs.size:=(Array.getElem?_eq_some_iff.1 hj).1;obtain⟨ho,hk⟩:=hone_of hone j f hj;have hrd:=hfs j f hj;rw [ho,hk,show(cs.drop j).take 1=[cs[j]'(by omega)] by rw [List.drop_eq_getElem_cons (by omega)];rfl,List.getElem?_eq_getElem (by omega)] at hrd;have h1:=hat j hjl;rw [List.getElem?_eq_getElem (by omega),add_add,MJ] at h1;exact⟨_,_,_,h1,hrd⟩
end
end Go.Proofs.YtkejaepmoabikaaGreatDoor.W
namespace Go.Proofs.YtkejaepmoabikaaGreatDoor.W
open List renaming getElem_cons_zero → qC
theorem TF {α:Type} (n:Nat) (Q:Nat→α→Prop) (h:∀ i,i<n→∃ x,Q i x):∃ l:List α,l.length=n∧∀ i (hi:i<l.length),Q i l[i]:=by
 induction n with
 | zero=>exact⟨[],rfl,fun i hi=>absurd hi (by simp)⟩
 | succ n ih =>
   obtain⟨l,hl,hq⟩:=ih (fun i hi=>h i (by omega));obtain⟨x,hx⟩:=h n (by omega);refine⟨l++[x],by simp [hl],fun i hi=>?_⟩;by_cases e:i<l.length
   ·rw [List.getElem_append_left e];exact hq i e
   ·have:i=l.length:=by simp at hi;omega
    subst this;rw [List.getElem_append_right (by omega)];simp only [Nat.sub_self,qC];rw [hl];exact hx
end Go.Proofs.YtkejaepmoabikaaGreatDoor.W
namespace Go.Proofs.YtkejaepmoabikaaGreatDoor.W
open Go.ChangeShapes Go.WideShapes Go.ChangeAt Go.RowKit Go.Deep
open _root_.Go.Proofs.Tryz renaming prog → qP
noncomputable def BS:Array Field:=match qP.underlying 36 with
 | some (.struct fs)=>fs
 | _=>#[]
theorem Pz:qP.underlying 36=some (.struct BS):=by kernel_rfl
section
variable {H:Type} {enc:TypeId×Value→H} {w:World} {held:Bool}
theorem Xk {A:Option Addr} {len cap:Nat} {d:DataW H} {p:List MemPlace} (h:DataW.Trod enc qP w 0 (fun _=>true) held 22 (.slice A len cap) d p) :
  ∃ l:List KV,Prs w (.slice A len cap) l∧l.length≤maxLen:=by
 obtain⟨hc,hm,hr⟩:=UU Tryz.underlying22 Pz (by kernel_rfl) (by kernel_rfl) (by rw [show BS.size=2 by kernel_rfl];decide) h;rw [show BS.size=2 by kernel_rfl] at hr
 obtain⟨l,hl,hq⟩:=TF len (fun i (x:KV)=>∃ b off,A=some ⟨b,off,none⟩∧w.cell? ⟨b,off+i*2,none⟩=some (.string x.1)∧w.cell? ⟨b,off+i*2+1,none⟩=some (.string x.2)) (fun i hi=>by
  obtain⟨b,off,rfl,hf⟩:=hr i hi;obtain⟨f0,e0,t0⟩:∃ f:Field,BS[0]?=some f∧qP.underlying f.type=some .string:=⟨(BS[0]?).getD default,by kernel_rfl,by kernel_rfl⟩;obtain⟨f1,e1,t1⟩:∃ f:Field,BS[1]?=some f∧qP.underlying f.type=some .string:=⟨(BS[1]?).getD default,by kernel_rfl,by kernel_rfl⟩;obtain⟨v0,n0,y0,c0,r0⟩:=hf 0 f0 e0;obtain⟨v1,n1,y1,c1,r1⟩:=hf 1 f1 e1;obtain⟨a0,q0,_,_⟩:=DataW.trod_string t0 r0;obtain⟨a1,q1,_,_⟩:=DataW.trod_string t1 r1
  cases q0
  cases q1
  exact⟨(a0,a1),b,off,rfl,c0,by rw [Nat.add_assoc];exact c1⟩)
 subst hl;exact⟨l,⟨A,cap,rfl,hc,hq⟩,hm⟩
end
end Go.Proofs.YtkejaepmoabikaaGreatDoor.W
namespace Go.Proofs.YtkejaepmoabikaaGreatDoor.W
open Go.ChangeShapes Go.WideShapes Go.ChangeAt Go.RowKit
section
variable {H:Type} {enc:TypeId×Value→H} {P:Program} {w:World} {held:Bool}
end
end Go.Proofs.YtkejaepmoabikaaGreatDoor.W
namespace Go.Proofs.YtkejaepmoabikaaGreatDoor.W
open Go.ChangeShapes Go.WideShapes Go.ChangeAt Go.RowKit Go.Deep
set_option maxRecDepth 100000
section
variable {H:Type} {enc:TypeId×Value→H} {w:World} {held:Bool}
structure Xl (x:Pf):Prop where
 n0:-9223372036854775808≤x.n
 n1:x.n≤9223372036854775807
 p0:-9223372036854775808≤x.pos
 p1:x.pos≤9223372036854775807
 ln:x.near.length≤maxLen
 lp:x.paths.length≤maxLen
end
end Go.Proofs.YtkejaepmoabikaaGreatDoor.W
namespace Go.Proofs.YtkejaepmoabikaaGreatDoor.W
open Go.RowKit
open Lib renaming hid → qH
open _root_.Go.Proofs.Tryz renaming prog → qP
set_option maxHeartbeats 2000000
set_option maxRecDepth 100000
theorem Rs {a b c:World} {r row:Option Nat} (h:a.grownBy b r) (k:b.grownBy c row) (hr:∀ i,row=some i→a.heap.size≤i):a.grownBy c r :=
 ⟨k.os.trans h.os,k.tape.trans h.tape,k.output.trans h.output,Nat.le_trans h.size k.size,fun i hi hne=>(k.block i (Nat.lt_of_lt_of_le hi h.size) (fun e=>by have:=hr i e.symm;omega)).trans (h.block i hi hne)⟩
theorem Rt {a b:World} {r:Option Nat} (h:a.grownBy b r) (o:Obj):a.grownBy (b.alloc o) r:=Kw h (World.grownBy_alloc b o r)
def hZ (w:World) (b n:Nat) (s1:ByteArray) (j:Nat) (v:Value) (wr:World):Prop :=
 ∃ sj acc,AU n s1 []=AU (n-j) sj acc∧acc.length=j∧sj.size≤9223372036854775807∧Ci wr b sj 0∧wr.ownsRow w.heap.size 9 1 v j (Bb acc)∧w.grownBy wr (some b)
def Xm (w:World) (b:Nat) (r:(ByteArray×Int)×List ByteArray) (en:Ending) (w':World):Prop :=
 ∃ v,en=.returned v∧Txs w' w'.heap.size v r.2∧Ci w' b r.1.1 r.1.2∧w.grownBy w' (some b)
def Nv (w:World) (b:Nat) (r:(ByteArray×Int)×List ByteArray) (en:Ending) (w':World):Prop :=
 ∃ v,en=.returned v∧Txs w' w'.heap.size v r.2∧(∀ g,v.ownBlock=some g→w.heap.size≤g∧g<w'.heap.size)∧BU v∧Ci w' b r.1.1 r.1.2∧w.grownBy w' (some b)
theorem Nv.post {w w':World} {b:Nat} {r:(ByteArray×Int)×List ByteArray} {en:Ending} (h:Nv w b r en w'):Xm w b r en w':=by
 obtain⟨v,h1,h2,_,_,h3⟩:=h;exact⟨v,h1,h2,h3⟩
theorem UV (b:Nat) (s:ByteArray) (e:Int) (w:World) (h:Ci w b s e) (hm:s.size≤9223372036854775807) :
  Calls qP 149 #[.pointer (some ⟨b,0,none⟩)] w (Nv w b (Bk s e)):=by
 obtain⟨i0,hi,hz0,hz1,hz2⟩:=info_parts FN;have HN:=qH (cJ b s e 256 w h hm);have hb:=Blk.lt h;have HS:=qH (show Bk s e=(if (Bn s e 256).1.2≠0 then ((Bn s e 256).1,[]) else AU (Bn s e 256).2 (Bn s e 256).1.1 []) from rfl);have hf:=Dp s e 256;have hz:=QI s e 256;obtain⟨⟨⟨s1,e1⟩,n⟩,hd⟩:∃ r,Bn s e 256=r:=⟨_,rfl⟩;rw [hd] at HN HS hf hz;clear hd;simp only at hf hz;by_cases he:e1=0
 ·subst he
  clear hz;have HS1:=qH (HS.out.trans (if_neg (by simp)));clear HS;go_enter Tryz.func149,Tryz.ntmps149
  go_wp2_with fail
  refine HN.out.mono ?_;rintro e w1 ⟨rfl,hR,hg⟩;have HR:=qH (show hZ w b n s1 0 (.slice none 0 0) w1 from⟨s1,[],rfl,rfl,by omega,hR,World.ownsRow_nil _ _ _ _,hg⟩);clear hR hg;go_wp2
  go_loopw [4,8] (fun v i wr=>∃ j:Nat,j≤n∧i=.int .i64 j∧hZ w b n s1 j v wr) (fun _ i _=>n-(intOf i).toNat)
  case atStart=>exact⟨0,Nat.zero_le _,rfl,HR.out⟩
  case round =>
   obtain⟨j,hj,rfl,sj,acc,hl,hlen,hsz,hRj,hown,hgj⟩:=hrel;have HL:=qH hl;have HLen:=qH hlen;clear hl hlen;by_cases hlt:j<n
   ·have HT:=qH (Gc b sj 0 wr hRj hsz)
    have HLS:=qH (show AU (n-j) sj acc=if (Aj sj 0).1.2≠0 then ((Aj sj 0).1,[]) else AU (n-(j+1)) (Aj sj 0).1.1 (acc++[(Aj sj 0).2]) by
     rw [show n-j=(n-(j+1))+1 by omega];rfl)
    have htf:=AV sj 0;obtain⟨⟨⟨s2,e2⟩,t2⟩,hd2⟩:∃ r,Aj sj 0=r:=⟨_,rfl⟩;rw [hd2] at HT HLS htf;clear hd2
    go_wp2_with fail
    refine HT.out.mono ?_;rintro e w2 ⟨rfl,hR2,hg2⟩
    have hnb:u4.ownBlock≠some b:=fun e=>by have:=(hown.lt b e).1;omega
    have hown2:=hown.kept hg2 (.inr hnb);have hsz2:=Nat.le_trans hgj.size hg2.size
    go_wp2_with (at_builtin;go_must (refine wpList_append_own _ rfl _ _ 74 rfl w.heap.size 9 i0 (.string .empty) 1 16 Tryz.underlying74 hi hz0 hz1 hz2 rfl (by decide) u4 j (Bb acc) rfl (hown2.alloc _) ⟨w2.heap.size,0,none⟩ 1 1 [.string t2] rfl rfl ?c1 ?c2 ?c3 ?c4 ?c5 ?_))
    case c1 =>
     intro k u hk
     match k,hk with
     | 0,hk=>simp at hk;subst hk;simp [Addr.add]
     | k+1,hk=>simp at hk
    case c2=>intro u hu;simp at hu;subst hu;rfl
    case c3=>unfold maxLen;omega
    case c4=>omega
    case c5=>simp;omega
    intro v3 w3 hown3 hgrow3 _;have hrow:∀ i,u4.ownBlock=some i→w.heap.size≤i:=fun i hi=>(hown.lt i hi).1;have hR3:Ci w3 b s2 e2:=Blk.grown (Blk.alloc hR2 _) hgrow3 (fun e=>hnb e.symm);have hg3:=Rs (Rt (Kw hgj hg2) _) hgrow3 hrow
    have hown4:w3.ownsRow w.heap.size 9 1 v3 (j+1) (Bb (acc++[t2])):=by simpa [Bb] using hown3
    clear hown3 hgrow3 hR2 hown hown2 hg2;by_cases he2:e2=0
    ·subst he2
     have HL2:=qH (HL.out.trans (HLS.out.trans (if_neg (by simp))));clear HL HLS HT
     go_wp2_with fail
     refine(Hy b s2 0 w3 hR3).mono ?_;rintro e w4 ⟨rfl,rfl⟩;go_wp2
     go_roundw
     case rel=>exact⟨j+1,by omega,by go_num,s2,acc++[t2],HL2.out,by rw [List.length_append,HLen.out];rfl,Nat.le_trans htf.1 hsz,hR3,hown4,hg3⟩
     case measure=>simp [intOf];omega
    ·have hne:(e2 != 0)=true:=by rw [bne_iff_ne];exact he2
     have HL2:=qH (HS1.out.trans (HL.out.trans (HLS.out.trans (if_pos he2))));clear HL HLS HT
     go_wp2_with fail
     refine(Hy b s2 e2 w3 hR3).mono ?_;rintro e w4 ⟨rfl,rfl⟩;go_wp2
     go_ret
     rw [HL2.out];exact⟨_,rfl,Txs.nil _ _ _ _,(fun g hg=>by cases hg),Es,hR3,hg3⟩
   ·obtain rfl:j=n:=by omega
    have HL2:=qH (show Bk s e=((sj,0),acc) by rw [HS1.out,HL.out,Nat.sub_self];rfl);go_wp2
    go_ret
    rw [HL2.out];refine⟨_,rfl,Txs.of_own (base:=w.heap.size) ?_,hown.lt,GY hown,hRj,hgj⟩;rw [HLen.out];exact hown
 ·have HS1:=qH (HS.out.trans (if_pos he))
  clear HS;obtain rfl:n=0:=hz he;go_enter Tryz.func149,Tryz.ntmps149
  go_wp2_with fail
  refine HN.out.mono ?_;rintro e w1 ⟨rfl,hR,hg⟩;go_wp2
  go_rounds 1
  go_ret
  rw [HS1.out];exact⟨_,rfl,Txs.nil _ _ _ _,(fun g hg=>by cases hg),Es,hR,hg⟩
end Go.Proofs.YtkejaepmoabikaaGreatDoor.W
namespace Go.Proofs.YtkejaepmoabikaaGreatDoor.W
section
variable {P:Program} {ops:Array Oper} {Q:Exit→Act→World→Prop} {md:Region.Mode} {S:World→Prop}
theorem qT (i:Nat) {oi:Oper} {v:Value} {fuel:Nat} {listed:Array Bool} {a:Act} {w:World} (h:wpAnyH P md ops Q S fuel (listed.setIfInBounds i true) (a.put oi.dst v) w) (hi:ops[i]?=some oi:=by rfl) (hs:Region.noSelect ops=true:=by kernel_rfl) (hf:Region.free md ops listed i=true:=by kernel_rfl) (hr:(Region.ready md ops listed).contains i=true:=by kernel_rfl) (hQ:∀ c a w,Q (.panic c) (a.put oi.dst v) w→Q (.panic c) a w:=by exact fun _ _ _ h=>h) (hy:YieldsIf P ops S oi v a:=by exact Or.inl ⟨by rfl,fun w hSw=>by(try dsimp only at hSw);go_simp;rfl⟩) (hS:S w:=by assumption):wpAnyH P md ops Q S (fuel+1) listed a w:=wpAnyH_take hi hs hf hr hQ hy hS h
theorem qR (i:Nat) {o:Oper} {fuel:Nat} {listed:Array Bool} {a:Act} {w:World} (h:∀ K':Act→World→Prop,Shut (∀ a w,S w→(S w→wpAnyH P md ops Q S fuel (listed.setIfInBounds i true) a w)→K' a w)→if Region.wanted o (yielded ops a.tmps)=true then Oper.wp P o a w K' Q else K' (a.put o.dst undef) w) (hr:Region.ready md ops listed=[i]:=by decide +kernel) (ho:ops[i]?=some o:=by rfl):wpAnyH P md ops Q S (fuel+1) listed a w:=wpAnyH_ready hr (by simp) (AllReadyH.cons ho h AllReadyH.nil)
theorem qR2 (i j:Nat) {o o':Oper} {fuel:Nat} {listed:Array Bool} {a:Act} {w:World} (h:∀ K':Act→World→Prop,Shut (∀ a w,S w→(S w→wpAnyH P md ops Q S fuel (listed.setIfInBounds i true) a w)→K' a w)→if Region.wanted o (yielded ops a.tmps)=true then Oper.wp P o a w K' Q else K' (a.put o.dst undef) w) (h':∀ K':Act→World→Prop,Shut (∀ a w,S w→(S w→wpAnyH P md ops Q S fuel (listed.setIfInBounds j true) a w)→K' a w)→if Region.wanted o' (yielded ops a.tmps)=true then Oper.wp P o' a w K' Q else K' (a.put o'.dst undef) w) (hr:Region.ready md ops listed=[i,j]:=by decide +kernel) (ho:ops[i]?=some o:=by rfl) (ho':ops[j]?=some o':=by rfl):wpAnyH P md ops Q S (fuel+1) listed a w:=wpAnyH_ready hr (by simp) (AllReadyH.cons ho h (AllReadyH.cons ho' h' AllReadyH.nil))
end
end Go.Proofs.YtkejaepmoabikaaGreatDoor.W
namespace Go.Proofs.YtkejaepmoabikaaGreatDoor.W
open Go.RowKit
open Lib renaming hid → qH
open _root_.Go.Proofs.Tryz renaming prog → qP
set_option maxHeartbeats 4000000
set_option maxRecDepth 100000
theorem Rw (s:ByteArray) (e:Int) {s1:ByteArray} {e1:Int} {n:Nat} (h:Ao s e=((s1,e1),n)) :
  Bk s e=if e1≠0 then ((s1,e1),[]) else if 256<n then ((s1,4),[]) else AU n s1 []:=by
 have hf:=Ay s e;rw [h] at hf;simp only at hf;by_cases he:e1=0
 ·subst he
  by_cases hn:256<n
  ·simp [Bk,Bn,h,hn]
  ·simp [Bk,Bn,h,hn]
 ·have hz:=hf.2.2 he
  subst hz;simp [Bk,Bn,h,he]
def eF (w:World) (r:(ByteArray×Int)×List ByteArray) (en:Ending) (w':World):Prop :=
 ∃ s' v,en=.returned (.tuple #[rV s' r.1.2,v])∧(r.1.2=0→s'=r.1.1)∧s'.size≤9223372036854775807∧Txs w' w'.heap.size v r.2∧(∀ k,v.ownBlock=some k→w.heap.size≤k)∧Below w.heap.size w w'
def Xo (w:World) (r:(ByteArray×Int)×List ByteArray) (en:Ending) (w':World):Prop :=
 ∃ s' v,en=.returned (.tuple #[rV s' r.1.2,v])∧(r.1.2=0→s'=r.1.1)∧s'.size≤9223372036854775807∧Txs w' w'.heap.size v r.2∧(∀ k,v.ownBlock=some k→w.heap.size≤k∧k<w'.heap.size)∧BU v∧Below w.heap.size w w'
theorem Xo.post {w w':World} {r:(ByteArray×Int)×List ByteArray} {en:Ending} (h:Xo w r en w'):eF w r en w':=by
 obtain⟨s',v,h1,h2,h3,h4,h5,_,h6⟩:=h;exact⟨s',v,h1,h2,h3,h4,fun k hk=>(h5 k hk).1,h6⟩
def Xp (w:World) (b4 base n:Nat) (s:ByteArray) (e:Int) (s1:ByteArray) (j:Nat) (v:Value) (wr:World):Prop :=
 ∃ sj acc,AU n s1 []=AU (n-j) sj acc∧acc.length=j∧sj.size≤9223372036854775807∧Blk wr w.heap.size 93 #[.string s,.int .i64 e]∧Blk wr (w.heap.size+1) 93 #[.string ⟨#[]⟩,.int .i64 0] ∧
  Blk wr b4 93 #[.string sj,.int .i64 0]∧wr.ownsRow base 9 1 v j (Bb acc)∧Below w.heap.size w wr∧base≤wr.heap.size
theorem UY {w3:World} {b4 j:Nat} {T S:TypeId} {v:Value} {xs:List Value} (h:w3.ownsRow (b4+1) S 1 v j xs) (s' t2:ByteArray) :
  ((((w3.setCell ⟨b4,0,none⟩ (.string s')).setCell ⟨b4,1,none⟩ (.int .i64 0)).alloc (.cells #[.string s',.int .i64 0] T)).alloc (.cells #[.string t2] S)).ownsRow (b4+1) S 1 v j xs :=
 ((ownsRow_setCell_below (ownsRow_setCell_below h (by simp only;omega) _) (by simp only;omega) _).alloc _).alloc _
theorem Rx (w3:World) (b4:Nat) (s' t2:ByteArray) {T S:TypeId} :
  ((((w3.setCell ⟨b4,0,none⟩ (.string s')).setCell ⟨b4,1,none⟩ (.int .i64 0)).alloc (.cells #[.string s',.int .i64 0] T)).alloc (.cells #[.string t2] S)).cell? ((⟨w3.heap.size+1,0,none⟩:Addr).add 0)=some (.string t2):=by
 have h:=Blk.new (((w3.setCell ⟨b4,0,none⟩ (.string s')).setCell ⟨b4,1,none⟩ (.int .i64 0)).alloc (.cells #[.string s',.int .i64 0] T)) S #[.string t2]
 have e:(((w3.setCell ⟨b4,0,none⟩ (.string s')).setCell ⟨b4,1,none⟩ (.int .i64 0)).alloc (.cells #[.string s',.int .i64 0] T)).heap.size=w3.heap.size+1:=by simp [World.setCell]
 rw [e] at h;have h2:=h.cell 0
 simpa [Addr.add] using h2
theorem ZU {w w3 w4:World} {b4 n j:Nat} {s s1 sj s' t2:ByteArray} {e:Int} {acc:List ByteArray} {v v':Value}
  (hl:AU n s1 []=AU (n-(j+1)) s' (acc++[t2])) (hlen:acc.length=j) (hsz:s'.size≤9223372036854775807) (hzz:w.heap.size+1<b4)
  (m1:Blk w3 w.heap.size 93 #[.string s,.int .i64 e]) (m2:Blk w3 (w.heap.size+1) 93 #[.string ⟨#[]⟩,.int .i64 0])
  (m4:Blk w3 b4 93 #[.string sj,.int .i64 0]) (hown3:w3.ownsRow (b4+1) 9 1 v j (Bb acc)) (hbel3:Below w.heap.size w w3)
  (hown4:w4.ownsRow (b4+1) 9 1 v' (j+1) (Bb acc++[.string t2]))
  (hg:((((w3.setCell ⟨b4,0,none⟩ (.string s')).setCell ⟨b4,1,none⟩ (.int .i64 0)).alloc (.cells #[.string s',.int .i64 0] 93)).alloc (.cells #[.string t2] 9)).grownBy w4 v.ownBlock) :
  Xp w b4 (b4+1) n s e s1 (j+1) v' w4:=by
 have hrow:∀ k,v.ownBlock=some k→b4+1≤k:=fun k hk=>(hown3.lt k hk).1;have hb4:=m4.lt
 have ne:∀ g,g≤b4→some g≠v.ownBlock:=fun g hge e=>by have:=hrow g e.symm;omega
 have A1:=(((m1.far (p:=⟨b4,0,none⟩) (by simp only;omega) (.string s')).far (p:=⟨b4,1,none⟩) (by simp only;omega) (.int .i64 0)).alloc (.cells #[.string s',.int .i64 0] 93)).alloc (.cells #[.string t2] 9);have A2:=(((m2.far (p:=⟨b4,0,none⟩) (by simp only;omega) (.string s')).far (p:=⟨b4,1,none⟩) (by simp only;omega) (.int .i64 0)).alloc (.cells #[.string s',.int .i64 0] 93)).alloc (.cells #[.string t2] 9);have A4:Blk _ _ _ #[.string s',.int .i64 0]:=(((m4.set_ 0 (.string s')).set_ 1 (.int .i64 0)).alloc (.cells #[.string s',.int .i64 0] 93)).alloc (.cells #[.string t2] 9)
 have hb:Below w.heap.size w ((((w3.setCell ⟨b4,0,none⟩ (.string s')).setCell ⟨b4,1,none⟩ (.int .i64 0)).alloc (.cells #[.string s',.int .i64 0] 93)).alloc (.cells #[.string t2] 9)):=by go_grown
 refine⟨s',acc++[t2],hl,by rw [List.length_append,hlen];rfl,hsz,A1.grown hg (ne _ (by omega)),A2.grown hg (ne _ (by omega)),A4.grown hg (ne _ (by omega)),by simpa [Bb] using hown4,?_,?_⟩
 ·exact hb.grown hg hb.size (fun k hk=>by have:=hrow k hk;omega)
 ·have h1:=hg.size
  have h2:b4<((((w3.setCell ⟨b4,0,none⟩ (.string s')).setCell ⟨b4,1,none⟩ (.int .i64 0)).alloc (.cells #[.string s',.int .i64 0] 93)).alloc (.cells #[.string t2] 9)).heap.size:=A4.lt
  omega
theorem PF {w a b:World} (h:Below w.heap.size w a) (k:Below a.heap.size a b):Below w.heap.size w b:=h.trans (k.mono h.size)
theorem Ry (s:ByteArray) (e:Int) (w:World) (hm:s.size≤9223372036854775807) :
  Calls qP 164 #[rV s e] w (Xo w (Bk s e)):=by
 obtain⟨i0,hi,hz0,hz1,hz2⟩:=info_parts FN;have hf:=Ay s e;obtain⟨⟨⟨s1,e1⟩,n⟩,hd⟩:∃ r,Ao s e=r:=⟨_,rfl⟩;have HN:=qH (fun W=>hd▸GL s e W hm);have HT:=qH (Rw s e hd);rw [hd] at hf;clear hd;simp only at hf;unfold rV;go_enter Tryz.func164,Tryz.ntmps164
 go_wp2_with fail
 refine(HN.out _).mono ?_;rintro en w1 ⟨rfl,hb⟩;unfold Tp rV;obtain⟨k1,k2,hzz,hbel⟩:=cL hb;have c0:=DI k1;have d0:=DI k2;have d1:=EL k2;have f0:=k2.frozen 0;have f1:=k2.frozen 1
 have hzz0:w.heap.size<w1.heap.size:=by omega
 clear hb;simp only;by_cases he:e1=0
 ·subst he
  have HT1:=qH (HT.out.trans (if_neg (by simp)));clear HT;by_cases hn:256<n
  ·have HT2:=qH (HT1.out.trans (if_pos hn))
   clear HT1;go_wp2;have K:Blk _ _ _ #[.string s,.int .i64 4]:=((k2.set_ 0 (.string s)).set_ 1 (.int .i64 4)).alloc (.cells #[.string s1,.int .i64 0] 93);refine bodyPost_ret (v:=.tuple #[.agg #[.string s,.int .i64 4],.slice none 0 0]) (by simp [results,Tryz.results164,go_sem,DI K,EL K]) rfl ?_;rw [HT2.out];refine⟨_,_,rfl,fun h=>by simp at h,by omega,Txs.nil _ _ _ _,by simp [Value.ownBlock],Es,?_⟩
   go_grown
  ·have HT2:=qH (HT1.out.trans (if_neg hn))
   clear HT1;go_wp2
   have HR:=qH (show Xp w w1.heap.size (w1.heap.size+1) n s e s1 0 (.slice none 0 0) (w1.alloc (.cells #[.string s1,.int .i64 0] 93)) from
    ⟨s1,[],rfl,rfl,by omega,k1.alloc _,k2.alloc _,Blk.new _ _ _,World.ownsRow_nil _ _ _ _,by go_grown,by simp⟩)
   generalize w1.heap.size=b4 at *;clear c0 d0 d1 f0 f1 k1 k2 hbel
   go_loopw [6,7] (fun v i wr=>∃ j:Nat,j≤n∧i=.int .i64 j∧Xp w b4 (b4+1) n s e s1 j v wr) (fun _ i _=>n-(intOf i).toNat)
   case atStart=>exact⟨0,Nat.zero_le _,rfl,HR.out⟩
   case round =>
    obtain⟨j,hj,rfl,sj,acc,hl,hlen,hsz,k1,k2,k4,hown,hbel,hbase⟩:=hrel;have HL:=qH hl;have HLen:=qH hlen;clear hl hlen;by_cases hlt:j<n
    ·have HTx:=qH (Kn sj 0 wr hsz)
     have HLS:=qH (show AU (n-j) sj acc=if (Aj sj 0).1.2≠0 then ((Aj sj 0).1,[]) else AU (n-(j+1)) (Aj sj 0).1.1 (acc++[(Aj sj 0).2]) by
      rw [show n-j=(n-(j+1))+1 by omega];rfl)
     have htf:=AV sj 0;obtain⟨⟨⟨s2,e2⟩,t2⟩,hd2⟩:∃ r,Aj sj 0=r:=⟨_,rfl⟩;rw [hd2] at HTx HLS htf;clear hd2;have c0:=DI k4;have c1:=EL k4
     go_wp2_with fail
     refine HTx.out.mono ?_;rintro en w3 ⟨s',rfl,hs',_,hb3⟩;have HS':=qH hs';clear hs' c0 c1;unfold rV;have m1:=k1.below hb3 k1.lt;have m2:=k2.below hb3 k2.lt;have m4:=k4.below hb3 k4.lt;have hz3:b4<w3.heap.size:=m4.lt;have hz4:w.heap.size<w3.heap.size:=m1.lt;have hz5:w.heap.size+1<w3.heap.size:=m2.lt;have hown3:w3.ownsRow (b4+1) 9 1 u6 j (Bb acc):=hown.kept (row:=none) ⟨hb3.os,hb3.tape,hb3.output,hb3.size,fun k hk _=>hb3.block k hk⟩ (by cases hv:u6.ownBlock<;>simp);have hbel3:=PF hbel hb3;clear hb3 k1 k2 k4 hown hbel;simp only;by_cases he2:e2=0
     ·subst he2
      have hq:s'=s2:=HS'.out rfl;subst hq;have HL2:=qH (HL.out.trans (HLS.out.trans (if_neg (by simp))));clear HL HLS HTx HS';have q0:=DI m4;have q1:=EL m4;have g0:=m4.frozen 0;have g1:=m4.frozen 1;have hownA:=UY (T:=93) (S:=9) hown3 s' t2
      go_wp2_with (at_builtin;go_must (refine wpList_append_own _ rfl _ _ 74 rfl (b4+1) 9 i0 (.string .empty) 1 16 Tryz.underlying74 hi hz0 hz1 hz2 rfl (by decide) u6 j (Bb acc) rfl hownA ⟨w3.heap.size+1,0,none⟩ 1 1 [.string t2] rfl rfl ?c1 ?c2 ?c3 ?c4 ?c5 ?_))
      case c1 =>
       intro k u hk
       match k,hk with
       | 0,hk=>simp at hk;subst hk;exact Rx w3 b4 s' t2
       | k+1,hk=>simp at hk
      case c2=>intro u hu;simp at hu;subst hu;rfl
      case c3=>unfold maxLen;omega
      case c4=>omega
      case c5=>simp;omega
      intro v' w4 hown4 hgrow4 _;have R:=ZU (n:=n) (s1:=s1) HL2.out HLen.out (Nat.le_trans htf.1 hsz) hzz m1 m2 m4 hown3 hbel3 hown4 hgrow4;clear hown4 hgrow4 hownA q0 q1 g0 g1 m1 m2 m4 hown3 hbel3;go_wp2
      go_roundw
      case rel=>exact⟨j+1,by omega,by go_num,R⟩
      case measure=>simp [intOf];omega
     ·have hne:(e2 != 0)=true:=by rw [bne_iff_ne];exact he2
      have HL2:=qH (HT2.out.trans (HL.out.trans (HLS.out.trans (if_pos he2))));clear HL HLS HTx HS';have q0:=DI m1;have d0:=DI m2;have d1:=EL m2;have f0:=m2.frozen 0;have f1:=m2.frozen 1;go_wp2;have K:Blk _ _ _ #[.string s,.int .i64 e2]:=((m2.set_ 0 (.string s)).set_ 1 (.int .i64 e2)).alloc (.cells #[.string s',.int .i64 e2] 93);refine bodyPost_ret (v:=.tuple #[.agg #[.string s,.int .i64 e2],.slice none 0 0]) (by simp [results,Tryz.results164,go_sem,DI K,EL K]) rfl ?_;rw [HL2.out];refine⟨_,_,rfl,fun h=>absurd h he2,hm,Txs.nil _ _ _ _,by simp [Value.ownBlock],Es,?_⟩
      go_grown
    ·obtain rfl:j=n:=by omega
     have HL2:=qH (show Bk s e=((sj,0),acc) by rw [HT2.out,HL.out,Nat.sub_self];rfl);have q0:=DI k4;have q1:=EL k4;have d0:=DI k2;have d1:=EL k2;have f0:=k2.frozen 0;have f1:=k2.frozen 1;go_wp2;have K:Blk _ _ _ #[.string sj,.int .i64 0]:=((k2.set_ 0 (.string sj)).set_ 1 (.int .i64 0));refine bodyPost_ret (v:=.tuple #[.agg #[.string sj,.int .i64 0],u6]) (by simp [results,Tryz.results164,go_sem,DI K,EL K]) rfl ?_;rw [HL2.out];refine⟨_,_,rfl,fun _=>rfl,hsz,Txs.of_own (base:=b4+1) ?_,fun k hk=>⟨by have:=(hown.lt k hk).1;omega,by have:=(hown.lt k hk).2;simpa [World.setCell] using this⟩,GY hown,?_⟩
     ·rw [HLen.out]
      exact ownsRow_setCell_below (ownsRow_setCell_below hown (by simp only;omega) _) (by simp only;omega) _
     ·go_grown
 ·have hne:(e1 != 0)=true:=by rw [bne_iff_ne];exact he
  have HT1:=qH (HT.out.trans (if_pos he));clear HT;go_wp2;have K:Blk _ _ _ #[.string s1,.int .i64 e1]:=((k2.set_ 0 (.string s1)).set_ 1 (.int .i64 e1)).alloc (.cells #[.string s1,.int .i64 e1] 93);refine bodyPost_ret (v:=.tuple #[.agg #[.string s1,.int .i64 e1],.slice none 0 0]) (by simp [results,Tryz.results164,go_sem,DI K,EL K]) rfl ?_;rw [HT1.out];refine⟨_,_,rfl,fun h=>absurd h he,by omega,Txs.nil _ _ _ _,by simp [Value.ownBlock],Es,?_⟩
  go_grown
theorem iC (x:Int) (w:World) (h0:0≤x) (h1:x≤18446744073709551615) :
  Calls qP 206 #[.int .u64 x] w fun e w'=>e=.returned (.int .i64 (Lib.bitLen x.toNat))∧w=w':=by
 have K:=qH (bW x w h0 h1);go_enter Tryz.func206,Tryz.ntmps206
 go_wp2_with fail
 refine K.out.mono ?_;rintro e w1 ⟨rfl,rfl⟩;go_wp2
 go_ret
 exact⟨rfl,rfl⟩
theorem Xq (k s:Nat) (hk:k≤62) (hs:2 ^ k=s):wrap64 ((2:Int) ^ k)=(s:Int):=by
 have h1:2 ^ k≤2 ^ 62:=Nat.pow_le_pow_right (by decide) hk
 have h2:((2 ^ k:Nat):Int)=(2:Int) ^ k:=by simp
 rw [←h2,hs];rw [hs] at h1;simp only [wrap64]
 omega
theorem Rz (n:Int) (k s:Nat) (w:World) (h0:2≤n) (h1:n≤9223372036854775807) (hk:Lib.bitLen (n-1).toNat=k+1) (hk2:k≤62) (hs:2 ^ k=s) :
  Calls qP 184 #[.int .i64 n] w fun e w'=>e=.returned (.int .i64 s)∧w=w':=by
 have K0:=iC (n-1) w (by omega) (by omega);rw [hk] at K0;have K:=qH K0;have hp:=Xq k s hk2 hs;clear K0 hk hs;go_enter Tryz.func184,Tryz.ntmps184
 go_wp2_with fail
 refine K.out.mono ?_;rintro e w1 ⟨rfl,rfl⟩;go_wp2
 go_ret
 exact⟨congrArg Ending.returned (congrArg (Value.int IntKind.i64) hp),rfl⟩
theorem Xr (n:Int) (w:World) (h1:n≤9223372036854775807) :
  Calls qP 184 #[.int .i64 n] w fun e w'=>e=.returned (.int .i64 (spl n.toNat))∧w=w':=by
 by_cases h0:2≤n
 ·obtain⟨j,h2,h3⟩:=Wk n.toNat (by omega)
  have hj:j≤62:=by
   by_cases h:j≤62
   ·exact h
   ·have:=Nat.pow_le_pow_right (n:=2) (by decide) (show 63≤j by omega)
    omega
  refine Rz n j _ w h0 h1 ?_ hj (QQ j n.toNat h2 h3 (by omega)).symm;rw [show(n-1).toNat=n.toNat-1 by omega];exact Ie j _ (by omega) (by rw [Nat.pow_succ];omega) (by omega)
 ·rw [Mr n.toNat (by omega)]
  go_enter Tryz.func184,Tryz.ntmps184;go_wp2
  go_ret
  exact⟨rfl,rfl⟩
theorem IU (n:Int) (w:World) (h1:n≤9223372036854775807) :
  Calls qP 121 #[.int .i64 n] w fun e w'=>e=.returned (.int .i64 (spl n.toNat))∧Below w.heap.size w w':=by
 by_cases h0:2≤n
 ·obtain⟨m,rfl⟩:=Int.eq_ofNat_of_zero_le (show 0≤n by omega)
  rw [Int.toNat_natCast];obtain⟨r,hr⟩:∃ r,spl m=r:=⟨_,rfl⟩;rw [hr];have HR:=qH hr;clear hr;go_enter Tryz.func121,Tryz.ntmps121;go_wp2
  go_loopw [3] (fun v wr=>∃ s:Nat,v=.int .i64 s∧Hid (∃ j,s=2 ^ j)∧1≤s∧s<m∧Below w.heap.size w wr) (fun v _=>m-(intOf v).toNat)
  case atStart=>exact⟨1,rfl,qH ⟨0,rfl⟩,by omega,by omega,Below.refl _ _⟩
  case round =>
   obtain⟨s,rfl,HJ,hs1,hs2,hbel⟩:=hrel;by_cases hlt:s+s<m
   ·go_wp2
    go_roundw
    case rel=>exact⟨2*s,by go_num,qH (by obtain⟨j,rfl⟩:=HJ.out;exact⟨j+1,by rw [Nat.pow_succ,Nat.mul_comm]⟩),by omega,by omega,hbel⟩
    case measure=>simp [intOf];omega
   ·have hx:s=r:=by
     obtain⟨j,rfl⟩:=HJ.out;rw [←HR.out,QQ j m hs2 (by omega) (by omega)]
    subst hx;go_wp2
    go_ret
    exact⟨rfl,hbel⟩
 ·rw [Mr n.toNat (by omega)]
  go_enter Tryz.func121,Tryz.ntmps121;go_wp2
  go_ret
  exact⟨rfl,Below.refl _ _⟩
theorem Cy {w W:World} (hr:Ba w) (h:Aa w W):Ba W:=hr.next h.below
theorem Lr (a b:List ByteArray):Bb (a++b)=Bb a++Bb b:=by simp [Bb]
theorem PI {ss:List ByteArray}:∀ u ∈ Bb ss,u.oneCell'=true:=by
 intro u hu;simp only [Bb,List.mem_map] at hu;obtain⟨x,_,rfl⟩:=hu
 rfl
theorem kO (b off j:Nat):(⟨b,off,none⟩:Addr).add j=⟨b,off+j,none⟩:=by unfold Addr.add;split<;>simp_all
theorem Txs.cells {w:World} {B b off cap:Nat} {ss:List ByteArray} (h:Txs w B (.slice (some ⟨b,off,none⟩) ss.length cap) ss):∀ j u,(Bb ss)[j]?=some u→w.cell? ((⟨b,off,none⟩:Addr).add j)=some u:=by
 intro j u hj;obtain⟨A,cap',e,hc⟩:=h
 cases e
 have hlt:j<ss.length:=by rw [←JM];exact(List.getElem?_eq_some_iff.1 hj).1
 obtain⟨b',off',e,_,h1⟩:=hc j hlt
 cases e
 rw [kO,h1];simp [Bb,hlt] at hj;rw [hj]
theorem JA (P:Program) (w:World) (t ty e:TypeId) (i:TypeInfo) (ht:P.underlying t=some (.slice e)) (hi:P.info? e=some i) (A:Option Addr) (n cap c:Nat) (hn:n≤cap) :
  (Builtin.append_ #[t,t] ty #[.slice A n cap,.slice none 0 c]).run P w=.ok (.slice A n cap) w:=by
 cases A<;>simp [Builtin.append_,run_underlying ht,go_sem,run_sizeOf w hi,hn]
theorem Ls (w:World) (B B':Nat) (ty:TypeId) (v y:Value) (l m:List ByteArray) (hown:w.ownsRow B 9 1 v l.length (Bb l)) (hP:Txs w B' y m) (hB:B≤w.heap.size) (hlen:l.length+m.length≤1000000000) :
  ∃ v' w',(Builtin.append_ #[74,74] ty #[v,y]).run qP w=.ok v' w'∧w'.ownsRow B 9 1 v' (l++m).length (Bb (l++m))∧w.grownBy w' v.ownBlock:=by
 obtain⟨i0,hi,hz0,hz1,hz2⟩:=info_parts FN;have hP':=hP;obtain⟨A,cap,rfl,hc⟩:=hP'
 match A,hc with
 | none,hc =>
   have hm:m=[]:=by
    cases m with
    | nil=>rfl
    | cons x m=>obtain⟨b,off,e,_⟩:=hc 0 (by simp);cases e
   subst hm;rw [List.append_nil]
   have hv:∃ A' n c,v=.slice A' n c∧n≤c:=by
    rcases hown.2 with⟨rfl,_⟩|⟨g,cap,cur,rfl,_,_,h1,_⟩
    ·exact⟨none,0,0,rfl,Nat.le_refl _⟩
    ·exact⟨_,_,_,rfl,h1⟩
   obtain⟨A',n,c,rfl,hn⟩:=hv;exact⟨_,w,JA qP w 74 ty _ i0 Tryz.underlying74 hi A' n c cap hn,hown,BJ _ _⟩
 | some ad,hc =>
   by_cases hm:m=[]
   ·subst hm
    obtain⟨v',w',hr,h2,h3,_,h5⟩:=run_append_own_at (P:=qP) w B 74 ty 9 i0 _ 1 16 Tryz.underlying74 hi hz0 hz1 hz2 rfl (by decide) v l.length (Bb l) hown ad 0 cap [] rfl (fun j u h=>by simp at h) (fun u h=>by cases h) (by unfold maxLen;simp only [List.length_nil] at hlen;omega) (by simp only [List.length_nil] at hlen;omega) hB;exact⟨v',w',hr,by simpa using h2,h3⟩
   ·obtain⟨b,off,e,_⟩:=hc 0 (by cases m<;>simp_all)
    cases e
    obtain⟨v',w',hr,h2,h3,_,h5⟩:=run_append_own_at (P:=qP) w B 74 ty 9 i0 _ 1 16 Tryz.underlying74 hi hz0 hz1 hz2 rfl (by decide) v l.length (Bb l) hown ⟨b,off,none⟩ m.length cap (Bb m) (by rw [JM];omega) hP.cells PI (by unfold maxLen;omega) (by omega) hB;exact⟨v',w',hr,by rw [List.length_append,Lr];exact h2,h3⟩
theorem BQ {ops:Array Oper} {rest:List Oper} {o:Oper} {a:Act} {Q:Exit→Act→World→Prop} (w:World) (hgd:o.guard=none) (s x:Operand)
  (ho:o.op=.call { callee:=.builtin .append,args:=#[s,x],argTypes:=#[74,74] }) (B B':Nat) (v y:Value) (l m:List ByteArray) (hs:a.eval s=v) (hx:a.eval x=y) (W0:World)
  (hown:Aq B v l W0 w) (hP:Txs w B' y m) (hlen:l.length+m.length≤1000000000)
  (h:∀ v' w',Aq B v' (l++m) W0 w'→w.grownBy w' v.ownBlock→wpList qP ops Q rest (a.put o.dst v') w'):wpList qP ops Q (o::rest) a w:=by
 refine wpList_plain hgd fun K hK=>?_;obtain⟨v',w',hr,h2,h3⟩:=Ls w B B' o.type v y l m hown.1 hP hown.2.2 hlen;simp [Oper.wp,Oper.upon,execOp,ho,resolve,invoke,builtin,hs,hx,hr,Result.andThen];exact hK _ _ (h v' w' ⟨h2,hown.2.1.grown h3 hown.2.2 (fun k hk=>(hown.1.lt k hk).1),Nat.le_trans hown.2.2 h3.size⟩ h3)
theorem Aq.start {w w1:World} (h:Below w.heap.size w w1):Aq w.heap.size (.slice none 0 0) [] w w1:=⟨World.ownsRow_nil _ _ _ _,h,h.size⟩
theorem PJ {w:World} {B B':Nat} {t:TypeId} {k n:Nat} {v:Value} {xs:List Value} (h:w.ownsRow B t k v n xs) (hB:B'≤B):w.ownsRow B' t k v n xs:=by
 refine⟨h.1,?_⟩
 rcases h.2 with hn|⟨g,cap,cur,e1,e2,rest⟩
 ·exact .inl hn
 ·exact .inr ⟨g,cap,cur,e1,Nat.le_trans hB e2,rest⟩
theorem Aq.from {w w1 w2:World} {v:Value} {ss:List ByteArray} (h:Below w.heap.size w w1) (k:Aq w1.heap.size v ss w1 w2):Aq w.heap.size v ss w w2 :=
 ⟨PJ k.1 h.size,Ae h k.below,Nat.le_trans h.size k.2.2⟩
theorem Xu {w w':World} {B:Nat} {y:Value} {ss:List ByteArray} {r:Option Nat} (h:Txs w B y ss) (k:w.grownBy w' r) (hd:∀ g,y.ownBlock=some g→g<w.heap.size∧some g≠r):Txs w' B y ss :=
 h.moved fun g hg=>k.block g (hd g hg).1 (hd g hg).2
theorem eQ (l out:List UInt8) (HO:Hid (Ax l=out)) (w:World) (hr:Ba w) (hl:l.length≤1000000) :
  Calls qP 152 #[.string (bs l)] w fun e w'=>e=.returned (.string (bs out))∧Below w.heap.size w w':=by
 have h:=sum (bs l) w hr (by rw [Aw];omega);rw [Bs,HO.out] at h;exact h
theorem cO (k:ByteArray) (x1:List UInt8) (x2:Int) (h1:Ai k=(x1,x2)) (W:World) :
  Calls qP 62 #[.string k] W fun e w'=>e=.returned (.tuple #[.string (bs x1),.int .i64 x2])∧Below W.heap.size W w':=by
 have:=Kx k W;rw [h1] at this;exact this
theorem kP (n:Int) (x1:List UInt8) (x2:Int) (h1:Ag n=(x1,x2)) (W:World) :
  Calls qP 65 #[.int .i64 n] W fun e w'=>e=.returned (.tuple #[.string (bs x1),.int .i64 x2])∧Below W.heap.size W w':=by
 have:=QB n W;rw [h1] at this;exact this
theorem Va (k v:ByteArray) (x1 y1:List UInt8) (x2 y2:Int) (h1:Ai k=(x1,x2)) (h2:Ai v=(y1,y2)) (w:World) (hr:Ba w) (out:List UInt8) (HO:Hid (Ax (0::(x1++y1))=out)) :
  Calls qP 151 #[.agg #[.string k,.string v]] w fun e w'=>e=.returned (.string (bs out))∧Below w.heap.size w w':=by
 have lx:x1.length≤65544:=by have:=AF k;rw [h1] at this;exact this
 have ly:y1.length≤65544:=by have:=AF v;rw [h2] at this;exact this
 have K1:=qH (cO k x1 x2 h1);have K2:=qH (cO v y1 y2 h2);have a1:∀ W,(Op.stringOp .add ⟨#[0]⟩ (bs x1)).run qP W=.ok (.string (bs (0::x1))) W:=fun W=>AB W [0] x1 (by simp;omega);have a2:∀ W,(Op.stringOp .add (bs (0::x1)) (bs y1)).run qP W=.ok (.string (bs (0::(x1++y1)))) W:=fun W=>AB W (0::x1) y1 (by simp;omega);have HR:=qH hr;have HB:=qH (Blk.new w 36 #[.string k,.string v]);have HW:=qH ((Below.refl w.heap.size w).alloc (Nat.le_refl _) (.cells #[.string k,.string v] 36));have L:=qH (show(0::(x1++y1)).length≤1000000 by simp;omega);clear hr lx ly h1 h2;go_enter Tryz.func151,Tryz.ntmps151
 go_wp2_with fail
 refine(K1.out _).mono ?_;rintro e w1 ⟨rfl,b1⟩;have c1:w1.cell? ⟨w.heap.size,1,none⟩=some (.string v):=(HB.out.next b1).cell 1;have B1:=qH (HW.out.trans (b1.mono (by simp)));clear b1 HB HW K1
 go_wp2_with fail
 refine(K2.out _).mono ?_;rintro e w2 ⟨rfl,b2⟩;have B2:=qH (Ae B1.out b2);clear b2 B1 K2 c1
 go_wp2_with fail
 refine(eQ _ out HO w2 (HR.out.next B2.out) L.out).mono ?_;rintro e w3 ⟨rfl,b3⟩;go_wp2
 go_ret
 exact⟨rfl,Ae B2.out b3⟩
theorem iD (p:KV) (w:World) (hr:Ba w) :
  Calls qP 151 #[.agg #[.string p.1,.string p.2]] w fun e w'=>e=.returned (.string (bs (Ax (BR p))))∧Below w.heap.size w w' :=
 Va p.1 p.2 _ _ _ _ rfl rfl w hr _ (qH rfl)
theorem Vb (a b:List UInt8) (w:World) (hr:Ba w) (out:List UInt8) (HO:Hid (Ax (1::(a++b))=out)) (ha:a.length≤70000) (hb:b.length≤70000) :
  Calls qP 185 #[.string (bs a),.string (bs b)] w fun e w'=>e=.returned (.string (bs out))∧Below w.heap.size w w':=by
 have a1:∀ W,(Op.stringOp .add ⟨#[1]⟩ (bs a)).run qP W=.ok (.string (bs (1::a))) W:=fun W=>AB W [1] a (by simp;omega);have a2:∀ W,(Op.stringOp .add (bs (1::a)) (bs b)).run qP W=.ok (.string (bs (1::(a++b)))) W:=fun W=>AB W (1::a) b (by simp;omega);have L:=qH (show(1::(a++b)).length≤1000000 by simp;omega);have HR:=qH hr;clear hr ha hb;go_enter Tryz.func185,Tryz.ntmps185
 go_wp2_with fail
 refine(eQ _ out HO w HR.out L.out).mono ?_;rintro e w3 ⟨rfl,b3⟩;go_wp2
 go_ret
 exact⟨rfl,b3⟩
theorem cP (a b:List UInt8) (w:World) (hr:Ba w) (ha:a.length≤70000) (hb:b.length≤70000) :
  Calls qP 185 #[.string (bs a),.string (bs b)] w fun e w'=>e=.returned (.string (bs (Ax (AK a b))))∧Below w.heap.size w w' :=
 Vb a b w hr _ (qH rfl) ha hb
theorem Xv (n:Int) (t:List UInt8) (x1:List UInt8) (x2:Int) (h1:Ag n=(x1,x2)) (w:World) (hr:Ba w) (out:List UInt8) (HO:Hid (Ax (2::(x1++t))=out)) (ht:t.length≤70000) :
  Calls qP 107 #[.int .i64 n,.string (bs t)] w fun e w'=>e=.returned (.string (bs out))∧Below w.heap.size w w':=by
 have lx:x1.length≤8:=by have:=Au n;rw [h1] at this;exact this
 have K1:=qH (kP n x1 x2 h1);have a1:∀ W,(Op.stringOp .add ⟨#[2]⟩ (bs x1)).run qP W=.ok (.string (bs (2::x1))) W:=fun W=>AB W [2] x1 (by simp;omega);have a2:∀ W,(Op.stringOp .add (bs (2::x1)) (bs t)).run qP W=.ok (.string (bs (2::(x1++t)))) W:=fun W=>AB W (2::x1) t (by simp;omega);have L:=qH (show(2::(x1++t)).length≤1000000 by simp;omega);have HR:=qH hr;clear hr lx ht h1;go_enter Tryz.func107,Tryz.ntmps107
 go_wp2_with fail
 refine(K1.out _).mono ?_;rintro e w1 ⟨rfl,b1⟩
 go_wp2_with fail
 refine(eQ _ out HO w1 (HR.out.next b1) L.out).mono ?_;rintro e w3 ⟨rfl,b3⟩;go_wp2
 go_ret
 exact⟨rfl,Ae b1 b3⟩
theorem iE (n:Int) (t:List UInt8) (w:World) (hr:Ba w) (ht:t.length≤70000) :
  Calls qP 107 #[.int .i64 n,.string (bs t)] w fun e w'=>e=.returned (.string (bs (Ax (Bt n t))))∧Below w.heap.size w w' :=
 Xv n t _ _ rfl w hr _ (qH rfl) ht
theorem PM (L:List (List UInt8)) (k:Nat):bss (L.take k)=(bss L).take k:=by simp [bss,List.map_take]
section
variable {w:World} {A:Option Addr} {cap B:Nat} {ss:List ByteArray}
theorem PN (h:Txs w B (.slice A ss.length cap) ss) (hcap:ss.length≤cap) (i:Nat) (hi:i≤ss.length) :
  (∀ W,(Instr.slice 74 (.slice A ss.length cap) none (some (.int .i64 i)) none).run qP W=.ok (.slice A i cap) W)∧Txs w B (.slice A i cap) (ss.take i):=by
 obtain⟨A0,cap0,e,hc⟩:=h
 cases e
 refine⟨fun W=>?_,⟨A,cap,by rw [List.length_take,Nat.min_eq_left hi],fun j hj=>?_⟩⟩
 ·obtain⟨i0,hi0,hz0,hz1,hz2⟩:=info_parts FN
  have hE:qP.elem 74=9:=by kernel_rfl
  have hr:=run_slice_h (P:=qP) (w:=W) 74 A ss.length cap (by kernel_rfl) .i64 i (by omega) (by omega);rw [hE,run_sizeOf W hi0,show qP.cellsOf 9=1 by kernel_rfl] at hr;rw [hr]
  cases A<;>simp [Result.andThen,sliced]
  rename_i a
  rcases a with⟨b,off,x⟩
  cases x<;>simp [Addr.add]
 ·rw [List.length_take] at hj
  obtain⟨b,off,rfl,hb,h1⟩:=hc j (by omega);exact⟨b,off,rfl,hb,by rw [List.getElem_take];exact h1⟩
end
def Cm (w:World) (r:Option (List UInt8×List (List UInt8))) (e:Ending) (w':World):Prop :=
 ∃ t,e=.returned (.tuple #[.string (bs t),.bool r.isSome])∧t.length≤32∧(∀ x,r=some x→x.1=t)∧Aa w w'
theorem TI (leaf v:Value) (i n:Int) (w:World) (h:¬(0≤i∧i<n)):Calls qP 150 #[leaf,v,.int .i64 i,.int .i64 n] w (Cm w none):=by
 have R:Cm w none (.returned (.tuple #[.string (bs []),.bool false])) w:=⟨[],rfl,by simp,(fun x hx=>by cases hx),Aa.refl w⟩;by_cases h1:i<0
 ·go_enter Tryz.func150,Tryz.ntmps150
  go_wp2
  go_ret2
  exact R
 ·have h2:n≤i:=by omega
  clear h;go_enter Tryz.func150,Tryz.ntmps150;go_wp2
  go_ret2
  exact R
theorem TJ (leaf:List UInt8) (A:Option Addr) (m cap:Nat) (w:World) (hl:leaf.length≤32) (r:Option (List UInt8×List (List UInt8))) (hr:r.isSome=decide (m=0)) (hr2:∀ x,r=some x→x.1=leaf) :
  Calls qP 150 #[.string (bs leaf),.slice A m cap,.int .i64 0,.int .i64 1] w (Cm w r):=by
 have R:Cm w r (.returned (.tuple #[.string (bs leaf),.bool r.isSome])) w:=⟨leaf,rfl,hl,hr2,Aa.refl w⟩;rw [hr] at R;clear hr hr2
 cases m with
 | zero =>
   go_enter Tryz.func150,Tryz.ntmps150;go_wp2
   go_ret2
   exact R
 | succ m =>
   have hb:(((m+1:Nat):Int)==0)=false:=by simp;omega
   have hd:decide (m+1=0)=false:=by simp
   rw [hd] at R;clear hd;go_enter Tryz.func150,Tryz.ntmps150;go_wp2
   go_ret2
   exact R
theorem Xw (leaf:Value) (A:Option Addr) (cap:Nat) (i n:Int) (w:World) (h0:0≤i) (h1:i<n) (h2:n≠1):Calls qP 150 #[leaf,.slice A 0 cap,.int .i64 i,.int .i64 n] w (Cm w none):=by
 have R:Cm w none (.returned (.tuple #[.string (bs []),.bool false])) w:=⟨[],rfl,by simp,(fun x hx=>by cases hx),Aa.refl w⟩;have hb:(n==1)=false:=beq_eq_false_iff_ne.2 h2;clear h2;go_enter Tryz.func150,Tryz.ntmps150;go_wp2
 go_ret2
 exact R
theorem iF (leaf:Value) (b off m M cap s:Nat) (hM:M=m+1) (x:List UInt8) (i n:Int) (w:World) (h0:0≤i) (h1:i<n) (h2:n≠1) (hn:n≤9223372036854775807) (hm:m≤1000000000) (hs:spl n.toNat=s) (hi:i<s) (r:Option (List UInt8×List (List UInt8)))
  (hc:w.cell? ⟨b,off+m,none⟩=some (.string (bs x)))
  (hs2:∀ W,(Instr.slice 74 (.slice (some ⟨b,off,none⟩) M cap) none (some (.int .i64 m)) none).run qP W=.ok (.slice (some ⟨b,off,none⟩) m cap) W)
  (H1:Hid (Calls qP 150 #[leaf,.slice (some ⟨b,off,none⟩) m cap,.int .i64 i,.int .i64 s] w (Cm w r)))
  (H2:Hid (∀ t,t.length≤32→∀ W,Aa w W→Calls qP 185 #[.string (bs t),.string (bs x)] W fun e w'=>e=.returned (.string (bs (Ax (AK t x))))∧Aa w w')) :
  Calls qP 150 #[leaf,.slice (some ⟨b,off,none⟩) M cap,.int .i64 i,.int .i64 n] w (Cm w (r.map fun t=>(Ax (AK t.1 x),t.2++[AK t.1 x]))):=by
 have K0:=Xr n w hn;rw [hs] at K0;have K:=qH K0;have hb:(n==1)=false:=beq_eq_false_iff_ne.2 h2
 have hl0:((M:Int)==0)=false:=by simp;omega
 have hmi:IntKind.i64.wrap ((M:Int)-1)=(m:Int):=by rw [IntWalk.i64_in _ (by omega)];omega
 have hm0:(0:Int)≤m:=by omega
 have hm1:(m:Int)<(M:Int):=by omega
 have HS:=qH (show r.isSome=(r.map fun t=>(Ax (AK t.1 x),t.2++[AK t.1 x])).isSome by cases r<;>rfl);clear K0 hs h2 hm hM;go_enter Tryz.func150,Tryz.ntmps150
 go_wp2_with fail
 refine K.out.mono ?_;rintro e w1 ⟨rfl,rfl⟩;clear K
 go_wp2_with fail
 refine H1.out.mono ?_;rintro e w2 ⟨t,rfl,tl,tx,s2⟩;have c2:=s2.cell hc;have TX:=qH tx;clear H1 hc tx;generalize r.isSome=rs at *
 go_wp2_with fail
 refine(H2.out t tl w2 s2).mono ?_;rintro e w3 ⟨rfl,s3⟩
 have FIN:=qH (show Cm w (r.map fun t=>(Ax (AK t.1 x),t.2++[AK t.1 x])) (.returned (.tuple #[.string (bs (Ax (AK t x))),.bool rs])) w3 from
  ⟨_,by rw [HS.out],by rw [Bc];omega,fun y hy=>by
   rw [Option.map_eq_some_iff] at hy;obtain⟨z,hz,rfl⟩:=hy
   show Ax (AK z.1 x)=_
   rw [TX.out z hz],s3⟩)
 generalize Ax (AK t x)=out at *;clear H2 TX HS tl;go_wp2
 go_ret2
 exact FIN.out
theorem eR (leaf:Value) (b off m M cap s:Nat) (hM:M=m+1) (x:List UInt8) (i n:Int) (w:World) (h0:0≤i) (h1:i<n) (h2:n≠1) (hn:n≤9223372036854775807) (hm:m≤1000000000) (hs:spl n.toNat=s) (hi:¬i<s) (r:Option (List UInt8×List (List UInt8)))
  (hc:w.cell? ⟨b,off+m,none⟩=some (.string (bs x)))
  (hs2:∀ W,(Instr.slice 74 (.slice (some ⟨b,off,none⟩) M cap) none (some (.int .i64 m)) none).run qP W=.ok (.slice (some ⟨b,off,none⟩) m cap) W)
  (H1:Hid (Calls qP 150 #[leaf,.slice (some ⟨b,off,none⟩) m cap,.int .i64 (i-s),.int .i64 (n-s)] w (Cm w r)))
  (H2:Hid (∀ t,t.length≤32→∀ W,Aa w W→Calls qP 185 #[.string (bs x),.string (bs t)] W fun e w'=>e=.returned (.string (bs (Ax (AK x t))))∧Aa w w')) :
  Calls qP 150 #[leaf,.slice (some ⟨b,off,none⟩) M cap,.int .i64 i,.int .i64 n] w (Cm w (r.map fun t=>(Ax (AK x t.1),t.2++[AK x t.1]))):=by
 have K0:=Xr n w hn;rw [hs] at K0;have K:=qH K0;have hb:(n==1)=false:=beq_eq_false_iff_ne.2 h2
 have hl0:((M:Int)==0)=false:=by simp;omega
 have hmi:IntKind.i64.wrap ((M:Int)-1)=(m:Int):=by rw [IntWalk.i64_in _ (by omega)];omega
 have hwi:IntKind.i64.wrap (i-(s:Int))=i-(s:Int):=IntWalk.i64_in _ (by omega);have hwn:IntKind.i64.wrap (n-(s:Int))=n-(s:Int):=IntWalk.i64_in _ (by omega)
 have hm0:(0:Int)≤m:=by omega
 have hm1:(m:Int)<(M:Int):=by omega
 have HS:=qH (show r.isSome=(r.map fun t=>(Ax (AK x t.1),t.2++[AK x t.1])).isSome by cases r<;>rfl);clear K0 hs h2 hm hM;go_enter Tryz.func150,Tryz.ntmps150
 go_wp2_with fail
 refine K.out.mono ?_;rintro e w1 ⟨rfl,rfl⟩;clear K
 go_wp2_with fail
 refine H1.out.mono ?_;rintro e w2 ⟨t,rfl,tl,tx,s2⟩;have c2:=s2.cell hc;have TX:=qH tx;clear H1 hc tx;generalize r.isSome=rs at *
 go_wp2_with fail
 refine(H2.out t tl w2 s2).mono ?_;rintro e w3 ⟨rfl,s3⟩
 have FIN:=qH (show Cm w (r.map fun t=>(Ax (AK x t.1),t.2++[AK x t.1])) (.returned (.tuple #[.string (bs (Ax (AK x t))),.bool rs])) w3 from
  ⟨_,by rw [HS.out],by rw [Bc];omega,fun y hy=>by
   rw [Option.map_eq_some_iff] at hy;obtain⟨z,hz,rfl⟩:=hy
   show Ax (AK x z.1)=_
   rw [TX.out z hz],s3⟩)
 generalize Ax (AK x t)=out at *;clear H2 TX HS tl;go_wp2
 go_ret2
 exact FIN.out
theorem iG (leaf:List UInt8) (hlf:leaf.length=32) (p:List (List UInt8)):∀(v:Value) (i n:Int) (w:World),Txs w w.heap.size v (bss p)→BU v→Ba w→n≤9223372036854775807→p.length≤1000000→(∀ y ∈ p,y.length≤70000) →
  Calls qP 150 #[.string (bs leaf),v,.int .i64 i,.int .i64 n] w (Cm w (FQ leaf p i n)):=by
 induction p using GW with
 | h0 =>
   intro v i n w hT hR hr hn _ _;obtain⟨A,cap,rfl,_⟩:=hT;by_cases h:0≤i∧i<n
   ·by_cases h1:n=1
    ·subst h1
     obtain rfl:i=0:=by omega
     rw [EH,if_pos (by omega)];exact TJ leaf A 0 cap w (by omega) _ rfl (fun x hx=>by cases hx;rfl)
    ·rw [EH,if_neg (fun e=>h1 e.2.2)]
     exact Xw _ A cap i n w h.1 h.2 h1
   ·rw [IG h]
    exact TI _ _ i n w h
 | h1 p x ih =>
   intro v i n w hT hR hr hn hp hy
   have hp':p.length+1≤1000000:=by rw [List.length_append] at hp;exact hp
   have hT0:=hT;obtain⟨A,cap,rfl,hc⟩:=hT0
   have hll:(bss (p++[x])).length=p.length+1:=by rw [BM,List.length_append];rfl
   have hcap:(bss (p++[x])).length≤cap:=by
    obtain⟨A0,n0,c0,e,h⟩:=hR
    cases e
    exact h
   by_cases h:0≤i∧i<n
   ·by_cases h1:n=1
    ·subst h1
     obtain rfl:i=0:=by omega
     rw [Dr,if_neg (fun e=>e.2.2 rfl),hll];exact TJ leaf A (p.length+1) cap w (by omega) none (by simp) (fun x hx=>by cases hx)
    ·obtain⟨b,off,rfl,hb,c0⟩:=hc p.length (by omega)
     have ec:(bss (p++[x]))[p.length]'(by omega)=bs x:=by simp [bss]
     rw [ec] at c0;obtain⟨hs2,P2⟩:=PN hT hcap p.length (by omega)
     have e1:(bss (p++[x])).take p.length=bss p:=by rw [←PM,List.take_left]
     rw [e1] at P2;rw [hll] at hs2 hcap ⊢;rw [Dr,if_pos ⟨h.1,h.2,h1⟩];have hxl:=hy x (by simp);by_cases hlt:i<(spl n.toNat:Nat)
     ·rw [if_pos hlt]
      exact iF _ b off p.length _ cap _ rfl x i n w h.1 h.2 h1 hn (by omega) rfl hlt _ c0 hs2
       (qH (ih _ i _ w P2 ⟨_,_,_,rfl,by omega⟩ hr (by have:=(Dj (n:=n.toNat) (by omega) (by omega)).2.1;omega) (by omega) (fun y hy'=>hy y (by simp [hy']))))
       (qH fun t ht W hW=>(cP t x W (Cy hr hW) (by omega) hxl).mono fun e w' ⟨he,hb⟩=>⟨he,Ad (Ae hW.below hb)⟩)
     ·rw [if_neg hlt]
      exact eR _ b off p.length _ cap _ rfl x i n w h.1 h.2 h1 hn (by omega) rfl hlt _ c0 hs2
       (qH (ih _ _ _ w P2 ⟨_,_,_,rfl,by omega⟩ hr (by omega) (by omega) (fun y hy'=>hy y (by simp [hy']))))
       (qH fun t ht W hW=>(cP x t W (Cy hr hW) hxl (by omega)).mono fun e w' ⟨he,hb⟩=>⟨he,Ad (Ae hW.below hb)⟩)
   ·rw [IG h]
    exact TI _ _ i n w h
theorem NC (root lf:List UInt8) (p:KV) (v:Value) (i n:Int) (w:World) (r:Option (List UInt8×List (List UInt8))) (out:Bool)
  (H0:Hid (∀ W,Aa w W→Calls qP 151 #[.agg #[.string p.1,.string p.2]] W fun e w'=>e=.returned (.string (bs lf))∧Aa w w'))
  (H1:Hid (∀ W,Aa w W→Calls qP 150 #[.string (bs lf),v,.int .i64 i,.int .i64 n] W (Cm W r)))
  (H2:Hid (∀ t,t.length≤32→∀ W,Aa w W→Calls qP 107 #[.int .i64 n,.string (bs t)] W fun e w'=>e=.returned (.string (bs (Ax (Bt n t))))∧Aa w w'))
  (hno:r=none→out=false) (hyes:∀ x,r=some x→out=decide (Ax (Bt n x.1)=root)) :
  Calls qP 100 #[.string (bs root),.agg #[.string p.1,.string p.2],v,.int .i64 i,.int .i64 n] w fun e w'=>e=.returned (.bool out)∧Aa w w':=by
 obtain⟨p1,p2⟩:=p;have HB:=qH (Blk.new w 36 #[.string p1,.string p2]);have HW:=qH (Ad ((Below.refl w.heap.size w).alloc (Nat.le_refl _) (.cells #[.string p1,.string p2] 36)));have HN:=qH hno;have HY:=qH hyes;clear hno hyes;simp only at H0;go_enter Tryz.func100,Tryz.ntmps100
 go_wp2_with fail
 refine(H0.out _ HW.out).mono ?_;rintro e w1 ⟨rfl,s1⟩;clear H0 HB HW
 go_wp2_with fail
 refine(H1.out w1 s1).mono ?_;rintro e w2 ⟨t,rfl,tl,tx,s2⟩;have S2:=qH (Ad (Ae s1.below s2.below));have TX:=qH tx;clear H1 tx s1 s2
 cases r with
 | none =>
   obtain rfl:out=false:=HN.out rfl;simp only [Option.isSome_none];go_wp2
   go_ret
   exact⟨rfl,S2.out⟩
 | some x =>
   have hx:=TX.out x rfl;have hy:=HY.out x rfl;rw [hx] at hy;simp only [Option.isSome_some];clear HN HY TX hx
   go_wp2_with fail
   refine(H2.out t tl w2 S2.out).mono ?_;rintro e w3 ⟨rfl,s3⟩;generalize Ax (Bt n t)=y at *;by_cases he:y=root
   ·subst he
    rw [decide_eq_true rfl] at hy;subst hy;go_wp2
    go_ret
    exact⟨rfl,s3⟩
   ·rw [decide_eq_false he] at hy
    subst hy;have hne:=Eh (Tb he);clear he;go_wp2
    go_ret
    exact⟨rfl,s3⟩
theorem Xx (root:List UInt8) (p:KV) (q:List (List UInt8)) (v:Value) (i n:Int) (w:World) (hT:Txs w w.heap.size v (bss q)) (hR:BU v) (hr:Ba w) (hn:n≤9223372036854775807) (hq:q.length≤1000000) (hy:∀ y ∈ q,y.length≤70000) :
  Calls qP 100 #[.string (bs root),.agg #[.string p.1,.string p.2],v,.int .i64 i,.int .i64 n] w fun e w'=>e=.returned (.bool (El root p q i n))∧Aa w w' :=
 NC root _ p v i n w (FQ (Ax (BR p)) q i n) _
  (qH fun W hW=>(iD p W (Cy hr hW)).mono fun e w' ⟨he,hb⟩=>⟨he,Ad (Ae hW.below hb)⟩)
  (qH fun W hW=>iG _ (Bc _) q v i n W ((hT.below hW.below).more hW.2.2.2.1) hR (Cy hr hW) hn hq hy)
  (qH fun t ht W hW=>(iE n t W (Cy hr hW) (by omega)).mono fun e w' ⟨he,hb⟩=>⟨he,Ad (Ae hW.below hb)⟩)
  (fun h=>KU h) (fun x h=>Ig h)
theorem Xy {l:List KV} {k:Nat} (hk:1≤k) (h:k<l.length) (hn:kc (l[k-1]'(by omega)).1 l[k].1≠-1):¬Up l:=fun hu=>hn (cA hu (k-1) k (by omega) h)
instance upDec (l:List KV):Decidable (Up l):=by unfold Up;infer_instance
theorem eS (v:Value) (l:List KV) (w:World) (hP:Prs w v l) (hz:l.length≤1000000000) :
  Calls qP 104 #[v] w fun e w'=>e=.returned (.bool (decide (Up l)))∧Aa w w':=by
 obtain⟨A,cap,rfl,hcap,hc⟩:=hP;have HC:=qH hc;obtain⟨r,hr⟩:∃ r,r=decide (Up l):=⟨_,rfl⟩;rw [←hr];have HR:=qH hr;clear hc hr hcap;go_enter Tryz.func104,Tryz.ntmps104;go_wp2
 go_loopw [3] (fun i wr=>∃ k:Nat,1≤k∧i=.int .i64 k∧Hid (Adj l k∧(k≤l.length∨k=1))∧Aa w wr) (fun i _=>l.length-(intOf i).toNat)
 case atStart=>exact⟨1,Nat.le_refl _,rfl,qH ⟨fun i h hi=>absurd hi (by omega),.inr rfl⟩,Aa.refl w⟩
 case round =>
  obtain⟨k,hk,rfl,HT,hS⟩:=hrel;by_cases hlt:k<l.length
  ·obtain⟨b1,off1,rfl,d1,d3⟩:=HC.out k hlt
   obtain⟨b2,off2,e2,d2,d4⟩:=HC.out (k-1) (by omega)
   cases e2
   have c1:=hS.cell d1;have c2:=hS.cell d2;rw [show((k-1:Nat))*2=(k-1)*2 from rfl] at c2
   have hi0:(0:Int)≤k:=by omega
   have hi1:(k:Int)<(l.length:Int):=by omega
   have hw:IntKind.i64.wrap ((k:Int)-1)=((k-1:Nat):Int):=by rw [IntWalk.i64_in _ (by omega)];omega
   have hj0:(0:Int)≤((k-1:Nat):Int):=by omega
   have hj1:((k-1:Nat):Int)<(l.length:Int):=by omega
   have hwk:IntKind.i64.wrap ((k:Int)+1)=(k:Int)+1:=IntWalk.i64_in _ (by omega);have HF:=qH (fun h=>Wr HT.out.1 hk hlt h);have HN:=qH (fun hn=>Xy (l:=l) hk hlt hn);have hless:=Ct (l[k-1]'(by omega)).1 l[k].1;obtain⟨x,hx⟩:∃ x,x=(l[k-1]'(by omega)).1:=⟨_,rfl⟩;obtain⟨y,hy⟩:∃ y,y=l[k].1:=⟨_,rfl⟩;rw [←hx] at c2 hless HF HN;rw [←hy] at c1 hless HF HN;clear d1 d2 d3 d4 hx hy;generalize k-1=k1 at *;by_cases h1:kc x y=-1
   ·rw [decide_eq_true h1] at hless
    go_wp2
    go_region
    go_wp2
    go_roundw
    case rel=>exact⟨k+1,by omega,by simp,qH ⟨HF.out h1,.inl (by omega)⟩,Ad (Below.drewN hS.below 1)⟩
    case measure=>simp [intOf];omega
   ·rw [decide_eq_false h1] at hless
    have h3:r=false:=by rw [HR.out];exact decide_eq_false (HN.out h1)
    subst h3;go_wp2
    go_region
    go_wp2
    go_ret
    exact⟨rfl,Ad (Below.drewN hS.below 1)⟩
  ·have h3:r=true:=by
    rw [HR.out];refine decide_eq_true (Mw l ?_);intro i hi _
    exact HT.out.1 i hi (by rcases HT.out.2 with h|h<;>omega)
   subst h3
   have hi1:¬(k:Int)<(l.length:Int):=by omega
   go_wp2
   go_ret
   exact⟨rfl,hS⟩
section
variable {V V':World} {v:Value} {b B:Nat}
theorem Hi (hk:∀ g,g≠b→V'.heap[g]?=V.heap[g]?) {p:Addr} (hp:p.block≠b) {u:Value} (h:V.cell? p=some u):V'.cell? p=some u :=
 (World.cell?_of_block (w:=V) (hk p.block hp)).trans h
theorem Txs.kept_by {C:Nat} {ss:List ByteArray} (h:Txs V C v ss) (hk:∀ g,g≠b→V'.heap[g]?=V.heap[g]?) (hs:∀ off s,V.cell? ⟨b,off,none⟩≠some (.string s)):Txs V' C v ss:=by
 obtain⟨A,cap,rfl,hc⟩:=h;refine⟨A,cap,rfl,fun i hi=>?_⟩;obtain⟨g,off,rfl,hl,h1⟩:=hc i hi;refine⟨g,off,rfl,hl,Hi hk (p:=⟨g,off+i,none⟩) (fun e=>?_) h1⟩;simp only at e;subst e;exact hs _ _ h1
theorem Prs.kept_by {l:List KV} (h:Prs V v l) (hk:∀ g,g≠b→V'.heap[g]?=V.heap[g]?) (hs:∀ off s,V.cell? ⟨b,off,none⟩≠some (.string s)):Prs V' v l:=by
 obtain⟨A,cap,rfl,hl,hc⟩:=h;refine⟨A,cap,rfl,hl,fun i hi=>?_⟩;obtain⟨g,off,rfl,h1,h2⟩:=hc i hi
 have hg:g≠b:=fun e=>by subst e;exact hs _ _ h1
 exact⟨g,off,rfl,Hi hk (p:=⟨g,off+i*2,none⟩) hg h1,Hi hk (p:=⟨g,off+i*2+1,none⟩) hg h2⟩
theorem Jz.kept_by {L:List (List (List UInt8))} (h:Jz V v L) (hz:V'.heap.size=V.heap.size) (hg:∀ g,v.ownBlock=some g→g≠b) (hk:∀ g,g≠b→V'.heap[g]?=V.heap[g]?) (hs:∀ off s,V.cell? ⟨b,off,none⟩≠some (.string s)):Jz V' v L:=by
 obtain⟨A,cap,rfl,hl,hc⟩:=h;refine⟨A,cap,rfl,hl,fun i q hq=>?_⟩;obtain⟨g,off,u,rfl,h1,h2,h3⟩:=hc i q hq;refine⟨g,off,u,rfl,Hi hk (p:=⟨g,off+i,none⟩) (hg g rfl) h1,?_,h3⟩;rw [hz];exact h2.kept_by hk hs
theorem Prf.kept5 {x:Pf} {t:TypeId} {n pos:Int} {th:Bool} {A1 A2:Option Addr} {m1 k1 m2 k2:Nat} (h:Prf V v x) (hF:BP B v) (hb:b<B) (hB:Blk V b t #[.int .i64 n,.int .i64 pos,.bool th,.slice A1 m1 k1,.slice A2 m2 k2]) (v0 v1 v2 v3 v4:Value) :
  Prf (((((V.setCell ⟨b,0,none⟩ v0).setCell ⟨b,1,none⟩ v1).setCell ⟨b,2,none⟩ v2).setCell ⟨b,3,none⟩ v3).setCell ⟨b,4,none⟩ v4) v x:=by
 have hk:∀ g,g≠b→(((((V.setCell ⟨b,0,none⟩ v0).setCell ⟨b,1,none⟩ v1).setCell ⟨b,2,none⟩ v2).setCell ⟨b,3,none⟩ v3).setCell ⟨b,4,none⟩ v4).heap[g]?=V.heap[g]?:=fun g hg=>Ev V hg v0 v1 v2 v3 v4
 have hs:∀ off s,V.cell? ⟨b,off,none⟩≠some (.string s):=fun off s e=>by
  have h1:=(hB.cell off).symm.trans e
  match off,h1 with
  | 0,h1=>simp at h1
  | 1,h1=>simp at h1
  | 2,h1=>simp at h1
  | 3,h1=>simp at h1
  | 4,h1=>simp at h1
  | k+5,h1=>simp at h1
 obtain⟨nv,pv,rfl,h1,h2⟩:=h;exact⟨nv,pv,rfl,h1.kept_by hk hs,h2.kept_by (by simp [World.setCell]) (fun g hg=>by have:=hF _ _ _ _ _ rfl g hg;omega) hk hs⟩
end
theorem PR {w:World} {v:Value} {x:Pf} (h:Prf w v x):Prf w.drew v x:=h.below ((Below.refl _ w).drew)
end Go.Proofs.YtkejaepmoabikaaGreatDoor.W
namespace Go.Proofs.YtkejaepmoabikaaGreatDoor.W
def BE (k:Nat) (L:List (List UInt8)):Prop:=L.length≤k∧∀ y ∈ L,y.length≤1000000
theorem BE.nil (k:Nat):BE k []:=⟨Nat.zero_le _,fun y hy=>by cases hy⟩
theorem BE.append {k m:Nat} {L M:List (List UInt8)} (h:BE k L) (h2:BE m M):BE (k+m) (L++M) :=
 ⟨by rw [List.length_append];have:=h.1;have:=h2.1;omega,fun y hy=>by
  rcases List.mem_append.1 hy with h3|h3
  ·exact h.2 y h3
  ·exact h2.2 y h3⟩
theorem BE.one {y:List UInt8} (h:y.length≤1000000):BE 1 [y]:=⟨by simp,fun z hz=>by rw [List.mem_singleton] at hz;rw [hz];exact h⟩
theorem RL {leaf:List UInt8} (hl:leaf.length=32) (p:List (List UInt8)) (hy:∀ y ∈ p,y.length≤70000):∀(i n:Int) (t:List UInt8×List (List UInt8)),FQ leaf p i n=some t→BE p.length t.2:=by
 induction p using GW with
 | h0 =>
   intro i n t h;rw [EH] at h
   split at h
   ·cases h;exact BE.nil _
   ·cases h
 | h1 p x ih =>
   intro i n t h;have hx:=hy x (by simp);have ih':=ih fun y hy'=>hy y (by simp [hy']);rw [Dr] at h;rw [List.length_append]
   split at h
   ·split at h
    ·rw [Option.map_eq_some_iff] at h
     obtain⟨u,hu,rfl⟩:=h;have:=KR hl p _ _ u hu;exact(ih' _ _ u hu).append (BE.one (by rw [EG];omega))
    ·rw [Option.map_eq_some_iff] at h
     obtain⟨u,hu,rfl⟩:=h;have:=KR hl p _ _ u hu;exact(ih' _ _ u hu).append (BE.one (by rw [EG];omega))
   ·cases h
theorem PS (p:KV) (q:List (List UInt8)) (hy:∀ y ∈ q,y.length≤70000) (i n:Int):BE (q.length+2) (Bz p q i n):=by
 unfold Bz
 split
 ·rename_i t h
  have h1:=RL (Bc _) q hy i n t h;have h2:=KR (Bc _) q _ _ t h;have h3:=If p;have h4:=GZ n t.1;have:=((BE.one (y:=BR p) (by omega)).append h1).append (BE.one (y:=Bt n t.1) (by omega));exact⟨by have:=this.1;omega,this.2⟩
 ·exact BE.nil _
theorem Lw (m:Nat) (n:Int):∀(ps:List KV) (qs:List (List (List UInt8))) (i:Int),(∀ q ∈ qs,q.length≤m∧∀ y ∈ q,y.length≤70000)→BE (ps.length*(m+2)) (Bd n i ps qs)
 | [],_,_,_=>by unfold Bd;exact BE.nil _
 | _::_,[],_,_=>by unfold Bd;exact BE.nil _
 | p::ps,q::qs,i,h=>by
   unfold Bd;have h1:=PS p q (h q (by simp)).2 i n;have h2:=Lw m n ps qs (i+1) fun q' hq=>h q' (by simp [hq]);have h3:=(h q (by simp)).1;have:=h1.append h2;rw [List.length_cons,Nat.succ_mul];exact⟨by have:=this.1;omega,this.2⟩
theorem Lx {n i:Int} {ps:List KV} {qs:List (List (List UInt8))} {k:Nat} (h1:k<ps.length) (h2:k<qs.length) :
  Bd n (i+k) (ps.drop k) (qs.drop k)=Bz ps[k] qs[k] (i+k) n++Bd n (i+(k+1:Nat)) (ps.drop (k+1)) (qs.drop (k+1)):=by
 rw [List.drop_eq_getElem_cons h1,List.drop_eq_getElem_cons h2]
 show Bz _ _ _ _++Bd _ _ _ _=_
 rw [show i+((k+1:Nat):Int)=i+(k:Int)+1 by omega]
def Io (pos n:Int):List Int:=(if 0<pos then [pos-1] else [])++(if pos<n then [pos] else [])
theorem XH (pos n:Int):(Io pos n).length≤2:=by unfold Io;split<;>split<;>simp
theorem ZY {x:Pf} (h1:x.pos≤x.n) (k:Nat) (h:k<(Io x.pos x.n).length):(Io x.pos x.n)[k]=loI x+k:=by
 obtain⟨n,pos,t,near,paths⟩:=x;simp only at h1 h ⊢;unfold Io at h ⊢;unfold loI;by_cases c1:0<pos
 ·by_cases c2:pos<n
  ·simp only [c1,c2,if_true,List.cons_append,List.nil_append,List.length_cons,List.length_nil] at h ⊢
   match k,h with
   | 0,_=>simp
   | 1,_=>simp
  ·simp only [c1,c2,if_true,if_false,List.append_nil,List.length_cons,List.length_nil] at h ⊢
   match k,h with
   | 0,_=>simp
 ·by_cases c2:pos<n
  ·simp only [c1,c2,if_true,if_false,List.nil_append,List.length_cons,List.length_nil] at h ⊢
   match k,h with
   | 0,_=>simp
  ·simp [c1,c2] at h
theorem RM (x:Pf):((Io x.pos x.n).length:Int)=hiI x-loI x:=by
 unfold Io hiI loI
 split<;>split<;>simp<;>omega
end Go.Proofs.YtkejaepmoabikaaGreatDoor.W
namespace Go.Proofs.YtkejaepmoabikaaGreatDoor.W
open Go.RowKit
open Lib renaming hid → qH
open _root_.Go.Proofs.Tryz renaming prog → qP
set_option maxHeartbeats 2000000
set_option maxRecDepth 100000
def sLo (a:Int):Int:=if 0<a then a-1 else a
def sHi (a n:Int):Int:=if a<n then a+1 else a
theorem XL (a n:Int) (w:World) (h0:-9223372036854775808≤a) (h2:a≤9223372036854775807) (h1:n≤9223372036854775807) :
  Calls qP 106 #[.int .i64 a,.int .i64 n] w fun e w'=>e=.returned (.tuple #[.int .i64 (sLo a),.int .i64 (sHi a n)])∧w=w':=by
 by_cases ha:0<a
 ·have e1:sLo a=a-1:=if_pos ha
  have w1:IntKind.i64.wrap (a-1)=a-1:=IntWalk.i64_in _ (by omega);by_cases hn:a<n
  ·have e2:sHi a n=a+1:=if_pos hn
   have w2:IntKind.i64.wrap (a+1)=a+1:=IntWalk.i64_in _ (by omega);rw [e1,e2];clear e1 e2;go_enter Tryz.func106,Tryz.ntmps106;go_wp2
   go_ret2
   exact⟨rfl,rfl⟩
  ·have e2:sHi a n=a:=if_neg hn
   rw [e1,e2];clear e1 e2;go_enter Tryz.func106,Tryz.ntmps106;go_wp2
   go_ret2
   exact⟨rfl,rfl⟩
 ·have e1:sLo a=a:=if_neg ha
  by_cases hn:a<n
  ·have e2:sHi a n=a+1:=if_pos hn
   have w2:IntKind.i64.wrap (a+1)=a+1:=IntWalk.i64_in _ (by omega);rw [e1,e2];clear e1 e2;go_enter Tryz.func106,Tryz.ntmps106;go_wp2
   go_ret2
   exact⟨rfl,rfl⟩
  ·have e2:sHi a n=a:=if_neg hn
   rw [e1,e2];clear e1 e2;go_enter Tryz.func106,Tryz.ntmps106;go_wp2
   go_ret2
   exact⟨rfl,rfl⟩
theorem iJ (root p1 p2:ByteArray) (n pos:Int) (t:Bool) (A1 A2:Option Addr) (m1 c1 m2 c2:Nat) (w:World) (h:t=false∨m1≠0∨m2≠1) :
  Calls qP 55 #[.string root,.agg #[.string p1,.string p2],.agg #[.int .i64 n,.int .i64 pos,.bool t,.slice A1 m1 c1,.slice A2 m2 c2]] w fun e w'=>e=.returned (.bool false)∧Aa w w':=by
 have R:Aa w ((w.alloc (.cells #[.string p1,.string p2] 36)).alloc (.cells #[.int .i64 n,.int .i64 pos,.bool t,.slice A1 m1 c1,.slice A2 m2 c2] 112)):=Ad (by go_grown);have HR:=qH R;clear R
 cases t with
 | false =>
   clear h;go_enter Tryz.func55,Tryz.ntmps55;go_wp2
   go_ret
   exact⟨rfl,HR.out⟩
 | true =>
   by_cases h1:m1=0
   ·subst h1
    have h2:((m2:Int) != 1)=true:=by rw [bne_iff_ne];rcases h with h|h|h<;>first|cases h|omega
    clear h;go_enter Tryz.func55,Tryz.ntmps55;go_wp2
    go_ret
    exact⟨rfl,HR.out⟩
   ·have h2:((m1:Int) != 0)=true:=by rw [bne_iff_ne];omega
    clear h h1;go_enter Tryz.func55,Tryz.ntmps55;go_wp2
    go_ret
    exact⟨rfl,HR.out⟩
theorem eW (root p1 p2:ByteArray) (n pos:Int) (A1:Option Addr) (c1 b off c2:Nat) (u:Value) (w:World) (out:Bool) (hc:w.cell? ⟨b,off,none⟩=some u)
  (H:Hid (∀ W,Aa w W→Calls qP 100 #[.string root,.agg #[.string p1,.string p2],u,.int .i64 pos,.int .i64 n] W fun e w'=>e=.returned (.bool out)∧Aa W w')) :
  Calls qP 55 #[.string root,.agg #[.string p1,.string p2],.agg #[.int .i64 n,.int .i64 pos,.bool true,.slice A1 0 c1,.slice (some ⟨b,off,none⟩) 1 c2]] w fun e w'=>e=.returned (.bool out)∧Aa w w':=by
 have R:Aa w ((w.alloc (.cells #[.string p1,.string p2] 36)).alloc (.cells #[.int .i64 n,.int .i64 pos,.bool true,.slice A1 0 c1,.slice (some ⟨b,off,none⟩) 1 c2] 112)):=Ad (by go_grown);have k1:=(Blk.new w 36 #[.string p1,.string p2]).alloc (.cells #[.int .i64 n,.int .i64 pos,.bool true,.slice A1 0 c1,.slice (some ⟨b,off,none⟩) 1 c2] 112);have k2:=Blk.new (w.alloc (.cells #[.string p1,.string p2] 36)) 112 #[.int .i64 n,.int .i64 pos,.bool true,.slice A1 0 c1,.slice (some ⟨b,off,none⟩) 1 c2];rw [show(w.alloc (.cells #[.string p1,.string p2] 36)).heap.size=w.heap.size+1 by simp] at k2;have q0:=k1.cell 0;have q1:=k1.cell 1;have q2:=k2.cell 0;have q3:=k2.cell 1;have q4:=k2.cell 4;have q5:=R.cell hc;have HR:=qH R;clear R k1 k2 hc;go_enter Tryz.func55,Tryz.ntmps55;go_wp2;generalize (w.alloc (.cells #[.string p1,.string p2] 36)).alloc (.cells #[.int .i64 n,.int .i64 pos,.bool true,.slice A1 0 c1,.slice (some ⟨b,off,none⟩) 1 c2] 112)=V at *;have r0:=HR.out;simp only [List.getElem?_toArray,List.getElem?_cons_zero,List.getElem?_cons_succ] at q0 q1 q2 q3 q4
 go_region_held3 (fun W=>W.cell? ⟨w.heap.size,0,none⟩=some (.string p1)∧W.cell? ⟨w.heap.size,1,none⟩=some (.string p2)∧W.cell? ⟨w.heap.size+1,0,none⟩=some (.int .i64 n)∧W.cell? ⟨w.heap.size+1,1,none⟩=some (.int .i64 pos)∧W.cell? ⟨w.heap.size+1,4,none⟩=some (.slice (some ⟨b,off,none⟩) 1 c2)∧W.cell? ⟨b,off,none⟩=some u)
  (first|exact⟨s5.cell q0,s5.cell q1,s5.cell q2,s5.cell q3,s5.cell q4,s5.cell q5⟩|go_keep)
  (first
    | (go_at_call 100;refine(H.out _ (by exact r0)).mono ?_;clear H;rintro en w5 ⟨rfl,s5⟩))
 all_goals go_wp2
 all_goals go_ret
 all_goals exact⟨rfl,Ad (Ae (Below.drewN r0.below 1) s5.below)⟩
theorem kQ (root:List UInt8) (p:KV) (x:Pf) (v:Value) (w:World) (hP:Prf w v x) (hr:Ba w) (hn:x.n≤9223372036854775807) (hq:∀ q ∈ x.paths,q.length≤1000000∧∀ y ∈ q,y.length≤70000) :
  Calls qP 55 #[.string (bs root),.agg #[.string p.1,.string p.2],v] w fun e w'=>e=.returned (.bool (OH root p x))∧Aa w w':=by
 obtain⟨n,pos,there,near,paths⟩:=x;obtain⟨nv,pv,rfl,⟨A1,c1,rfl,_,_⟩,⟨A2,c2,rfl,_,hc⟩⟩:=hP;simp only at hn hq hc ⊢;by_cases h:there=true∧near=[]∧paths.length=1
 ·obtain⟨rfl,rfl,h3⟩:=h
  obtain⟨q,rfl⟩:=List.length_eq_one_iff.1 h3;obtain⟨b,off,u,rfl,d,hT,hR⟩:=hc 0 q rfl;have h4:=hq q (by simp);rw [Nat.add_zero] at d;exact eW (bs root) p.1 p.2 n pos A1 c1 b off c2 u w _ d (qH fun W hW=>Xx root p q u pos n W ((hT.below hW.below).more hW.2.2.2.1) hR (Cy hr hW) hn h4.1 h4.2)
 ·have e:OH root p ⟨n,pos,there,near,paths⟩=false:=by
   match there,near,paths with
   | false,_,_=>rfl
   | true,_::_,_=>rfl
   | true,[],[]=>rfl
   | true,[],[_]=>exact absurd ⟨rfl,rfl,rfl⟩ h
   | true,[],_::_::_=>rfl
  rw [e];refine iJ (bs root) p.1 p.2 n pos there A1 A2 near.length c1 paths.length c2 w ?_
  cases there with
  | false=>exact .inl rfl
  | true =>
    right
    by_cases h1:near=[]
    ·exact .inr fun h2=>h ⟨rfl,h1,h2⟩
    ·exact .inl fun h2=>h1 (List.eq_nil_of_length_eq_zero h2)
theorem XM:(qP.info? 3).map (fun i=>(i.zero,i.size,i.bytes))=some (some (.int .i64 0),1,8):=by kernel_rfl
def IV (l:List Int):List Value:=l.map (Value.int .i64)
def ZZ (w:World) (v:Value) (l:List Int):Prop:=∃ A cap,v=.slice A l.length cap∧∀ i (h:i<l.length),∃ b off,A=some ⟨b,off,none⟩∧w.cell? ⟨b,off+i,none⟩=some (.int .i64 l[i])
theorem ZZ.below {w w':World} {v:Value} {l:List Int} (h:ZZ w v l) (hb:Below w.heap.size w w'):ZZ w' v l:=by
 obtain⟨A,cap,rfl,hc⟩:=h;refine⟨A,cap,rfl,fun i hi=>?_⟩;obtain⟨b,off,ha,h1⟩:=hc i hi;exact⟨b,off,ha,(Ad hb).cell h1⟩
def Bx (B:Nat) (v:Value) (l:List Int) (W0 w:World):Prop:=w.ownsRow B 3 1 v l.length (IV l)∧Below B W0 w∧B≤w.heap.size
theorem GN (w:World):Bx w.heap.size (.slice none 0 0) [] w w:=⟨World.ownsRow_nil _ _ _ _,Below.refl _ _,Nat.le_refl _⟩
theorem Bx.start {w w1:World} (h:Below w.heap.size w w1):Bx w.heap.size (.slice none 0 0) [] w w1:=⟨World.ownsRow_nil _ _ _ _,h,h.size⟩
section
variable {B:Nat} {v:Value} {l:List Int} {W0 w w':World}
theorem Bx.after (h:Bx B v l W0 w) (k:Below w.heap.size w w'):Bx B v l W0 w':=by
 refine⟨h.1.kept (row:=none) ⟨k.os,k.tape,k.output,k.size,fun i hi _=>k.block i hi⟩ (by cases hv:v.ownBlock<;>simp),h.2.1.trans (k.mono h.2.2),Nat.le_trans h.2.2 k.size⟩
theorem Bx.alloc (h:Bx B v l W0 w) (o:Obj):Bx B v l W0 (w.alloc o):=h.after ((Below.refl _ _).alloc (Nat.le_refl _) _)
theorem Bx.ints (h:Bx B v l W0 w):ZZ w v l:=by
 rcases h.1.2 with⟨rfl,hn⟩|⟨g,cap,cur,rfl,hb,hg,_⟩
 ·obtain rfl:l=[]:=List.eq_nil_of_length_eq_zero hn
  exact⟨none,0,rfl,fun i hi=>absurd hi (by simp)⟩
 ·refine⟨some ⟨g,0,none⟩,cap,rfl,fun i hi=>⟨g,0,rfl,?_⟩⟩
  have:=h.1.cells (g:=g) rfl i (.int .i64 l[i]) (by simp [IV,hi]);rw [show(⟨g,0,none⟩:Addr).add i=⟨g,0+i,none⟩ by unfold Addr.add;split<;>simp_all] at this;exact this
theorem Bx.below (h:Bx W0.heap.size v l W0 w):Below W0.heap.size W0 w:=h.2.1
end
theorem CQ {ops:Array Oper} {rest:List Oper} {o:Oper} {a:Act} {Q:Exit→Act→World→Prop} (hgd:o.guard=none) (s x:Operand)
  (ho:o.op=.call { callee:=.builtin .append,args:=#[s,x],argTypes:=#[131,131] })
  (B:Nat) (v:Value) (l:List Int) (hs:a.eval s=v) (W0 w0:World) (c:Int) (b:Nat) (hzb:w0.heap.size=b) (hb:Bx B v l W0 w0)
  (hx:a.eval x=.slice (some ⟨b,0,none⟩) 1 1) (hlen:l.length≤1000000000)
  (h:∀ v' w',Bx B v' (l++[c]) W0 w'→wpList qP ops Q rest (a.put o.dst v') w'):wpList qP ops Q (o::rest) a (w0.alloc (.cells #[.int .i64 c] 3)):=by
 subst hzb;obtain⟨i0,hi,hz0,hz1,hz2⟩:=info_parts XM;have hb':=hb.alloc (.cells #[.int .i64 c] 3);refine wpList_append_own _ hgd s x 131 ho B 3 i0 (.int .i64 0) 1 8 Tryz.underlying131 hi hz0 hz1 hz2 rfl (by decide) v l.length (IV l) hs hb'.1 ⟨w0.heap.size,0,none⟩ 1 1 [.int .i64 c] hx rfl ?_ ?_ ?_ ?_ hb'.2.2 ?_
 ·intro j u hj
  match j,hj with
  | 0,hj=>simp at hj;subst hj;simp [Addr.add]
  | (j+1),hj=>simp at hj
 ·intro u hu
  simp at hu;subst hu
  rfl
 ·unfold maxLen;omega
 ·omega
 ·intro v' w' ho' hg _
  refine h v' w' ⟨?_,hb'.2.1.grown hg hb'.2.2 (fun k hk=>(hb'.1.lt k hk).1),Nat.le_trans hb'.2.2 hg.size⟩
  simpa [IV] using ho'
end Go.Proofs.YtkejaepmoabikaaGreatDoor.W
