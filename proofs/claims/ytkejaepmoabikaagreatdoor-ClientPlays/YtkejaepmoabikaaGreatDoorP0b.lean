import Derived.Maps.OwnIn
import Derived.Maps.AppendAt
import Derived.Laws.AppendOwn
import Derived.Lib.Hide
import Derived.WalkKit
import Derived.IntWalk
import Derived.Deep.LoopGhost
import Derived.BigQuiet
import Derived.Deep.QuietTactic
import Derived.Deep.WholeRow
import Derived.BigRegion
import Derived.Test.YtkejaepmoabikaaGreatDoorP0a
namespace Go.Proofs.YtkejaepmoabikaaGreatDoor.W
def spl (n:Nat):Nat:=if n<2 then 0 else 2 ^ (Lib.bitLen (n-1)-1)
theorem Ie:∀(j x:Nat),2 ^ j≤x→x<2 ^ (j+1)→x<2 ^ 64→Lib.bitLen x=j+1
 | 0,x,h1,h2,_=>by
   obtain rfl:x=1:=by omega
   decide +kernel
 | j+1,x,h1,h2,h3=>by
   have h0:x≠0:=by have:=Nat.two_pow_pos (j+1);omega
   rw [Nat.pow_succ] at h1 h2;rw [Lib.bitLen_half x h0 h3,Ie j (x/2) (by omega) (by rw [Nat.pow_succ] at *;omega) (by omega)]
   omega
theorem Mr (n:Nat) (h:n<2):spl n=0:=by unfold spl;rw [if_pos h]
theorem QQ (j n:Nat) (h1:2 ^ j<n) (h2:n≤2*2 ^ j) (h3:n<2 ^ 64):spl n=2 ^ j:=by
 have h0:=Nat.two_pow_pos j;unfold spl;rw [if_neg (by omega),Ie j (n-1) (by omega) (by rw [Nat.pow_succ];omega) (by omega),Nat.add_sub_cancel]
theorem Wk:∀ n:Nat,2≤n→∃ j,2 ^ j<n∧n≤2*2 ^ j:=by
 intro n
 induction n using Nat.strongRecOn with
 | _ n ih =>
   intro h;by_cases h2:n=2
   ·subst h2;exact⟨0,by decide,by decide⟩
   ·by_cases h3:n=3
    ·subst h3;exact⟨1,by decide,by decide⟩
    ·obtain⟨j,h4,h5⟩:=ih ((n+1)/2) (by omega) (by omega)
     exact⟨j+1,by rw [Nat.pow_succ];omega,by rw [Nat.pow_succ];omega⟩
theorem Dj {n:Nat} (h:2≤n) (h3:n<2 ^ 64):1≤spl n∧spl n<n∧n-spl n≤spl n:=by
 obtain⟨j,h1,h2⟩:=Wk n h;have h0:=Nat.two_pow_pos j;rw [QQ j n h1 h2 h3]
 omega
def BR (p:KV):List UInt8:=0::((Ai p.1).1++(Ai p.2).1)
def AK (a b:List UInt8):List UInt8:=1::(a++b)
def Bt (n:Int) (t:List UInt8):List UInt8:=2::((Ag n).1++t)
def KM:Nat→List KV→List UInt8
 | 0,_=>[]
 | f+1,l=>match l with
   | []=>[]
   | [p]=>Ax (BR p)
   | p::q::r=>Ax (AK (KM f ((p::q::r).take (spl (r.length+2)))) (KM f ((p::q::r).drop (spl (r.length+2)))))
def Da (l:List KV):List UInt8:=KM l.length l
theorem KN:∀(f:Nat) (l:List KV),l.length≤f→l.length<2 ^ 64→∀ g,l.length≤g→KM f l=KM g l:=by
 intro f
 induction f with
 | zero =>
   intro l h _ g _;obtain rfl:l=[]:=List.eq_nil_of_length_eq_zero (by omega)
   cases g<;>rfl
 | succ f ih =>
   intro l h h64 g hg
   match l,g with
   | [],0=>rfl
   | [],g+1=>rfl
   | [p],g+1=>rfl
   | p::q::r,g+1 =>
     simp only [List.length_cons] at h hg h64;obtain⟨s1,s2,s3⟩:=Dj (n:=r.length+2) (by omega) (by omega)
     have e1:((p::q::r).take (spl (r.length+2))).length=spl (r.length+2):=by rw [List.length_take];simp only [List.length_cons];omega
     have e2:((p::q::r).drop (spl (r.length+2))).length=r.length+2-spl (r.length+2):=by rw [List.length_drop];simp only [List.length_cons]
     show Ax _=Ax _
     rw [ih _ (by rw [e1];omega) (by rw [e1];omega) g (by rw [e1];omega),ih _ (by rw [e2];omega) (by rw [e2];omega) g (by rw [e2];omega)]
theorem Wl:Da []=[]:=rfl
theorem Wm (p:KV):Da [p]=Ax (BR p):=rfl
theorem KO (l:List KV) (h:2≤l.length) (h64:l.length<2 ^ 64):Da l=Ax (AK (Da (l.take (spl l.length))) (Da (l.drop (spl l.length)))):=by
 match l,h with
 | p::q::r,_ =>
   simp only [List.length_cons] at h64;obtain⟨s1,s2,s3⟩:=Dj (n:=r.length+2) (by omega) (by omega)
   have e1:((p::q::r).take (spl (r.length+2))).length=spl (r.length+2):=by rw [List.length_take];simp only [List.length_cons];omega
   have e2:((p::q::r).drop (spl (r.length+2))).length=r.length+2-spl (r.length+2):=by rw [List.length_drop];simp only [List.length_cons]
   show Ax (AK (KM (r.length+1) ((p::q::r).take (spl (r.length+2)))) (KM (r.length+1) ((p::q::r).drop (spl (r.length+2)))))=Ax (AK (Da ((p::q::r).take (spl (r.length+2)))) (Da ((p::q::r).drop (spl (r.length+2)))))
   unfold Da;rw [KN (r.length+1) _ (by rw [e1];omega) (by rw [e1];omega) _ (Nat.le_refl _),KN (r.length+1) _ (by rw [e2];omega) (by rw [e2];omega) _ (Nat.le_refl _)]
theorem Wn (l:List KV) (h:l≠[]) (h64:l.length<2 ^ 64):(Da l).length=32:=by
 match l,h with
 | [p],_=>rw [Wm,Bc]
 | p::q::r,_=>rw [KO _ (by simp) h64,Bc]
theorem IF (l:List KV) (h64:l.length<2 ^ 64):(Da l).length≤32:=by
 by_cases h:l=[]
 ·subst h;rw [Wl];simp
 ·rw [Wn l h h64];omega
def DL:Nat→List KV→List (List UInt8)
 | 0,_=>[]
 | f+1,l=>match l with
   | []=>[]
   | [p]=>[BR p]
   | p::q::r=>DL f ((p::q::r).take (spl (r.length+2)))++DL f ((p::q::r).drop (spl (r.length+2)))++[AK (Da ((p::q::r).take (spl (r.length+2)))) (Da ((p::q::r).drop (spl (r.length+2))))]
def GB (l:List KV):List (List UInt8):=DL l.length l
theorem JQ:∀(f:Nat) (l:List KV),l.length≤f→l.length<2 ^ 64→∀ g,l.length≤g→DL f l=DL g l:=by
 intro f
 induction f with
 | zero =>
   intro l h _ g _;obtain rfl:l=[]:=List.eq_nil_of_length_eq_zero (by omega)
   cases g<;>rfl
 | succ f ih =>
   intro l h h64 g hg
   match l,g with
   | [],0=>rfl
   | [],g+1=>rfl
   | [p],g+1=>rfl
   | p::q::r,g+1 =>
     simp only [List.length_cons] at h hg h64;obtain⟨s1,s2,s3⟩:=Dj (n:=r.length+2) (by omega) (by omega)
     have e1:((p::q::r).take (spl (r.length+2))).length=spl (r.length+2):=by rw [List.length_take];simp only [List.length_cons];omega
     have e2:((p::q::r).drop (spl (r.length+2))).length=r.length+2-spl (r.length+2):=by rw [List.length_drop];simp only [List.length_cons]
     show DL f _++DL f _++_=DL g _++DL g _++_
     rw [ih _ (by rw [e1];omega) (by rw [e1];omega) g (by rw [e1];omega),ih _ (by rw [e2];omega) (by rw [e2];omega) g (by rw [e2];omega)]
theorem UB:GB []=[]:=rfl
theorem UC (p:KV):GB [p]=[BR p]:=rfl
theorem Ms (l:List KV) (h:2≤l.length) (h64:l.length<2 ^ 64):GB l=GB (l.take (spl l.length))++GB (l.drop (spl l.length))++[AK (Da (l.take (spl l.length))) (Da (l.drop (spl l.length)))]:=by
 match l,h with
 | p::q::r,_ =>
   simp only [List.length_cons] at h64;obtain⟨s1,s2,s3⟩:=Dj (n:=r.length+2) (by omega) (by omega)
   have e1:((p::q::r).take (spl (r.length+2))).length=spl (r.length+2):=by rw [List.length_take];simp only [List.length_cons];omega
   have e2:((p::q::r).drop (spl (r.length+2))).length=r.length+2-spl (r.length+2):=by rw [List.length_drop];simp only [List.length_cons]
   show DL (r.length+1) ((p::q::r).take (spl (r.length+2)))++DL (r.length+1) ((p::q::r).drop (spl (r.length+2)))++[AK (Da ((p::q::r).take (spl (r.length+2)))) (Da ((p::q::r).drop (spl (r.length+2))))]=DL _ ((p::q::r).take (spl (r.length+2)))++DL _ ((p::q::r).drop (spl (r.length+2)))++[AK (Da ((p::q::r).take (spl (r.length+2)))) (Da ((p::q::r).drop (spl (r.length+2))))]
   rw [JQ (r.length+1) _ (by rw [e1];omega) (by rw [e1];omega) _ (Nat.le_refl _),JQ (r.length+1) _ (by rw [e2];omega) (by rw [e2];omega) _ (Nat.le_refl _)]
   rfl
def Bl (l:List KV):List UInt8:=Ax (Bt l.length (Da l))
def bZ (l:List KV):List (List UInt8):=GB l++[Bt l.length (Da l)]
theorem If (p:KV):(BR p).length≤131089:=by
 have h1:=AF p.1;have h2:=AF p.2;unfold BR;rw [List.length_cons,List.length_append]
 omega
theorem EG (a b:List UInt8):(AK a b).length=a.length+b.length+1:=by simp [AK]
theorem GZ (n:Int) (t:List UInt8):(Bt n t).length≤t.length+9:=by
 have:=Au n;unfold Bt;rw [List.length_cons,List.length_append]
 omega
theorem Mt (l:List KV) (h64:l.length<2 ^ 64):(GB l).length≤2*l.length:=by
 have key:∀ n (l:List KV),l.length=n→l.length<2 ^ 64→(GB l).length≤2*l.length-1:=by
  intro n
  induction n using Nat.strongRecOn with
  | _ n ih =>
    intro l hl h64;by_cases h2:2≤l.length
    ·obtain⟨s1,s2,s3⟩:=Dj h2 h64
     have e1:(l.take (spl l.length)).length=spl l.length:=by rw [List.length_take];omega
     have e2:(l.drop (spl l.length)).length=l.length-spl l.length:=List.length_drop;have i1:=ih _ (by omega) (l.take (spl l.length)) e1 (by omega);have i2:=ih _ (by omega) (l.drop (spl l.length)) e2 (by omega);rw [Ms l h2 h64,List.length_append,List.length_append,List.length_singleton]
     omega
    ·match l with
     | []=>simp [UB]
     | [p]=>simp [UC]
     | p::q::r=>simp at h2
 have:=key _ l rfl h64
 omega
def pth (l:List KV) (i:Nat):List (List UInt8) :=
 if _h:2≤l.length∧l.length<2 ^ 64 then
  if i<spl l.length then pth (l.take (spl l.length)) i++[Da (l.drop (spl l.length))]
  else pth (l.drop (spl l.length)) (i-spl l.length)++[Da (l.take (spl l.length))]
 else []
termination_by l.length
decreasing_by
 all_goals
  obtain⟨_,s2,_⟩:=Dj _h.1 _h.2;simp only [List.length_take,List.length_drop]
  omega
theorem Jp {l:List KV} (h:l.length<2) (i:Nat):pth l i=[]:=by rw [pth,dif_neg (by omega)]
theorem KQ {l:List KV} (h:2≤l.length) (h64:l.length<2 ^ 64) {i:Nat} (hi:i<spl l.length):pth l i=pth (l.take (spl l.length)) i++[Da (l.drop (spl l.length))]:=by
 rw [pth,dif_pos ⟨h,h64⟩,if_pos hi]
theorem Jq {l:List KV} (h:2≤l.length) (h64:l.length<2 ^ 64) {i:Nat} (hi:¬i<spl l.length):pth l i=pth (l.drop (spl l.length)) (i-spl l.length)++[Da (l.take (spl l.length))]:=by
 rw [pth,dif_pos ⟨h,h64⟩,if_neg hi]
theorem Nd:∀(n:Nat) (l:List KV) (i:Nat),l.length=n→l.length<2 ^ 64→(pth l i).length≤l.length∧∀ x ∈ pth l i,x.length≤32:=by
 intro n
 induction n using Nat.strongRecOn with
 | _ n ih =>
   intro l i hl h64;by_cases h2:2≤l.length
   ·obtain⟨s1,s2,s3⟩:=Dj h2 h64
    have e1:(l.take (spl l.length)).length=spl l.length:=by rw [List.length_take];omega
    have e2:(l.drop (spl l.length)).length=l.length-spl l.length:=List.length_drop;have t1:=IF (l.take (spl l.length)) (by omega);have t2:=IF (l.drop (spl l.length)) (by omega);by_cases hi:i<spl l.length
    ·obtain⟨i1,i2⟩:=ih _ (by omega) (l.take (spl l.length)) i e1 (by omega)
     rw [KQ h2 h64 hi];refine⟨by rw [List.length_append,List.length_singleton];omega,fun x hx=>?_⟩;rw [List.mem_append,List.mem_singleton] at hx
     rcases hx with hx|rfl
     ·exact i2 x hx
     ·exact t2
    ·obtain⟨i1,i2⟩:=ih _ (by omega) (l.drop (spl l.length)) (i-spl l.length) e2 (by omega)
     rw [Jq h2 h64 hi];refine⟨by rw [List.length_append,List.length_singleton];omega,fun x hx=>?_⟩;rw [List.mem_append,List.mem_singleton] at hx
     rcases hx with hx|rfl
     ·exact i2 x hx
     ·exact t1
   ·rw [Jp (by omega)]
    exact⟨Nat.zero_le _,fun x hx=>by cases hx⟩
def Wo (leaf:List UInt8):List (List UInt8)→Int→Int→Option (List UInt8×List (List UInt8))
 | [],i,n=>if 0≤i∧i<n∧n=1 then some (leaf,[]) else none
 | last::r,i,n =>
   if 0≤i∧i<n∧n≠1 then
    (if i<(spl n.toNat:Nat) then (Wo leaf r i (spl n.toNat:Nat)).map fun t=>(Ax (AK t.1 last),t.2++[AK t.1 last])
    else (Wo leaf r (i-(spl n.toNat:Nat)) (n-(spl n.toNat:Nat))).map fun t=>(Ax (AK last t.1),t.2++[AK last t.1]))
   else none
def FQ (leaf:List UInt8) (p:List (List UInt8)) (i n:Int):Option (List UInt8×List (List UInt8)):=Wo leaf p.reverse i n
theorem EH (leaf:List UInt8) (i n:Int):FQ leaf [] i n=if 0≤i∧i<n∧n=1 then some (leaf,[]) else none:=rfl
theorem Dr (leaf:List UInt8) (p:List (List UInt8)) (x:List UInt8) (i n:Int):FQ leaf (p++[x]) i n =
  if 0≤i∧i<n∧n≠1 then
   (if i<(spl n.toNat:Nat) then (FQ leaf p i (spl n.toNat:Nat)).map fun t=>(Ax (AK t.1 x),t.2++[AK t.1 x])
   else (FQ leaf p (i-(spl n.toNat:Nat)) (n-(spl n.toNat:Nat))).map fun t=>(Ax (AK x t.1),t.2++[AK x t.1]))
  else none:=by
 unfold FQ;rw [List.reverse_append]
 rfl
theorem IG {leaf:List UInt8} {p:List (List UInt8)} {i n:Int} (h:¬(0≤i∧i<n)):FQ leaf p i n=none:=by
 unfold FQ
 cases p.reverse with
 | nil=>exact if_neg fun e=>h ⟨e.1,e.2.1⟩
 | cons x r=>exact if_neg fun e=>h ⟨e.1,e.2.1⟩
theorem KR {leaf:List UInt8} (hl:leaf.length=32) (p:List (List UInt8)):∀(i n:Int) (t:List UInt8×List (List UInt8)),FQ leaf p i n=some t→t.1.length=32:=by
 induction p using GW with
 | h0 =>
   intro i n t h;rw [EH] at h
   split at h
   ·cases h;exact hl
   ·cases h
 | h1 p x ih =>
   intro i n t h;rw [Dr] at h
   split at h
   ·split at h
    ·rw [Option.map_eq_some_iff] at h
     obtain⟨u,_,rfl⟩:=h;exact Bc _
    ·rw [Option.map_eq_some_iff] at h
     obtain⟨u,_,rfl⟩:=h;exact Bc _
   ·cases h
theorem Wp (p:KV):∀(n:Nat) (l:List KV) (i:Nat),l[i]?=some p→l.length=n→n<2 ^ 63→(FQ (Ax (BR p)) (pth l i) i n).map Prod.fst=some (Da l):=by
 intro n
 induction n using Nat.strongRecOn with
 | _ n ih =>
   intro l i hp hl h63;have hi:i<l.length:=(List.getElem?_eq_some_iff.1 hp).1;by_cases h2:2≤n
   ·obtain⟨s1,s2,s3⟩:=Dj h2 (by omega)
    have e1:(l.take (spl n)).length=spl n:=by rw [List.length_take];omega
    have e2:(l.drop (spl n)).length=n-spl n:=by rw [List.length_drop,hl]
    have ht:=KO l (by omega) (by omega);rw [hl] at ht;by_cases hlt:i<spl n
    ·have i1:=ih _ s2 (l.take (spl n)) i (by rw [List.getElem?_take_of_lt hlt];exact hp) e1 (by omega)
     have hq:=KQ (l:=l) (by omega) (by omega) (i:=i) (by rw [hl];exact hlt);rw [hl] at hq;rw [hq,Dr,if_pos ⟨by omega,by omega,by omega⟩,Int.toNat_natCast,if_pos (by omega),Option.map_map];rw [Option.map_eq_some_iff] at i1 ⊢;obtain⟨t,h1,h3⟩:=i1;exact⟨t,h1,by show Ax (AK t.1 _)=_;rw [h3,ht]⟩
    ·have i1:=ih _ (by omega) (l.drop (spl n)) (i-spl n) (by rw [List.getElem?_drop];rw [show spl n+(i-spl n)=i by omega];exact hp) e2 (by omega)
     have hq:=Jq (l:=l) (by omega) (by omega) (i:=i) (by rw [hl];exact hlt);rw [hl] at hq;rw [hq,Dr,if_pos ⟨by omega,by omega,by omega⟩,Int.toNat_natCast,if_neg (by omega),Option.map_map];rw [show((i-spl n:Nat):Int)=(i:Int)-(spl n:Nat) by omega,show((n-spl n:Nat):Int)=(n:Int)-(spl n:Nat) by omega] at i1;rw [Option.map_eq_some_iff] at i1 ⊢;obtain⟨t,h1,h3⟩:=i1;exact⟨t,h1,by show Ax (AK _ t.1)=_;rw [h3,ht]⟩
   ·match l,hp with
    | [p0],hp =>
      obtain rfl:i=0:=by simpa using hi
      obtain rfl:n=1:=by simpa using hl.symm
      obtain rfl:p0=p:=by simpa using hp
      rw [Jp (by simp),EH,if_pos (by simp)]
      rfl
    | p0::q::r,_=>simp at hl;omega
    | [],hp=>simp at hp
def El (root:List UInt8) (p:KV) (q:List (List UInt8)) (i n:Int):Bool :=
 match FQ (Ax (BR p)) q i n with
 | some t=>decide (Ax (Bt n t.1)=root)
 | none=>false
def Bz (p:KV) (q:List (List UInt8)) (i n:Int):List (List UInt8) :=
 match FQ (Ax (BR p)) q i n with
 | some t=>[BR p]++t.2++[Bt n t.1]
 | none=>[]
theorem Ig {root:List UInt8} {p:KV} {q:List (List UInt8)} {i n:Int} {t:List UInt8×List (List UInt8)} (h:FQ (Ax (BR p)) q i n=some t):El root p q i n=decide (Ax (Bt n t.1)=root):=by unfold El;rw [h]
theorem KU {root:List UInt8} {p:KV} {q:List (List UInt8)} {i n:Int} (h:FQ (Ax (BR p)) q i n=none):El root p q i n=false:=by unfold El;rw [h]
theorem Ke {p:KV} {q:List (List UInt8)} {i n:Int} {t:List UInt8×List (List UInt8)} (h:FQ (Ax (BR p)) q i n=some t):Bz p q i n=[BR p]++t.2++[Bt n t.1]:=by unfold Bz;rw [h]
theorem Mu {l:List KV} {i:Nat} {p:KV} (hp:l[i]?=some p) (h63:l.length<2 ^ 63):El (Bl l) p (pth l i) i l.length=true:=by
 have h:=Wp p _ l i hp rfl h63;rw [Option.map_eq_some_iff] at h;obtain⟨t,h1,h2⟩:=h;rw [Ig h1,h2];exact decide_eq_true rfl
end Go.Proofs.YtkejaepmoabikaaGreatDoor.W
namespace Go.Proofs.YtkejaepmoabikaaGreatDoor.W
open Go.RowKit
def Gl (ss:List ByteArray) (k:Nat):List UInt8:=num ss.length++((ss.take k).map fun s=>Cd s.data.toList).flatten
def QR (ss:List ByteArray) (k:Nat):Prop:=∀ i (h:i<ss.length),i<k→ss[i].size≤65536
theorem KW (ss:List ByteArray):Gl ss 0=num ss.length:=by simp [Gl]
theorem KX (ss:List ByteArray) (k:Nat) (h:k<ss.length):Gl ss (k+1)=Gl ss k++Cd ss[k].data.toList:=by
 unfold Gl;rw [List.take_succ_eq_append_getElem h,List.map_append,List.flatten_append,List.append_assoc];simp
theorem GE (s:ByteArray) (h:s.size≤65536):(Cd s.data.toList).length≤65600:=by
 unfold Cd;rw [List.length_append,Di,Ah];have:=Cr s.size 7 (by omega)
 omega
theorem Mv (ss:List ByteArray) (hl:ss.length≤256):∀ k,k≤ss.length→QR ss k→(Gl ss k).length≤8+65600*k:=by
 intro k
 induction k with
 | zero =>
   intro _ _;rw [KW,Di];have:=Cr ss.length 7 (by omega)
   omega
 | succ k ih =>
   intro hk hg;have h1:=ih (by omega) (fun i h hi=>hg i h (by omega));have h2:=GE ss[k] (hg k (by omega) (by omega));rw [KX ss k (by omega),List.length_append]
   omega
theorem QR.succ {ss:List ByteArray} {k:Nat} (hg:QR ss k) (h:k<ss.length) (hs:ss[k].size≤65536):QR ss (k+1):=by
 intro i hi hlt;by_cases e:i=k
 ·subst e;exact hs
 ·exact hg i hi (by omega)
theorem OE {ss:List ByteArray} {k:Nat} (h:k<ss.length) (hs:¬ss[k].size≤65536):BV ss=([],4):=by
 unfold BV;rw [if_neg];rintro⟨_,ha⟩;exact hs (ha _ (List.getElem_mem h))
theorem QS {ss:List ByteArray} (hl:ss.length≤256) (hg:QR ss ss.length):BV ss=(Gl ss ss.length,0):=by
 unfold BV;rw [if_pos]
 ·simp [Gl,join,Function.comp_def]
 ·refine⟨hl,fun s hs=>?_⟩
  obtain⟨i,hi,rfl⟩:=List.getElem_of_mem hs;exact hg i hi hi
end Go.Proofs.YtkejaepmoabikaaGreatDoor.W
namespace Go.Proofs.YtkejaepmoabikaaGreatDoor.W
def cat (l:List ByteArray):List UInt8:=(l.map fun s=>Cd s.data.toList).flatten
theorem OF (x:ByteArray) (l:List ByteArray):cat (x::l)=Cd x.data.toList++cat l:=by simp [cat]
theorem Wq (l:List ByteArray):join (l.map fun s=>s.data.toList)=num l.length++cat l:=by
 unfold join cat;rw [List.length_map,List.map_map]
 rfl
theorem LU (l:List ByteArray) (hl:∀ s ∈ l,s.size≤65536) (t:List UInt8):∀ acc,AU l.length (bs (cat l++t)) acc=((bs t,0),acc++l):=by
 induction l with
 | nil=>intro acc;simp [AU,cat]
 | cons x l ih =>
   intro acc;have hx:=Cj x.data.toList (by rw [Ah];exact hl x (by simp)) (cat l++t);rw [OF,List.append_assoc,List.length_cons,AU,hx];simp only [ne_eq,not_true_eq_false,if_false];rw [ih (fun s hs=>hl s (by simp [hs])) (acc++[bs x.data.toList]),Ch];simp
theorem OG (l:List ByteArray) (hn:l.length≤256) (hl:∀ s ∈ l,s.size≤65536) (t:List UInt8):Bk (bs (num l.length++cat l++t)) 0=((bs t,0),l):=by
 have h1:Ao (bs (num l.length++cat l++t)) 0=((bs (cat l++t),0),l.length):=by
  rw [List.append_assoc];exact BK l.length (by omega) (cat l++t)
 have h2:Bn (bs (num l.length++cat l++t)) 0 256=((bs (cat l++t),0),l.length):=by
  unfold Bn;rw [h1,if_neg (by simp only;omega)]
 unfold Bk;simp only [h2,ne_eq,not_true_eq_false,if_false];rw [LU l hl t []];simp
end Go.Proofs.YtkejaepmoabikaaGreatDoor.W
namespace Go.Proofs.YtkejaepmoabikaaGreatDoor.W
open Go.RowKit
open List renaming getElem_cons_succ → qB, getElem_cons_zero → qC
open Lib renaming hid → qH
open _root_.Go.Proofs.Tryz renaming prog → qP
set_option maxHeartbeats 2000000
set_option maxRecDepth 100000
theorem Fq:(qP.info? 36).map (fun i=>(i.zero,i.size,i.bytes))=some (some (.agg #[.string .empty,.string .empty]),2,32):=by kernel_rfl
def AH (l:List KV):List Value:=l.flatMap fun x=>[.string x.1,.string x.2]
theorem Ih:∀ l:List KV,(AH l).length=l.length*2
 | []=>rfl
 | x::l=>by simp only [AH,List.flatMap_cons,List.length_append,List.length_cons,List.length_nil];have:=Ih l;simp only [AH] at this;omega
theorem Fi (l m:List KV):AH (l++m)=AH l++AH m:=by simp [AH]
theorem Ha:∀(l:List KV) (i:Nat) (h:i<l.length),(AH l)[i*2]?=some (.string l[i].1)∧(AH l)[i*2+1]?=some (.string l[i].2)
 | x::l,0,_=>by simp [AH]
 | x::l,i+1,h=>by
   have:=Ha l i (by simpa using h);simp only [AH,List.flatMap_cons] at this ⊢;rw [show(i+1)*2=i*2+1+1 by omega]
   simpa using this
theorem QT {l:List KV}:∀ u ∈ AH l,u.oneCell'=true:=by
 intro u hu;simp only [AH,List.mem_flatMap] at hu;obtain⟨x,_,hx⟩:=hu;simp at hx
 rcases hx with rfl|rfl<;>rfl
def Prs (w:World) (v:Value) (l:List KV):Prop :=
 ∃ A cap,v=.slice A l.length cap∧l.length≤cap∧∀ i (h:i<l.length),∃ b off,A=some ⟨b,off,none⟩∧w.cell? ⟨b,off+i*2,none⟩=some (.string l[i].1)∧w.cell? ⟨b,off+i*2+1,none⟩=some (.string l[i].2)
section
variable {w w':World} {v:Value} {l:List KV}
theorem Prs.moved (h:Prs w v l) (hb:∀ g,v.ownBlock=some g→w'.heap[g]?=w.heap[g]?):Prs w' v l:=by
 obtain⟨A,cap,rfl,hl,hc⟩:=h;refine⟨A,cap,rfl,hl,fun i hi=>?_⟩;obtain⟨b,off,rfl,h1,h2⟩:=hc i hi;exact⟨b,off,rfl,(World.cell?_of_block (w:=w) (hb b rfl)).trans h1,(World.cell?_of_block (w:=w) (hb b rfl)).trans h2⟩
theorem Prs.kept (h:Prs w v l) (hb:∀ p u,w.cell? p=some u→some p.block=v.ownBlock→w'.cell? p=some u):Prs w' v l:=by
 obtain⟨A,cap,rfl,hl,hc⟩:=h;refine⟨A,cap,rfl,hl,fun i hi=>?_⟩;obtain⟨b,off,rfl,h1,h2⟩:=hc i hi;exact⟨b,off,rfl,hb _ _ h1 rfl,hb _ _ h2 rfl⟩
theorem Prs.below (h:Prs w v l) (hb:Below w.heap.size w w'):Prs w' v l:=h.kept fun _ _ hc _=>(Ad hb).cell hc
theorem Prs.lt (h:Prs w v l) (hl:l≠[]):∀ g,v.ownBlock=some g→g<w.heap.size:=by
 obtain⟨A,cap,rfl,_,hc⟩:=h;obtain⟨b,off,rfl,h1,_⟩:=hc 0 (by cases l<;>simp_all);intro g hg
 cases hg
 exact World.block_lt_of_cell? w _ h1
theorem Prs.nil (w:World) (A:Option Addr) (cap:Nat):Prs w (.slice A 0 cap) []:=⟨A,cap,rfl,Nat.zero_le _,fun i h=>absurd h (by simp)⟩
theorem Prs.of_own {base:Nat} (h:w.ownsRow base 36 2 v l.length (AH l)):Prs w v l:=by
 rcases h.2 with⟨rfl,hn⟩|⟨g,cap,cur,rfl,hb,hg,hc,_⟩
 ·obtain rfl:l=[]:=List.eq_nil_of_length_eq_zero hn
  exact Prs.nil _ _ _
 ·refine⟨some ⟨g,0,none⟩,cap,rfl,hc,fun i hi=>⟨g,0,rfl,?_,?_⟩⟩
  ·have:=h.cells (g:=g) rfl (i*2) _ (Ha l i hi).1
   rwa [show(⟨g,0,none⟩:Addr).add (i*2)=⟨g,0+i*2,none⟩ by unfold Addr.add;split<;>simp_all] at this
  ·have:=h.cells (g:=g) rfl (i*2+1) _ (Ha l i hi).2
   rwa [show(⟨g,0,none⟩:Addr).add (i*2+1)=⟨g,0+i*2+1,none⟩ by unfold Addr.add;split<;>simp_all] at this
end
theorem SY (b off j:Nat):(⟨b,off,none⟩:Addr).add j=⟨b,off+j,none⟩:=by unfold Addr.add;split<;>simp_all
theorem Prs.cells {w:World} {b off cap:Nat} {l:List KV} (h:Prs w (.slice (some ⟨b,off,none⟩) l.length cap) l):∀ j u,(AH l)[j]?=some u→w.cell? ((⟨b,off,none⟩:Addr).add j)=some u:=by
 intro j u hj;obtain⟨A,cap',e,_,hc⟩:=h
 cases e
 have hlt:j<l.length*2:=by rw [←Ih];exact(List.getElem?_eq_some_iff.1 hj).1
 obtain⟨b',off',e,h1,h2⟩:=hc (j/2) (by omega)
 cases e
 have hp:=Ha l (j/2) (by omega);rw [SY]
 rcases Nat.mod_two_eq_zero_or_one j with hm|hm
 ·have e:j/2*2=j:=by omega
  rw [e] at hp h1;rw [hp.1] at hj
  cases hj
  exact h1
 ·have e:j/2*2+1=j:=by omega
  rw [Nat.add_assoc,e] at h2;rw [e] at hp;rw [hp.2] at hj
  cases hj
  exact h2
theorem Kf (P:Program) (w:World) (t ty e:TypeId) (i:TypeInfo) (ht:P.underlying t=some (.slice e)) (hi:P.info? e=some i) (A:Option Addr) (n cap c:Nat) (hn:n≤cap) :
  (Builtin.append_ #[t,t] ty #[.slice A n cap,.slice none 0 c]).run P w=.ok (.slice A n cap) w:=by
 cases A<;>simp [Builtin.append_,run_underlying ht,go_sem,run_sizeOf w hi,hn]
theorem GF (w:World) (B:Nat) (T ty:TypeId) (hT:qP.underlying T=some (.slice 36)) (v y:Value) (l m:List KV) (hown:w.ownsRow B 36 2 v l.length (AH l)) (hP:Prs w y m) (hB:B≤w.heap.size) (hlen:l.length+m.length≤1000000000) :
  ∃ v' w',(Builtin.append_ #[T,T] ty #[v,y]).run qP w=.ok v' w'∧w'.ownsRow B 36 2 v' (l++m).length (AH (l++m))∧w.grownBy w' v.ownBlock∧(v'.ownBlock=v.ownBlock∨v'.ownBlock=some w.heap.size):=by
 obtain⟨i0,hi,hz0,hz1,hz2⟩:=info_parts Fq;have hP':=hP;obtain⟨A,cap,rfl,hcap,hc⟩:=hP'
 match A,hc with
 | none,hc =>
   have hm:m=[]:=by
    cases m with
    | nil=>rfl
    | cons x m=>obtain⟨b,off,e,_⟩:=hc 0 (by simp);cases e
   subst hm;rw [List.append_nil]
   have hv:∃ A' n c,v=.slice A' n c∧n≤c:=by
    rcases hown.2 with⟨rfl,_⟩|⟨g,cap,cur,rfl,_,_,h1,_⟩
    ·exact⟨none,0,0,rfl,Nat.le_refl _⟩
    ·exact⟨_,_,_,rfl,h1⟩
   obtain⟨A',n,c,rfl,hn⟩:=hv;exact⟨_,w,Kf qP w T ty _ i0 hT hi A' n c cap hn,hown,BJ _ _,.inl rfl⟩
 | some ad,hc =>
   by_cases hm:m=[]
   ·subst hm
    obtain⟨v',w',hr,h2,h3,_,h5⟩:=run_append_own_at (P:=qP) w B T ty 36 i0 _ 2 32 hT hi hz0 hz1 hz2 rfl (by decide) v l.length (AH l) hown ad 0 cap [] rfl (fun j u h=>by simp at h) (fun u h=>by cases h) (by unfold maxLen;simp only [List.length_nil] at hlen;omega) (by simp only [List.length_nil] at hlen;omega) hB;exact⟨v',w',hr,by simpa using h2,h3,h5⟩
   ·obtain⟨b,off,e,_⟩:=hc 0 (by cases m<;>simp_all)
    cases e
    obtain⟨v',w',hr,h2,h3,_,h5⟩:=run_append_own_at (P:=qP) w B T ty 36 i0 _ 2 32 hT hi hz0 hz1 hz2 rfl (by decide) v l.length (AH l) hown ⟨b,off,none⟩ m.length cap (AH m) (Ih m) hP.cells QT (by unfold maxLen;omega) (by omega) hB;exact⟨v',w',hr,by rw [List.length_append,Fi];exact h2,h3,h5⟩
theorem Dz {ops:Array Oper} {rest:List Oper} {o:Oper} {a:Act} {Q:Exit→Act→World→Prop} (w:World) (hgd:o.guard=none) (s x:Operand) (T:TypeId) (hT:qP.underlying T=some (.slice 36))
  (ho:o.op=.call { callee:=.builtin .append,args:=#[s,x],argTypes:=#[T,T] }) (B:Nat) (v y:Value) (l m:List KV) (hs:a.eval s=v) (hx:a.eval x=y)
  (hown:w.ownsRow B 36 2 v l.length (AH l)) (hP:Prs w y m) (hB:B≤w.heap.size) (hlen:l.length+m.length≤1000000000)
  (h:∀ v' w',w'.ownsRow B 36 2 v' (l++m).length (AH (l++m))→w.grownBy w' v.ownBlock→(v'.ownBlock=v.ownBlock∨v'.ownBlock=some w.heap.size)→wpList qP ops Q rest (a.put o.dst v') w'):wpList qP ops Q (o::rest) a w:=by
 refine wpList_plain hgd fun K hK=>?_;obtain⟨v',w',hr,h2,h3,h4⟩:=GF w B T o.type hT v y l m hown hP hB hlen;simp [Oper.wp,Oper.upon,execOp,ho,resolve,invoke,builtin,hs,hx,hr,Result.andThen];exact hK _ _ (h v' w' h2 h3 h4)
theorem Hq {F:Fence} {nF:Nat} {ops:Array Oper} {rest:List Oper} {o:Oper} {a:Act} {Q:Exit→Act→World→Prop} (w:World) (hgd:o.guard=none) (s x:Operand) (T:TypeId) (hT:qP.underlying T=some (.slice 36))
  (ho:o.op=.call { callee:=.builtin .append,args:=#[s,x],argTypes:=#[T,T] }) (B:Nat) (v y:Value) (l m:List KV) (hs:a.eval s=v) (hx:a.eval x=y)
  (hown:w.ownsRow B 36 2 v l.length (AH l)) (hP:Prs w y m) (hB:B≤w.heap.size) (hlen:l.length+m.length≤1000000000)
  (h:∀ v' w',w'.ownsRow B 36 2 v' (l++m).length (AH (l++m))→w.grownBy w' v.ownBlock→(v'.ownBlock=v.ownBlock∨v'.ownBlock=some w.heap.size)→wpListIn F nF qP ops Q rest (a.put o.dst v') w'):wpListIn F nF qP ops Q (o::rest) a w:=by
 refine wpListIn_plain hgd fun K hK=>?_;obtain⟨v',w',hr,h2,h3,h4⟩:=GF w B T o.type hT v y l m hown hP hB hlen;unfold Oper.wpIn;refine⟨by simp [Oper.about,ho,resolve,Target.leads,Sem.run_pure],?_⟩;rw [Oper.semAt_plain F _ _ (by rw [ho];intro c hc';cases hc')];simp [execOp,ho,resolve,invoke,builtin,hs,hx,hr,Result.andThen];exact hK _ _ (h v' w' h2 h3 h4)
theorem Eu (W:World) (x:KV):Prs (W.alloc (.cells #[.string x.1,.string x.2] 36)) (.slice (some ⟨W.heap.size,0,none⟩) 1 1) [x]:=by
 refine⟨_,1,rfl,Nat.le_refl _,fun i hi=>?_⟩;have hb:=Blk.new W 36 #[.string x.1,.string x.2]
 obtain rfl:i=0:=by simpa using hi
 exact⟨_,0,rfl,hb.cell 0,hb.cell 1⟩
theorem Ta:∀ a b:List UInt8,Op.bytesLess a b=decide (Lib.compareBytes a b=-1)
 | [],[]=>by simp [Op.bytesLess,Lib.compareBytes]
 | [],_::_=>by simp [Op.bytesLess,Lib.compareBytes]
 | _::_,[]=>by simp [Op.bytesLess,Lib.compareBytes]
 | a::x,b::y=>by
   unfold Op.bytesLess Lib.compareBytes;rw [Ta x y];by_cases h:a<b
   ·simp [h]
   ·by_cases h2:b<a
    ·have:a≠b:=fun e=>by rw [e] at h2;exact absurd h2 (UInt8.lt_irrefl _)
     simp [h,h2,this]
    ·have:=Ow h h2
     simp [this]
theorem Ct (a b:ByteArray):Op.bytesLess a.toList b.toList=decide (kc a b=-1):=by
 rw [ByteArray.toList_eq,ByteArray.toList_eq,Ta];rfl
def Dl (o:Option ByteArray):Value:=.tuple #[.string (o.getD ⟨#[]⟩),.bool o.isSome]
def BA (l:List KV) (k:ByteArray):Nat:=(l.takeWhile fun x=>decide (kc x.1 k=-1)).length
theorem IH (l:List KV) (k:ByteArray):BA l k≤l.length:=(List.takeWhile_prefix _).length_le
theorem Js (x:KV) (l:List KV) (k:ByteArray):BA (x::l) k=if kc x.1 k=-1 then BA l k+1 else 0:=by
 unfold BA;rw [List.takeWhile_cons];by_cases h:kc x.1 k=-1<;>simp [h]
theorem Fr:∀(l:List KV) (k:ByteArray) (i:Nat) (h:i<l.length),i<BA l k→kc l[i].1 k=-1
 | [],_,_,h,_=>by simp at h
 | x::l,k,i,h,hi=>by
   rw [Js] at hi
   split at hi
   ·rename_i hx
    cases i with
    | zero=>exact hx
    | succ i=>exact Fr l k i (by simpa using h) (by omega)
   ·omega
theorem Hb:∀(l:List KV) (k:ByteArray) (h:BA l k<l.length),kc (l[BA l k]'h).1 k≠-1
 | [],_,h=>by simp at h
 | x::l,k,h=>by
   have e:=Js x l k;by_cases hx:kc x.1 k=-1
   ·rw [if_pos hx] at e
    have:=Hb l k (by rw [e] at h;simpa using h);simp only [e,qB];exact this
   ·rw [if_neg hx] at e
    simp only [e,qC];exact hx
theorem EI {l:List KV} (hu:Up l) (k:ByteArray) :
  (BA l k=l.length∧AD l k=none∧(∀ v,Az l k v=l++[(k,v)])) ∨
  (∃ h:BA l k<l.length,(l[BA l k]'h).1≠k∧AD l k=none∧(∀ v,Az l k v=l.take (BA l k)++[(k,v)]++l.drop (BA l k))) ∨
  (∃ h:BA l k<l.length,(l[BA l k]'h).1=k∧AD l k=some (l[BA l k]'h).2∧(∀ v,Az l k v=l.take (BA l k)++[(k,v)]++l.drop (BA l k+1))∧Jo l k=l.take (BA l k)++l.drop (BA l k+1)):=by
 induction l with
 | nil=>exact .inl ⟨rfl,rfl,fun _=>rfl⟩
 | cons x l ih =>
   have hu':=hu;unfold Up at hu;rw [List.pairwise_cons] at hu;have e:=Js x l k
   rcases De x.1 k with h|h|h
   ·rw [if_pos h] at e
    have hg:=SX h
    have s1:∀ v,Az (x::l) k v=x::Az l k v:=fun v=>by simp only [Az];rw [if_neg (by rw [hg];decide),if_neg (by rw [hg];decide)]
    have s2:AD (x::l) k=AD l k:=Dx (Ek h) l;have s3:Jo (x::l) k=x::Jo l k:=ID (Ek h) l
    rcases ih hu.2 with⟨h1,h2,h3⟩|⟨h1,h2,h3,h4⟩|⟨h1,h2,h3,h4,h5⟩
    ·exact .inl ⟨by rw [e,h1];rfl,by rw [s2,h2],fun v=>by rw [s1,h3];rfl⟩
    ·refine .inr (.inl ⟨by rw [e];simpa using h1,?_,by rw [s2,h3],fun v=>?_⟩)
     ·simpa only [e,qB] using h2
     ·rw [s1,h4,e];rfl
    ·refine .inr (.inr ⟨by rw [e];simpa using h1,?_,?_,fun v=>?_,?_⟩)
     ·simpa only [e,qB] using h2
     ·simpa only [e,qB,s2] using h3
     ·rw [s1,h4,e];rfl
     ·rw [s3,h5,e];rfl
   ·rw [if_neg (by rw [h];decide)] at e
    have ek:=DV h;refine .inr (.inr ⟨by rw [e];simp,?_,?_,fun v=>?_,?_⟩)
    ·simpa only [e,qC] using ek
    ·simpa only [e,qC] using Dy ek l
    ·rw [e];simp only [Az];rw [if_neg (by rw [←ek,DU];decide),if_pos (by rw [←ek,DU])];rfl
    ·rw [e,IE ek,Mq (fun y hy=>by rw [←ek];exact(Ek (hu.1 y hy)).symm)];rfl
   ·rw [if_neg (by rw [h];decide)] at e
    have hl:=JP h;refine .inr (.inl ⟨by rw [e];simp,?_,Et (fun y hy=>?_),fun v=>?_⟩)
    ·simpa only [e,qC] using (Ek hl).symm
    ·simp at hy
     rcases hy with rfl|hy
     ·exact(Ek hl).symm
     ·exact(Ek (Df hl (hu.1 y hy))).symm
    ·rw [e];simp only [Az];rw [if_pos hl];rfl
theorem rAt (s:Value) (l:List KV) (k:ByteArray) (w:World) (hP:Prs w s l) (hz:l.length≤1000000000) :
  Calls qP 53 #[s,.string k] w fun e w'=>e=.returned (.int .i64 (BA l k))∧w'=w:=by
 obtain⟨A,cap,rfl,hcap,hc⟩:=hP;obtain⟨N,hN⟩:∃ N,N=BA l k:=⟨_,rfl⟩;have HN:=qH (And.intro (hN▸IH l k:N≤l.length) (And.intro (fun i (h:i<l.length) (hi:i<N)=>Fr l k i h (hN▸hi)) (fun(h:N<l.length)=>(by subst hN;exact Hb l k h:kc (l[N]'h).1 k≠-1))));rw [←hN];clear hN;have HC:=qH hc;clear hc;go_enter Tryz.func53,Tryz.ntmps53;go_wp2
 go_loopg [5] N (fun g v wr=>wr=w∧∃ i:Nat,v=.int .i64 i∧Hid (g+i=N))
 case atStart=>exact⟨rfl,0,rfl,qH rfl⟩
 case round =>
  obtain⟨rfl,i,rfl,HI⟩:=hrel;have hi:=HI.out;have hN:=HN.out.1;by_cases h1:i<N
  ·obtain⟨b,off,rfl,c1,_⟩:=HC.out i (by omega)
   have hls:Op.bytesLess (l[i]'(by omega)).1.toList k.toList=true:=by rw [Ct];simpa using HN.out.2.1 i (by omega) h1
   have hl0:(0:Int)≤i:=by omega
   have hl1:(i:Int)<l.length:=by omega
   have hw:IntKind.i64.wrap ((i:Int)+1)=(i:Int)+1:=IntWalk.i64_in _ (by omega);generalize (l[i]'(by omega)).1=x at *;go_wp2
   go_roundg (gk-1)
   case measure=>omega
   case rel=>exact⟨rfl,i+1,by simp,qH (by omega)⟩
  ·have e:i=N:=by omega
   subst e;by_cases h2:i<l.length
   ·obtain⟨b,off,rfl,c1,_⟩:=HC.out i h2
    have hls:Op.bytesLess (l[i]'h2).1.toList k.toList=false:=by rw [Ct];simpa using HN.out.2.2 h2
    have hl0:(0:Int)≤i:=by omega
    have hl1:(i:Int)<l.length:=by omega
    generalize (l[i]'h2).1=x at *;go_wp2
    go_ret
    exact⟨rfl,rfl⟩
   ·have hl1:¬(i:Int)<l.length:=by omega
    go_wp2
    go_ret
    exact⟨rfl,rfl⟩
end Go.Proofs.YtkejaepmoabikaaGreatDoor.W
namespace Go.Proofs.YtkejaepmoabikaaGreatDoor.W
structure Pf where
 n:Int
 pos:Int
 there:Bool
 near:List KV
 paths:List (List (List UInt8))
def Pf.zero:Pf:=⟨0,0,false,[],[]⟩
def Adj (l:List KV) (k:Nat):Prop:=∀ i (h:i+1<l.length),i+1<k→kc (l[i]'(by omega)).1 l[i+1].1=-1
theorem Mw:∀ l:List KV,Adj l l.length→Up l
 | [],_=>List.Pairwise.nil
 | [x],_=>List.pairwise_singleton _ _
 | x::y::r,h=>by
   have hu:Up (y::r):=Mw (y::r) fun i hi _=>h (i+1) (by simp at hi ⊢;omega) (by simp at hi ⊢;omega);have h0:kc x.1 y.1=-1:=h 0 (by simp) (by simp);refine List.pairwise_cons.2 ⟨fun z hz=>?_,hu⟩
   rcases List.mem_cons.1 hz with rfl|hz
   ·exact h0
   ·exact Df h0 ((List.pairwise_cons.1 hu).1 z hz)
theorem cA {l:List KV} (hu:Up l) (i j:Nat) (hij:i<j) (hj:j<l.length):kc (l[i]'(by omega)).1 l[j].1=-1:=List.pairwise_iff_getElem.1 hu i j (by omega) hj hij
theorem Wr {l:List KV} {k:Nat} (h:Adj l k) (hk:1≤k) (hl:k<l.length) (hc:kc (l[k-1]'(by omega)).1 l[k].1=-1):Adj l (k+1):=by
 intro i hi hik;by_cases e:i+1=k
 ·subst e;exact hc
 ·exact h i hi (by omega)
def DA (a:Nat):Nat:=a-1
def CA (a n:Nat):Nat:=if a<n then a+1 else a
theorem EJ {a n:Nat} (h:a≤n):DA a≤CA a n∧CA a n≤n∧CA a n≤DA a+2∧a≤CA a n:=by unfold DA CA;split<;>omega
def GG (l:List KV) (a:Nat):List KV:=(l.take (CA a l.length)).drop (DA a)
def CP (l:List KV) (lo k:Nat):List (List (List UInt8)):=(List.range' lo k).map (pth l)
theorem FT {l:List KV} {a:Nat} (h:a≤l.length):(GG l a).length=CA a l.length-DA a:=by
 have:=EJ h;unfold GG;rw [List.length_drop,List.length_take]
 omega
theorem Nf (l:List KV) (lo k:Nat):CP l lo (k+1)=CP l lo k++[pth l (lo+k)]:=by
 unfold CP;rw [List.range'_concat,List.map_append];simp
theorem Cx (l:List KV) (lo k:Nat):(CP l lo k).length=k:=by simp [CP]
def bld (l:List KV) (key:ByteArray):Pf :=
 match AD l key with
 | some _=>⟨l.length,BA l key,true,[],[pth l (BA l key)]⟩
 | none=>⟨l.length,BA l key,false,GG l (BA l key),CP l (DA (BA l key)) (CA (BA l key) l.length-DA (BA l key))⟩
theorem II {l:List KV} {key v:ByteArray} (h:AD l key=some v):bld l key=⟨l.length,BA l key,true,[],[pth l (BA l key)]⟩:=by unfold bld;rw [h]
theorem GH {l:List KV} {key:ByteArray} (h:AD l key=none):bld l key=⟨l.length,BA l key,false,GG l (BA l key),CP l (DA (BA l key)) (CA (BA l key) l.length-DA (BA l key))⟩:=by unfold bld;rw [h]
def OH (root:List UInt8) (p:KV) (x:Pf):Bool :=
 match x.there,x.near,x.paths with
 | true,[],[q]=>El root p q x.pos x.n
 | _,_,_=>false
def Ws (p:KV) (x:Pf):List (List UInt8) :=
 match x.paths with
 | [q]=>Bz p q x.pos x.n
 | _=>[]
def loI (x:Pf):Int:=if 0<x.pos then x.pos-1 else x.pos
def hiI (x:Pf):Int:=if x.pos<x.n then x.pos+1 else x.pos
def EK (key:ByteArray) (pos i:Int) (p:KV):Bool:=if i<pos then decide (kc p.1 key=-1) else decide (kc key p.1=-1)
def BL (root:List UInt8) (key:ByteArray) (pos n:Int):Int→List KV→List (List (List UInt8))→Bool
 | i,p::ps,q::qs=>EK key pos i p&&El root p q i n&&BL root key pos n (i+1) ps qs
 | _,_,_=>true
def Bd (n:Int):Int→List KV→List (List (List UInt8))→List (List UInt8)
 | i,p::ps,q::qs=>Bz p q i n++Bd n (i+1) ps qs
 | _,_,_=>[]
def OI (x:Pf):Prop:=x.there=false∧0≤x.pos∧x.pos≤x.n∧(x.near.length:Int)=hiI x-loI x∧(x.paths.length:Int)=hiI x-loI x
instance (x:Pf):Decidable (OI x):=by unfold OI;infer_instance
def CC (root:List UInt8) (key:ByteArray) (x:Pf):Bool :=
 decide (OI x)&&BL root key x.pos x.n (loI x) x.near x.paths&&(decide (0<x.n)||decide (root=Ax (Bt 0 [])))
def QU (x:Pf):List (List UInt8):=if x.n=0 then [Bt 0 []] else Bd x.n (loI x) x.near x.paths
theorem cB {x:Pf} (h:0≤x.pos) (h2:x.pos≤x.n):loI x≤hiI x∧hiI x≤x.n∧hiI x≤loI x+2∧0≤loI x:=by unfold loI hiI;split<;>split<;>omega
theorem OJ {l:List KV} (hu:Up l) {key v:ByteArray} (h:AD l key=some v):l[BA l key]?=some (key,v):=by
 rcases EI hu key with⟨h1,h2,_⟩|⟨h1,h2,h3,_⟩|⟨h1,h2,h3,_,_⟩
 ·rw [h2] at h;cases h
 ·rw [h3] at h;cases h
 ·rw [h3] at h
  rw [List.getElem?_eq_getElem h1]
  injection h with h
  exact congrArg some (Prod.ext h2 h)
theorem ZB {l:List KV} (hu:Up l) (h63:l.length<2 ^ 63) {key v:ByteArray} (h:AD l key=some v):OH (Bl l) (key,v) (bld l key)=true:=by
 rw [II h];exact Mu (OJ hu h) h63
theorem ZC {l:List KV} {a k:Nat} {p:KV} (h:a≤l.length) (hp:(GG l a)[k]?=some p):l[DA a+k]?=some p:=by
 have e:=FT h;have:=EJ h;have hk:=(List.getElem?_eq_some_iff.1 hp).1;unfold GG at hp;rw [List.getElem?_drop,List.getElem?_take_of_lt (by omega)] at hp;exact hp
theorem Ng {l:List KV} {key:ByteArray}:BA l key≤l.length:=IH l key
theorem Wt {l:List KV} (hu:Up l) {key:ByteArray} (h:AD l key=none) {i:Nat} {p:KV} (hp:l[i]?=some p):EK key (BA l key) i p=true:=by
 obtain⟨hi,rfl⟩:=List.getElem?_eq_some_iff.1 hp;unfold EK;by_cases hlt:i<BA l key
 ·rw [if_pos (by omega)]
  exact decide_eq_true (Fr l key i hi hlt)
 ·rw [if_neg (by omega)]
  have h1:BA l key<l.length:=by omega
  have h2:=Hb l key h1
  have h3:(l[BA l key]'h1).1≠key:=by
   rcases EI hu key with⟨h4,_⟩|⟨_,h4,_⟩|⟨_,_,h4,_⟩
   ·omega
   ·exact h4
   ·rw [h4] at h;cases h
  have h4:kc key (l[BA l key]'h1).1=-1:=by
   rcases De (l[BA l key]'h1).1 key with h5|h5|h5
   ·exact absurd h5 h2
   ·exact absurd (DV h5) h3
   ·exact JP h5
  by_cases e:i=BA l key
  ·subst e;exact decide_eq_true h4
  ·exact decide_eq_true (Df h4 (cA hu _ i (by omega) hi))
theorem KY {root:List UInt8} {key:ByteArray} {pos n:Int}:∀(ps:List KV) (qs:List (List (List UInt8))) (i:Int),ps.length=qs.length→(∀(k:Nat) p q,ps[k]?=some p→qs[k]?=some q→EK key pos (i+k) p=true∧El root p q (i+k) n=true)→BL root key pos n i ps qs=true
 | [],[],_,_,_=>rfl
 | p::ps,q::qs,i,hl,h=>by
   have h0:=h 0 p q rfl rfl;rw [Int.natCast_zero,Int.add_zero] at h0;unfold BL
   rw [h0.1,h0.2,KY ps qs (i+1) (by simpa using hl) (fun k p' q' hp hq=>by
    have:=h (k+1) p' q' (by simpa using hp) (by simpa using hq)
    rwa [show i+((k+1:Nat):Int)=i+1+(k:Int) by omega] at this)]
   rfl
 | [],_::_,_,hl,_=>by simp at hl
 | _::_,[],_,hl,_=>by simp at hl
theorem QV {l:List KV} {lo c k:Nat} {q:List (List UInt8)} (h:(CP l lo c)[k]?=some q):q=pth l (lo+k):=by
 unfold CP at h;rw [List.getElem?_map,Option.map_eq_some_iff] at h;obtain⟨a,ha,rfl⟩:=h;obtain⟨hk,e⟩:=List.getElem?_eq_some_iff.1 ha;rw [List.getElem_range'] at e;rw [←e,Nat.one_mul]
theorem Wu {l:List KV} {key:ByteArray} (h:AD l key=none):loI (bld l key)=(DA (BA l key):Nat)∧hiI (bld l key)=(CA (BA l key) l.length:Nat):=by
 rw [GH h];unfold loI hiI DA CA;simp only
 constructor
 ·split<;>omega
 ·split<;>split<;>omega
theorem Wv {l:List KV} {key:ByteArray} (h:AD l key=none):OI (bld l key):=by
 have hlh:=Wu h;have hle:=Ng (l:=l) (key:=key);have hlw:=EJ hle;unfold OI;rw [hlh.1,hlh.2,GH h];refine⟨rfl,by simp only;omega,by simp only;omega,?_,?_⟩
 ·simp only [FT hle];omega
 ·simp only [Cx];omega
theorem UD {l:List KV} (hu:Up l) (h63:l.length<2 ^ 63) {key:ByteArray} (h:AD l key=none):CC (Bl l) key (bld l key)=true:=by
 have hf:=Wv h;have hlh:=Wu h;have hle:=Ng (l:=l) (key:=key);have hlw:=EJ hle;unfold CC;rw [decide_eq_true hf,Bool.true_and,hlh.1];rw [GH h];simp only;rw [KY _ _ _ (by rw [FT hle,Cx]) (fun k p q hp hq=>?_),Bool.true_and]
 ·by_cases hz:l.length=0
  ·obtain rfl:l=[]:=List.eq_nil_of_length_eq_zero hz
   rw [Bool.or_eq_true]
   right
   exact decide_eq_true rfl
  ·rw [decide_eq_true (by omega)];rfl
 ·have hp':=ZC hle hp
  have hq':=QV hq;rw [show(DA (BA l key):Int)+(k:Int)=((DA (BA l key)+k:Nat):Int) by omega,hq'];exact⟨Wt hu h hp',Mu hp' h63⟩
end Go.Proofs.YtkejaepmoabikaaGreatDoor.W
namespace Go.Proofs.YtkejaepmoabikaaGreatDoor.W
open Go.RowKit
def bss (L:List (List UInt8)):List ByteArray:=L.map bs
theorem BM (L:List (List UInt8)):(bss L).length=L.length:=by simp [bss]
theorem Co (L M:List (List UInt8)):bss (L++M)=bss L++bss M:=by simp [bss]
theorem Tb {a b:List UInt8} (h:a≠b):bs a≠bs b:=fun e=>h (dE e)
def dL (w:World) (A:Option Addr) (L:List (List UInt8)):Prop:=∀ i (h:i<L.length),∃ b off,A=some ⟨b,off,none⟩∧w.cell? ⟨b,off+i,none⟩=some (.string (bs L[i]))
theorem dL.below {w w':World} {A:Option Addr} {L:List (List UInt8)} (h:dL w A L) (hb:Below w.heap.size w w'):dL w' A L:=fun i hi=>by
 obtain⟨b,off,rfl,h1⟩:=h i hi;exact⟨b,off,rfl,(Ad hb).cell h1⟩
end Go.Proofs.YtkejaepmoabikaaGreatDoor.W
namespace Go.Proofs.YtkejaepmoabikaaGreatDoor.W
def BF (l:List KV):List (List UInt8×Int):=l.flatMap fun p=>[Ai p.1,Ai p.2]
def AI (l:List (List (List UInt8))):List (List UInt8×Int):=l.map fun q=>BV (bss q)
def Hc (x:Pf):List (List UInt8×Int):=[Ag x.n,Ag x.pos,Ag (if x.there then 1 else 0),Ag x.near.length]
def Mx (x:Pf):List (List UInt8×Int):=Hc x++BF x.near++[Ag x.paths.length]++AI x.paths
def IJ (x:Pf):List UInt8×Int:=if x.there=true∧x.near≠[] then ([],6) else (Mx x).foldl Ar ([],0)
theorem JR (l:List ByteArray):(BV l).1.length≤17000000:=by
 unfold BV
 split
 ·rename_i h
  have hg:QR l l.length:=fun i hi _=>h.2 _ (List.getElem_mem hi);have:=Mv l h.1 l.length (Nat.le_refl _) hg
  have e:join (l.map fun s=>s.data.toList)=Gl l l.length:=by simp [Gl,join,Function.comp_def]
  show(join (l.map fun s=>s.data.toList)).length≤_
  rw [e]
  omega
 ·exact Nat.zero_le _
def AN:Nat→ByteArray×Int→List KV→(ByteArray×Int)×List KV
 | 0,s,acc=>(s,acc)
 | k+1,s,acc=>AN k (Aj (Aj s.1 s.2).1.1 (Aj s.1 s.2).1.2).1 (acc++[((Aj s.1 s.2).2,(Aj (Aj s.1 s.2).1.1 (Aj s.1 s.2).1.2).2)])
def unb (l:List ByteArray):List (List UInt8):=l.map fun s=>s.data.toList
theorem Tc (l:List ByteArray):bss (unb l)=l:=by
 unfold bss unb;rw [List.map_map]
 conv=>rhs;rw [←List.map_id l]
 exact List.map_congr_left fun x _=>Ch x
def AJ:Nat→ByteArray×Int→List (List (List UInt8))→(ByteArray×Int)×List (List (List UInt8))
 | 0,s,acc=>(s,acc)
 | k+1,s,acc=>AJ k (Bk s.1 s.2).1 (acc++[unb (Bk s.1 s.2).2])
def Dm (n pos there:Nat) (near:List KV) (s:ByteArray) (e:Int):Pf×Int :=
 if (Ao s e).1.2=0∧2<(Ao s e).2 then (Pf.zero,6)
 else
  let h:=AJ (Ao s e).2 (Ao s e).1 []
  if AG h.1.1 h.1.2≠0 then (Pf.zero,AG h.1.1 h.1.2) else (⟨n,pos,decide (there=1),near,h.2⟩,0)
def FU (s:ByteArray):Pf×Int :=
 let a:=Ao s 0
 let b:=Ao a.1.1 a.1.2
 let c:=Ao b.1.1 b.1.2
 let d:=Ao c.1.1 c.1.2
 if d.1.2≠0 then (Pf.zero,d.1.2)
 else if 1<c.2∨2<d.2∨(c.2=1∧0<d.2) then (Pf.zero,6)
 else
  let f:=AN d.2 d.1 []
  Dm a.2 b.2 c.2 f.2 f.1.1 f.1.2
structure OL (x:Pf):Prop where
 n0:0≤x.n
 n1:x.n≤9007199254740992
 p0:0≤x.pos
 p1:x.pos≤9007199254740992
 near:x.near.length≤2
 there:x.there=true→x.near=[]
 sizes:∀ p ∈ x.near,p.1.size≤65536∧p.2.size≤65536
 paths:x.paths.length≤2
 path:∀ q ∈ x.paths,q.length≤256∧∀ y ∈ q,y.length≤65536
def Bm (l:List KV):List UInt8:=(l.map fun p=>Cd p.1.data.toList++Cd p.2.data.toList).flatten
def Be (l:List (List (List UInt8))):List UInt8:=(l.map fun q=>num q.length++cat (bss q)).flatten
def FV (x:Pf):List UInt8:=num x.n.toNat++(num x.pos.toNat++(num (if x.there then 1 else 0)++(num x.near.length++(Bm x.near++(num x.paths.length++Be x.paths)))))
theorem Ds {n:Int} (h0:0≤n) (h1:n≤9007199254740992):Ag n=(num n.toNat,0):=by unfold Ag;rw [if_pos ⟨h0,h1⟩]
theorem FY {s:ByteArray} (h:s.size≤65536):Ai s=(Cd s.data.toList,0):=by unfold Ai;rw [if_pos h]
theorem JS {q:List (List UInt8)} (h:q.length≤256) (h2:∀ y ∈ q,y.length≤65536):BV (bss q)=(num q.length++cat (bss q),0):=by
 unfold BV
 rw [if_pos ⟨by rw [BM];exact h,fun s hs=>by
  unfold bss at hs;rw [List.mem_map] at hs;obtain⟨y,hy,rfl⟩:=hs;rw [Aw]
  exact h2 y hy⟩,Wq,BM]
theorem My {x:Pf} (h:OL x):IJ x=(FV x,0):=by
 unfold IJ;rw [if_neg (fun e=>e.2 (h.there e.1)),Sy]
 ·unfold Mx Hc BF AI FV
  rw [Ds h.n0 h.n1,Ds h.p0 h.p1,Ds (n:=(x.near.length:Int)) (by omega) (by have:=h.near;omega),Ds (n:=(x.paths.length:Int)) (by omega) (by have:=h.paths;omega)]
  have e1:Ag (if x.there then 1 else 0)=(num (if x.there then 1 else 0),0):=by cases x.there<;>rfl
  rw [e1]
  have e2:((x.near.flatMap fun p=>[Ai p.1,Ai p.2]).map Prod.fst).flatten=Bm x.near:=by
   have:=h.sizes;generalize x.near=l at this
   induction l with
   | nil=>rfl
   | cons p l ih =>
     have hp:=this p (by simp);rw [List.flatMap_cons,List.map_append,List.flatten_append,ih (fun q hq=>this q (by simp [hq])),FY hp.1,FY hp.2];simp [Bm]
  have e3:((x.paths.map fun q=>BV (bss q)).map Prod.fst).flatten=Be x.paths:=by
   have:=h.path;generalize x.paths=l at this
   induction l with
   | nil=>rfl
   | cons p l ih =>
     have hp:=this p (by simp);rw [List.map_cons,List.map_cons,List.flatten_cons,ih (fun q hq=>this q (by simp [hq])),JS hp.1 hp.2];simp [Be]
  simp only [List.map_append,List.flatten_append,e2,e3,Int.toNat_natCast];simp
 ·intro p hp
  unfold Mx Hc BF AI at hp;simp only [List.mem_append,List.mem_cons,List.not_mem_nil,or_false,List.mem_flatMap,List.mem_map] at hp
  rcases hp with(((rfl|rfl|rfl|rfl)|⟨q,hq,rfl|rfl⟩)|rfl)|⟨q,hq,rfl⟩
  ·rw [Ds h.n0 h.n1]
  ·rw [Ds h.p0 h.p1]
  ·cases x.there<;>rfl
  ·rw [Ds (by omega) (by have:=h.near;omega)]
  ·rw [FY (h.sizes q hq).1]
  ·rw [FY (h.sizes q hq).2]
  ·rw [Ds (by omega) (by have:=h.paths;omega)]
  ·rw [JS (h.path q hq).1 (h.path q hq).2]
theorem Hw:∀(l:List KV) (t:List UInt8) (acc:List KV),(∀ p ∈ l,p.1.size≤65536∧p.2.size≤65536)→AN l.length (bs (Bm l++t),0) acc=((bs t,0),acc++l)
 | [],t,acc,_=>by simp [AN,Bm]
 | p::l,t,acc,h=>by
   have hp:=h p (by simp)
   have e:Bm (p::l)++t=Cd p.1.data.toList++(Cd p.2.data.toList++(Bm l++t)):=by simp [Bm]
   have b1:=Cj p.1.data.toList (by rw [Ah];exact hp.1) (Cd p.2.data.toList++(Bm l++t));have b2:=Cj p.2.data.toList (by rw [Ah];exact hp.2) (Bm l++t);rw [List.length_cons,AN,e];simp only [b1,b2];rw [Hw l t _ (fun q hq=>h q (by simp [hq])),Ch,Ch];simp
theorem GI:∀(l:List (List (List UInt8))) (t:List UInt8) (acc:List (List (List UInt8))),(∀ q ∈ l,q.length≤256∧∀ y ∈ q,y.length≤65536)→AJ l.length (bs (Be l++t),0) acc=((bs t,0),acc++l)
 | [],t,acc,_=>by simp [AJ,Be]
 | q::l,t,acc,h=>by
   have hq:=h q (by simp)
   have e:Be (q::l)++t=num (bss q).length++cat (bss q)++(Be l++t):=by simp [Be,BM]
   have b1:=OG (bss q) (by rw [BM];exact hq.1) (fun s hs=>by
    unfold bss at hs;rw [List.mem_map] at hs;obtain⟨y,hy,rfl⟩:=hs;rw [Aw]
    exact hq.2 y hy) (Be l++t)
   have e2:unb (bss q)=q:=by
    unfold unb bss;rw [List.map_map]
    conv=>rhs;rw [←List.map_id q]
    exact List.map_congr_left fun x _=>Bs x
   rw [List.length_cons,AJ,e];simp only [b1,e2];rw [GI l t _ (fun q hq=>h q (by simp [hq]))];simp
theorem ZD {x:Pf} (h:OL x) (t:List UInt8):FU (bs (FV x++t))=if t=[] then (x,0) else (Pf.zero,6):=by
 have hn:=h.near;have hp:=h.paths;have b1:=BK x.n.toNat (by have:=h.n1;omega) (num x.pos.toNat++(num (if x.there then 1 else 0)++(num x.near.length++(Bm x.near++(num x.paths.length++(Be x.paths++t))))));have b2:=BK x.pos.toNat (by have:=h.p1;omega) (num (if x.there then 1 else 0)++(num x.near.length++(Bm x.near++(num x.paths.length++(Be x.paths++t)))));have b3:=BK (if x.there then 1 else 0) (by split<;>omega) (num x.near.length++(Bm x.near++(num x.paths.length++(Be x.paths++t))));have b4:=BK x.near.length (by omega) (Bm x.near++(num x.paths.length++(Be x.paths++t)));have b5:=Hw x.near (num x.paths.length++(Be x.paths++t)) [] h.sizes;have b6:=BK x.paths.length (by omega) (Be x.paths++t);have b7:=GI x.paths t [] h.path
 have e:FV x++t=num x.n.toNat++(num x.pos.toNat++(num (if x.there then 1 else 0)++(num x.near.length++(Bm x.near++(num x.paths.length++(Be x.paths++t)))))):=by simp [FV]
 unfold FU;rw [e];simp only [b1,b2,b3,b4,b5,List.nil_append]
 rw [if_neg (by simp),if_neg (by
  rintro(h1|h1|⟨h1,h2⟩)
  ·split at h1<;>omega
  ·omega
  ·cases ht:x.there with
   | false=>rw [ht] at h1;simp at h1
   | true=>rw [h.there ht] at h2;simp at h2)]
 unfold Dm;simp only [b6,b7,List.nil_append];rw [if_neg (by omega)];by_cases ht:t=[]
 ·subst ht
  rw [if_neg (by simp [AG,Aw]),if_pos rfl]
  have e1:decide ((if x.there=true then 1 else 0)=1)=x.there:=by cases x.there<;>rfl
  rw [e1,Int.toNat_of_nonneg h.n0,Int.toNat_of_nonneg h.p0]
 ·have hd:AG (bs t) 0=6:=by
   unfold AG;rw [if_neg (by simp),if_neg (by rw [Aw];intro e;exact ht (List.eq_nil_of_length_eq_zero e))]
  rw [hd,if_pos (by decide),if_neg ht]
def OM:ByteArray:=⟨#[110,101,120,116]⟩
def Gq:ByteArray:=⟨#[99,108,105,101,110,116]⟩
def La:ByteArray:=⟨#[115,101,101,110]⟩
def nTx (n:Int):ByteArray:=bs (FM 14 (EE n))
def Ce:ByteArray:=bs (Fp OM [Gq])
def BN (id:ByteArray):ByteArray:=bs (Fp Gq [id])
def Bf (id:ByteArray) (n:Int):ByteArray:=bs (Fp La [id,nTx n])
structure Clt where
 chain:ByteArray
 key:ByteArray
 height:Int
 frozen:Bool
deriving DecidableEq
def Clt.zero:Clt:=⟨⟨#[]⟩,⟨#[]⟩,0,false⟩
structure Sn where
 time:Int
 root:ByteArray
deriving DecidableEq
def Sn.zero:Sn:=⟨0,⟨#[]⟩⟩
def FZ (c:Clt):Value:=.agg #[.string c.chain,.string c.key,.int .i64 c.height,.bool c.frozen]
def snV (x:Sn):Value:=.agg #[.int .i64 x.time,.string x.root]
def fz (b:Bool):Int:=if b then 1 else 0
def BC (c:Clt):List UInt8:=(((Ai c.chain).1++(Ai c.key).1)++(Ag c.height).1)++(Ag (fz c.frozen)).1
def Ec (time:Int) (root:ByteArray):List UInt8:=(Ag time).1++(Ai root).1
def Fb (v:ByteArray):Nat:=if AG (Ao v 0).1.1 (Ao v 0).1.2≠0 then 0 else (Ao v 0).2
def Gm (v:ByteArray):Option Clt :=
 let a:=Aj v 0
 let b:=Aj a.1.1 a.1.2
 let c:=Ao b.1.1 b.1.2
 let d:=Ao c.1.1 c.1.2
 if AG d.1.1 d.1.2≠0∨1<d.2 then none else some ⟨a.2,b.2,c.2,decide (d.2=1)⟩
def UE (v:ByteArray):Option Sn :=
 let a:=Ao v 0
 let b:=Aj a.1.1 a.1.2
 if AG b.1.1 b.1.2≠0 then none else some ⟨a.2,b.2⟩
section
variable (L:List KV)
def AL:Nat:=Fb ((AD L Ce).getD ⟨#[]⟩)
def AA (id:ByteArray):Clt×Int:=match (AD L (BN id)).bind Gm with
 | none=>(Clt.zero,8)
 | some c=>(c,0)
def Dn (id:ByteArray) (h:Int):Sn×Int :=
 if (AA L id).2≠0 then (Sn.zero,(AA L id).2) else if h<1∨1099511627776<h then (Sn.zero,13) else match (AD L (Bf id h)).bind UE with
 | none=>(Sn.zero,13)
 | some x=>(x,0)
def DH (c:Clt) (raw:ByteArray):Hdr×Int :=
 if c.frozen=true then (Hdr.zero,12) else if (CR raw).2≠0 then (Hdr.zero,(CR raw).2) else if (CR raw).1.chain≠c.chain∨EC c.key (CR raw).1=false then (Hdr.zero,24) else if (CR raw).1.height<1∨1099511627776<(CR raw).1.height then (Hdr.zero,13) else ((CR raw).1,0)
def Mz (id:ByteArray) (c:Clt) (h:Hdr):List KV×Int :=
 if (Dn L id h.height).2=0 then
  if (Dn L id h.height).1.time=h.time∧(Dn L id h.height).1.root=h.root then (L,9) else (Az L (BN id) (bs (BC ⟨c.chain,c.key,c.height,true⟩)),0)
 else (Az (Az L (Bf id h.height) (bs (Ec h.time h.root))) (BN id) (bs (BC ⟨c.chain,c.key,max c.height h.height,c.frozen⟩)),0)
def GJ (id raw:ByteArray):List KV×Int :=
 if (AA L id).2≠0 then (L,(AA L id).2) else if (DH (AA L id).1 raw).2≠0 then (L,(DH (AA L id).1 raw).2) else Mz L id (AA L id).1 (DH (AA L id).1 raw).1
def AX (id:ByteArray) (h:Int) (pr:ByteArray):(Pf×ByteArray)×Int :=
 if (AA L id).2≠0 then ((Pf.zero,⟨#[]⟩),(AA L id).2) else if (AA L id).1.frozen=true then ((Pf.zero,⟨#[]⟩),12) else if (Dn L id h).2≠0 then ((Pf.zero,⟨#[]⟩),(Dn L id h).2) else if (FU pr).2≠0 then ((Pf.zero,⟨#[]⟩),11) else (((FU pr).1,(Dn L id h).1.root),0)
noncomputable def QW (id:ByteArray) (h:Int) (pr:ByteArray) (p:KV):Int :=
 if (AX L id h pr).2≠0 then (AX L id h pr).2 else if OH (AX L id h pr).1.2.data.toList p (AX L id h pr).1.1=true then 0 else 11
noncomputable def Ga (id:ByteArray) (h:Int) (pr key:ByteArray):Int :=
 if (AX L id h pr).2≠0 then (AX L id h pr).2 else if CC (AX L id h pr).1.2.data.toList key (AX L id h pr).1.1=true then 0 else 11
def IK (chain key:ByteArray):(List KV×ByteArray)×Int :=
 if ck 6 chain.data.toList≠0 then ((L,⟨#[]⟩),7) else if 65536<key.size then ((L,⟨#[]⟩),4) else
 ((Az (Az L Ce (bs (Ag ((AL L:Int)+1)).1)) (BN (bs (mkS 3 (AL L)))) (bs (BC ⟨chain,key,0,false⟩)),bs (mkS 3 (AL L))),0)
end
end Go.Proofs.YtkejaepmoabikaaGreatDoor.W
namespace Go.Proofs.YtkejaepmoabikaaGreatDoor.W
open Go.RowKit
open Lib renaming hid → qH
open _root_.Go.Proofs.Tryz renaming prog → qP
set_option maxHeartbeats 8000000
set_option maxRecDepth 100000
theorem Td:∀(a b:List UInt8),esc (a++b)=esc a++esc b
 | [],b=>rfl
 | c::a,b=>by
   simp only [List.cons_append,esc,Td a b]
   split
   ·rfl
   ·split<;>rfl
def Lb (s:ByteArray) (w:World) (k:Nat) (v:Value) (wr:World):Prop :=
 Lib.OwnBuf w.heap.size 5 v (esc (s.data.toList.take k)).length (cells (esc (s.data.toList.take k))) w wr
theorem Lb.step {s:ByteArray} {w:World} {k:Nat} (hk:k<s.size) {v:Value} {wr:World} {l:List UInt8} (hl:esc [s[k]]=l) {n:Nat} (hn:n=l.length) {xs:List Value} (hx:xs=cells l)
  (h:Lib.OwnBuf w.heap.size 5 v ((esc (s.data.toList.take k)).length+n) (cells (esc (s.data.toList.take k))++xs) w wr):Lb s w (k+1) v wr:=by
 subst hn hx;unfold Lb;rw [Je s k hk,Td,hl,List.length_append,Cz];exact h
theorem Nh (s:ByteArray) (k:Nat):(esc (s.data.toList.take k)).length≤2*s.size:=by
 have h1:=IA (s.data.toList.take k)
 have h2:(s.data.toList.take k).length≤s.size:=by rw [List.length_take,Ah];omega
 omega
theorem Ww {b:UInt8} {n:Nat} (h:b.toNat=n):b=UInt8.ofNat n:=by rw [←h,ofNat_toNat]
theorem Te (s:ByteArray) (w:World) (hs:s.size≤100000000) :
  Calls qP 137 #[.string s] w fun e w'=>e=.returned (.string (bs (esc s.data.toList)))∧Below w.heap.size w w':=by
 obtain⟨i0,hi,hz0,hz1,hz2⟩:=info_parts Ff;go_enter Tryz.func137,Tryz.ntmps137;go_wp2
 go_loopw [3,4] (fun v i wr=>∃ k:Nat,k≤s.size∧i=.int .i64 k∧Lb s w k v wr) (fun _ i _=>s.size-(intOf i).toNat)
 case atStart=>exact⟨0,Nat.zero_le _,rfl,FG w _⟩
 case round =>
  obtain⟨k,hk,rfl,hown⟩:=hrel;have hl:=Nh s k;by_cases hlt:k<s.size
  ·have HST:=qH (fun v wr l (e:esc [s[k]]=l) n (hn:n=l.length) xs (hx:xs=cells l) h=>@Lb.step s w k hlt v wr l e n hn xs hx h)
   unfold Lb at hown;generalize cells (esc (s.data.toList.take k))=xs at *;generalize (esc (s.data.toList.take k)).length=n at *;have hb:=s[k].toNat_lt
   have hki:(k:Int)<(s.size:Int):=by omega
   by_cases h1:s[k]=37
   ·have q1:((s[k].toNat:Int)==37)=true:=by rw [h1];rfl
    have HE:=qH (show esc [s[k]]=[37,112] by rw [h1];rfl);clear h1
    go_wp2_with (at_builtin;go_must (refine ES rfl _ _ 121 rfl w.heap.size 5 i0 Tryz.underlying121 hi hz0 hz1 hz2 u3 n xs rfl w wr _ _ hown rfl (by omega) ?_))
    intro v1 w1 h1;have R:=HST.out v1 w1 [37,112] HE.out 2 rfl _ rfl h1;clear hown h1 HST;go_wp2
    go_roundw
    case rel=>exact⟨k+1,by omega,by go_num,R⟩
    case measure=>simp [intOf];omega
   ·have n1:((s[k].toNat:Int)==37)=false:=by rw [beq_eq_false_iff_ne];exact fun e=>h1 (Ww (n:=37) (by omega))
    by_cases h2:s[k]=47
    ·have q2:((s[k].toNat:Int)==47)=true:=by rw [h2];rfl
     have HE:=qH (show esc [s[k]]=[37,115] by rw [h2];rfl);clear h1 h2
     go_wp2_with (at_builtin;go_must (refine ES rfl _ _ 121 rfl w.heap.size 5 i0 Tryz.underlying121 hi hz0 hz1 hz2 u3 n xs rfl w wr _ _ hown rfl (by omega) ?_))
     intro v1 w1 h1;have R:=HST.out v1 w1 [37,115] HE.out 2 rfl _ rfl h1;clear hown h1 HST;go_wp2
     go_roundw
     case rel=>exact⟨k+1,by omega,by go_num,R⟩
     case measure=>simp [intOf];omega
    ·have n2:((s[k].toNat:Int)==47)=false:=by rw [beq_eq_false_iff_ne];exact fun e=>h2 (Ww (n:=47) (by omega))
     have HE:=qH (show esc [s[k]]=[s[k]] by rw [esc,if_neg h1,if_neg h2];rfl);clear h1 h2
     go_wp2_with (at_builtin;go_must (refine Lib.wpList_append_byte rfl _ _ 121 rfl w.heap.size 5 i0 Tryz.underlying121 hi hz0 hz1 hz2 u3 n xs rfl w wr _ hown rfl (by omega) ?_))
     intro v1 w1 h1;have R:=HST.out v1 w1 [s[k]] HE.out 1 rfl _ rfl h1;clear hown h1 HST;go_wp2
     go_roundw
     case rel=>exact⟨k+1,by omega,by go_num,R⟩
     case measure=>simp [intOf];omega
  ·obtain rfl:k=s.size:=by omega
   unfold Lb at hown;rw [←Ah,List.take_length] at hown;have hcv:=CT _ _ _ _ _ hown;have hbel:=hown.2.1;clear hown;go_wp2
   go_ret
   exact⟨rfl,hbel⟩
def Kg (wd:ByteArray) (ps:List ByteArray) (k:Nat):List UInt8:=Fp wd (ps.take k)
theorem MA:∀(r:List (List UInt8)) (x y:List UInt8),Jn x (r++[y])=Jn x r++47::y
 | [],x,y=>rfl
 | z::r,x,y=>by rw [List.cons_append,Jn,MA r z y,Jn];simp
theorem UF (wd:ByteArray) (ps:List ByteArray) (k:Nat) (h:k<ps.length):Kg wd ps k++[47]++esc ps[k].data.toList=Kg wd ps (k+1):=by
 unfold Kg Fp key;rw [List.take_succ_eq_append_getElem h,List.map_append,List.map_append,List.map_cons,List.map_nil,List.map_cons,List.map_nil,MA];simp
theorem ON:∀(ps:List ByteArray) (k:Nat),((ps.take k).map ByteArray.size).sum≤(ps.map ByteArray.size).sum
 | [],k=>by simp
 | p::ps,0=>by simp
 | p::ps,k+1=>by have:=ON ps k;simp only [List.take_succ_cons,List.map_cons,List.sum_cons];omega
theorem Wx (wd:ByteArray) (ps:List ByteArray) (k:Nat):(Kg wd ps k).length≤2*tot wd ps:=by
 have h1:=IC wd (ps.take k);have h2:=ON ps k
 have h3:(ps.take k).length≤ps.length:=by rw [List.length_take];omega
 unfold Kg;unfold tot at h1 ⊢
 omega
theorem Wy (wd:ByteArray) (v:Value) (ps:List ByteArray) (w:World) (hT:Txs w w.heap.size v ps) (ht:tot wd ps≤10000000) :
  Calls qP 89 #[.string wd,v] w fun e w'=>e=.returned (.string (bs (Fp wd ps)))∧Below w.heap.size w w':=by
 have hbig:ps.length≤10000000:=by unfold tot at ht;omega
 have H1:=qH (fun w=>Te wd w (by unfold tot at ht;omega));have H2:=qH (fun k (h:k<ps.length) w=>Te ps[k] w (by have:=QM (List.getElem_mem h);unfold tot at ht;omega));have HS:=qH (fun k (h:k<ps.length)=>show ps[k].size≤10000000 by have:=QM (List.getElem_mem h);unfold tot at ht;omega);have HT:=qH ht;clear ht;obtain⟨A,c,rfl,hc⟩:=hT;have HC:=qH hc;clear hc;go_enter Tryz.func89,Tryz.ntmps89
 go_wp2_with fail
 refine(H1.out w).mono ?_;rintro e w1 ⟨rfl,b1⟩;go_wp2
 go_loopw [5,6] (fun v i wr=>∃ k:Nat,k≤ps.length∧i=.int .i64 k∧v=.string (bs (Kg wd ps k))∧Below w.heap.size w wr) (fun _ i _=>ps.length-(intOf i).toNat)
 case atStart=>exact⟨0,Nat.zero_le _,rfl,rfl,b1⟩
 case round =>
  obtain⟨k,hk,rfl,rfl,hbel⟩:=hrel;by_cases hlt:k<ps.length
  ·obtain⟨b,off,rfl,hb,hcell⟩:=HC.out k hlt
   have c1:wr.cell? ⟨b,off+k,none⟩=some (.string ps[k]):=(hbel.cell (p:=⟨b,off+k,none⟩) hb).trans hcell
   have hi1:(k:Int)<(ps.length:Int):=by omega
   have HX:=qH (H2.out k hlt wr);have HF:=qH (UF wd ps k hlt);have hl1:=Wx wd ps k;have hl2:=IA ps[k].data.toList;have hl3:=HS.out k hlt;rw [Ah] at hl2;have ht:=HT.out;have hadd1:∀ W,(Op.stringOp .add (bs (Kg wd ps k)) ⟨#[47]⟩).run qP W=.ok (.string (bs (Kg wd ps k++[47]))) W:=fun W=>AB W (Kg wd ps k) [47] (by simp;omega);have hadd2:=fun W=>AB W (Kg wd ps k++[47]) (esc ps[k].data.toList) (by simp;omega);generalize esc ps[k].data.toList=z at *;generalize ps[k]=p at *;clear hcell hl1 hl2 ht hl3
   go_wp2_with fail
   refine HX.out.mono ?_;rintro e w2 ⟨rfl,b2⟩;have b3:=Ae hbel b2;go_wp2
   go_roundw
   case rel=>exact⟨k+1,by omega,by go_num,by rw [←HF.out];simp,b3⟩
   case measure=>simp [intOf];omega
  ·obtain rfl:k=ps.length:=by omega
   have HE:=qH (show Kg wd ps ps.length=Fp wd ps by rw [Kg,List.take_length]);go_wp2
   go_ret
   exact⟨by rw [HE.out];rfl,hbel⟩
section
variable {w:World} {A:Option Addr} {cap:Nat} {l:List KV}
theorem Ni (T:TypeId) (hT:qP.underlying T=some (.slice (qP.elem T))) (hE:qP.elem T=36) (h:Prs w (.slice A l.length cap) l) (i:Nat) (hi:i≤l.length) :
  ∃ A' c',(∀ W,(Instr.slice T (.slice A l.length cap) (some (.int .i64 i)) none none).run qP W=.ok (.slice A' (l.drop i).length c') W)∧Prs w (.slice A' (l.drop i).length c') (l.drop i):=by
 obtain⟨A0,cap0,e,hcap,hc⟩:=h
 cases e
 refine⟨_,cap-i,fun W=>?_,⟨if cap=i then A else A.map (·.add (i*2)),cap-i,rfl,by rw [List.length_drop];omega,fun j hj=>?_⟩⟩
 ·obtain⟨i0,hi0,hz0,hz1,hz2⟩:=info_parts Fq
  have hr:=run_slice_l (P:=qP) (w:=W) T A l.length cap hT .i64 i (by omega) (by omega);rw [hE,run_sizeOf W hi0,show qP.cellsOf 36=2 by kernel_rfl] at hr;rw [hr,List.length_drop];simp [Result.andThen,sliced]
 ·rw [List.length_drop] at hj
  obtain⟨b,off,rfl,h1,h2⟩:=hc (i+j) (by omega);refine⟨b,off+i*2,?_,?_,?_⟩
  ·rw [if_neg (by omega),Option.map_some,SY]
  ·rw [List.getElem_drop,show off+i*2+j*2=off+(i+j)*2 by omega];exact h1
  ·rw [List.getElem_drop,show off+i*2+j*2+1=off+(i+j)*2+1 by omega];exact h2
theorem IL (T:TypeId) (hT:qP.underlying T=some (.slice (qP.elem T))) (hE:qP.elem T=36) (h:Prs w (.slice A l.length cap) l) (i:Nat) (hi:i≤l.length) :
  (∀ W,(Instr.slice T (.slice A l.length cap) none (some (.int .i64 i)) none).run qP W=.ok (.slice A i cap) W)∧Prs w (.slice A i cap) (l.take i):=by
 obtain⟨A0,cap0,e,hcap,hc⟩:=h
 cases e
 refine⟨fun W=>?_,⟨A,cap,by rw [List.length_take,Nat.min_eq_left hi],by rw [List.length_take];omega,fun j hj=>?_⟩⟩
 ·obtain⟨i0,hi0,hz0,hz1,hz2⟩:=info_parts Fq
  have hr:=run_slice_h (P:=qP) (w:=W) T A l.length cap hT .i64 i (by omega) (by omega);rw [hE,run_sizeOf W hi0,show qP.cellsOf 36=2 by kernel_rfl] at hr;rw [hr]
  cases A<;>simp [Result.andThen,sliced]
  rename_i a
  rcases a with⟨b,off,x⟩
  cases x<;>simp [Addr.add]
 ·rw [List.length_take] at hj
  obtain⟨b,off,rfl,h1,h2⟩:=hc j (by omega);exact⟨b,off,rfl,by rw [List.getElem_take];exact h1,by rw [List.getElem_take];exact h2⟩
end
def CD (B:Nat) (v:Value) (l:List KV) (W0 w:World):Prop:=w.ownsRow B 36 2 v l.length (AH l)∧Below B W0 w∧B≤w.heap.size
theorem Lc (w:World):CD w.heap.size (.slice none 0 0) [] w w:=⟨World.ownsRow_nil _ _ _ _,Below.refl _ _,Nat.le_refl _⟩
section
variable {B:Nat} {v:Value} {l:List KV} {W0 w w':World}
theorem CD.after (h:CD B v l W0 w) (k:Below w.heap.size w w'):CD B v l W0 w' :=
 ⟨h.1.kept (row:=none) ⟨k.os,k.tape,k.output,k.size,fun i hi _=>k.block i hi⟩ (by cases hv:v.ownBlock<;>simp),h.2.1.trans (k.mono h.2.2),Nat.le_trans h.2.2 k.size⟩
theorem CD.alloc (h:CD B v l W0 w) (o:Obj):CD B v l W0 (w.alloc o):=h.after ((Below.refl _ _).alloc (Nat.le_refl _) _)
theorem CD.prs (h:CD B v l W0 w):Prs w v l:=Prs.of_own h.1
theorem CD.below (h:CD W0.heap.size v l W0 w):Below W0.heap.size W0 w:=h.2.1
end
theorem AQ {ops:Array Oper} {rest:List Oper} {o:Oper} {a:Act} {Q:Exit→Act→World→Prop} (w:World) (hgd:o.guard=none) (s x:Operand) (T:TypeId) (hT:qP.underlying T=some (.slice 36))
  (ho:o.op=.call { callee:=.builtin .append,args:=#[s,x],argTypes:=#[T,T] }) (B:Nat) (v y:Value) (l m:List KV) (hs:a.eval s=v) (hx:a.eval x=y) (W0:World)
  (hown:CD B v l W0 w) (hP:Prs w y m) (hlen:l.length+m.length≤1000000000)
  (h:∀ v' w',CD B v' (l++m) W0 w'→wpList qP ops Q rest (a.put o.dst v') w'):wpList qP ops Q (o::rest) a w :=
 Dz w hgd s x T hT ho B v y l m hs hx hown.1 hP hown.2.2 hlen fun v' w' h1 h2 _=>h v' w' ⟨h1,hown.2.1.grown h2 hown.2.2 (fun k hk=>(hown.1.lt k hk).1),Nat.le_trans hown.2.2 h2.size⟩
section
variable {w:World} {A:Option Addr} {cap:Nat} {l:List KV}
theorem Ld (h:Prs w (.slice A l.length cap) l) (i:Nat) (hi:i≤l.length) :
  ∃ A' c',(∀ W,(Instr.slice 27 (.slice A l.length cap) (some (.int .i64 i)) none none).run qP W=.ok (.slice A' (l.drop i).length c') W)∧Prs w (.slice A' (l.drop i).length c') (l.drop i) :=
 Ni 27 (by kernel_rfl) (by kernel_rfl) h i hi
end
theorem dM (s:Value) (l:List KV) (k:ByteArray) (w:World) (hP:Prs w s l) (hu:Up l) (hz:l.length≤1000000000) :
  Calls qP 17 #[s,.string k] w fun e w'=>e=.returned (Dl (AD l k))∧w'=w:=by
 have H1:=qH (rAt s l k w hP hz);obtain⟨A,cap,rfl,hcap,hc⟩:=hP;have hN:=IH l k
 rcases EI hu k with⟨h1,h2,_⟩|⟨h1,h2,h3,_⟩|⟨h1,h2,h3,_,_⟩
 ·rw [h2]
  generalize BA l k=i at *
  have hl:¬(i:Int)<l.length:=by omega
  unfold Dl;simp only [Option.getD_none,Option.isSome_none];clear hc hu h2;go_enter Tryz.func17,Tryz.ntmps17
  go_wp2_with fail
  refine H1.out.mono ?_;rintro e w' ⟨rfl,rfl⟩;go_wp2
  go_returns
  exact⟨rfl,rfl⟩
 ·rw [h3]
  generalize BA l k=i at *;obtain⟨b,off,rfl,c1,c2⟩:=hc i h1
  have hl:(i:Int)<l.length:=by omega
  have hl0:(0:Int)≤i:=by omega
  have hne:=Eh h2;generalize (l[i]'h1).1=x at *;unfold Dl;simp only [Option.getD_none,Option.isSome_none];clear hc hu h2 h3;go_enter Tryz.func17,Tryz.ntmps17
  go_wp2_with fail
  refine H1.out.mono ?_;rintro e w' ⟨rfl,rfl⟩;go_wp2
  go_returns
  exact⟨rfl,rfl⟩
 ·rw [h3]
  generalize BA l k=i at *;obtain⟨b,off,rfl,c1,c2⟩:=hc i h1
  have hl:(i:Int)<l.length:=by omega
  have hl0:(0:Int)≤i:=by omega
  rw [h2] at c1;generalize (l[i]'h1).2=x at *;unfold Dl;simp only [Option.getD_some,Option.isSome_some];clear hc hu h2 h3;go_enter Tryz.func17,Tryz.ntmps17
  go_wp2_with fail
  refine H1.out.mono ?_;rintro e w' ⟨rfl,rfl⟩;go_wp2
  go_returns
  exact⟨rfl,rfl⟩
theorem OO:qP.underlying 27=some (.slice (qP.elem 27)):=by kernel_rfl
theorem MB:qP.elem 27=36:=by kernel_rfl
theorem Tf (A:Option Addr) (cap:Nat) (l:List KV) (k v:ByteArray) (i:Nat) (w:World) (hP:Prs w (.slice A l.length cap) l) (hi:i≤l.length) (hz:l.length+1≤1000000000)
  (H:Calls qP 53 #[.slice A l.length cap,.string k] w fun e w'=>e=.returned (.int .i64 i)∧w'=w)
  (hn:i=l.length∨∃ h:i<l.length,(l[i]'h).1≠k) :
  Calls qP 73 #[.slice A l.length cap,.string k,.string v] w fun e w'=>∃ v',e=.returned (.tuple #[v',.bool true])∧CD w.heap.size v' (l.take i++[(k,v)]++l.drop i) w w':=by
 have H1:=qH H;obtain⟨A1,c1,hs1,P1⟩:=Ld hP i hi;obtain⟨hs2,P2⟩:=IL _ OO MB hP i hi;have HP1:=qH P1;have HP2:=qH P2;have HO:=qH (Lc w)
 have hl1:(l.take i).length=i:=by rw [List.length_take];omega
 have hl2:(l.drop i).length=l.length-i:=List.length_drop;obtain⟨A0,cap0,e0,hcap,hc⟩:=hP
 cases e0
 have HL:=qH (And.intro hi (And.intro hz (And.intro hl1 hl2)));clear H P1 P2 hz hl1 hl2
 rcases hn with hn|⟨hlt,hne⟩
 ·have he:((i:Int)==(l.length:Int))=true:=by simp;omega
  clear hn hc;generalize l.drop i=M at *;generalize l.take i=L at *;go_enter Tryz.func73,Tryz.ntmps73
  go_wp2_with fail
  refine H1.out.mono ?_;rintro e w' ⟨rfl,rfl⟩
  go_wp2_with (first
   | (at_builtin;refine AQ _ rfl _ _ 27 Tryz.underlying27 rfl w'.heap.size v2 _ (L++[(k,v)]) M rfl rfl w' o2.out (HP1.out.below (CD.below o2.out)) (by have:=HL.out;simp;omega) ?_;intro v3 w3 o3)
   | (at_builtin;refine AQ _ rfl _ _ 27 Tryz.underlying27 rfl w'.heap.size v1 _ L [(k,v)] rfl rfl w' (o1.out.alloc _) (Eu _ (k,v)) (by have:=HL.out;simp;omega) ?_;intro v2 w2 o2;replace o2:=qH o2;clear o1)
   | (at_builtin;refine AQ _ rfl _ _ 27 Tryz.underlying27 rfl w'.heap.size (.slice none 0 0) _ [] L rfl rfl w' HO.out HP2.out (by have:=HL.out;simp;omega) ?_;intro v1 w1 o1;replace o1:=qH o1))
  go_returns
  exact⟨_,rfl,o3⟩
 ·have he:((i:Int)==(l.length:Int))=false:=by simp;omega
  obtain⟨b,off,rfl,d1,d2⟩:=hc i hlt;have hne:=Eh hne
  have hx0:(0:Int)≤i:=by omega
  have hx1:(i:Int)<l.length:=by omega
  generalize (l[i]'hlt).1=x at *;clear hc d2;generalize l.drop i=M at *;generalize l.take i=L at *;go_enter Tryz.func73,Tryz.ntmps73
  go_wp2_with fail
  refine H1.out.mono ?_;rintro e w' ⟨rfl,rfl⟩
  go_wp2_with (first
   | (at_builtin;refine AQ _ rfl _ _ 27 Tryz.underlying27 rfl w'.heap.size v2 _ (L++[(k,v)]) M rfl rfl w' o2.out (HP1.out.below (CD.below o2.out)) (by have:=HL.out;simp;omega) ?_;intro v3 w3 o3)
   | (at_builtin;refine AQ _ rfl _ _ 27 Tryz.underlying27 rfl w'.heap.size v1 _ L [(k,v)] rfl rfl w' (o1.out.alloc _) (Eu _ (k,v)) (by have:=HL.out;simp;omega) ?_;intro v2 w2 o2;replace o2:=qH o2;clear o1)
   | (at_builtin;refine AQ _ rfl _ _ 27 Tryz.underlying27 rfl w'.heap.size (.slice none 0 0) _ [] L rfl rfl w' HO.out HP2.out (by have:=HL.out;simp;omega) ?_;intro v1 w1 o1;replace o1:=qH o1))
  go_returns
  exact⟨_,rfl,o3⟩
theorem ZE (A:Option Addr) (cap:Nat) (l:List KV) (k v:ByteArray) (i:Nat) (w:World) (hP:Prs w (.slice A l.length cap) l) (hlt:i<l.length) (hz:l.length+1≤1000000000)
  (H:Calls qP 53 #[.slice A l.length cap,.string k] w fun e w'=>e=.returned (.int .i64 i)∧w'=w)
  (hn:(l[i]'hlt).1=k) :
  Calls qP 73 #[.slice A l.length cap,.string k,.string v] w fun e w'=>∃ v',e=.returned (.tuple #[v',.bool false])∧CD w.heap.size v' (l.take i++[(k,v)]++l.drop (i+1)) w w':=by
 have H1:=qH H;obtain⟨A1,c1,hs1,P1⟩:=Ld hP (i+1) hlt;obtain⟨A3,c3,hs3,_⟩:=Ld hP i (by omega);obtain⟨hs2,P2⟩:=IL _ OO MB hP i (by omega);have HP1:=qH P1;have HP2:=qH P2;have HO:=qH (Lc w)
 have hl1:(l.take i).length=i:=by rw [List.length_take];omega
 have hl2:(l.drop (i+1)).length=l.length-(i+1):=List.length_drop;obtain⟨A0,cap0,e0,hcap,hc⟩:=hP
 cases e0
 have HL:=qH (And.intro hlt (And.intro hz (And.intro hl1 hl2)))
 have hw:IntKind.i64.wrap ((i:Int)+1)=((i+1:Nat):Int):=by rw [IntWalk.i64_in _ (by omega)];omega
 have he:((i:Int)==(l.length:Int))=false:=by simp;omega
 obtain⟨b,off,rfl,d1,d2⟩:=hc i hlt;rw [hn] at d1
 have hx0:(0:Int)≤i:=by omega
 have hx1:(i:Int)<l.length:=by omega
 clear hc d2 H P1 P2 hz hl1 hl2 hn;generalize l.drop (i+1)=M at *;generalize l.take i=L at *;generalize l.drop i=M' at *;obtain⟨j,hj⟩:∃ j,j=i+1:=⟨_,rfl⟩;rw [←hj] at hw hs1;clear hj;go_enter Tryz.func73,Tryz.ntmps73
 go_wp2_with fail
 refine H1.out.mono ?_;rintro e w' ⟨rfl,rfl⟩
 go_wp2_with (first
  | (at_builtin;refine AQ _ rfl _ _ 27 Tryz.underlying27 rfl w'.heap.size v2 _ (L++[(k,v)]) M rfl rfl w' o2.out (HP1.out.below (CD.below o2.out)) (by have:=HL.out;simp;omega) ?_;intro v3 w3 o3)
  | (at_builtin;refine AQ _ rfl _ _ 27 Tryz.underlying27 rfl w'.heap.size v1 _ L [(k,v)] rfl rfl w' (o1.out.alloc _) (Eu _ (k,v)) (by have:=HL.out;simp;omega) ?_;intro v2 w2 o2;replace o2:=qH o2;clear o1)
  | (at_builtin;refine AQ _ rfl _ _ 27 Tryz.underlying27 rfl w'.heap.size (.slice none 0 0) _ [] L rfl rfl w' HO.out HP2.out (by have:=HL.out;simp;omega) ?_;intro v1 w1 o1;replace o1:=qH o1))
 go_returns
 exact⟨_,rfl,o3⟩
theorem kD (s:Value) (l:List KV) (k v:ByteArray) (w:World) (hP:Prs w s l) (hu:Up l) (hz:l.length+1≤1000000000) :
  Calls qP 73 #[s,.string k,.string v] w fun e w'=>∃ v',e=.returned (.tuple #[v',.bool (!(AD l k).isSome)])∧CD w.heap.size v' (Az l k v) w w':=by
 have H:=rAt s l k w hP (by omega);have hP':=hP;obtain⟨A,cap,rfl,_,_⟩:=hP'
 rcases EI hu k with⟨h1,h2,h3⟩|⟨h1,h2,h3,h4⟩|⟨h1,h2,h3,h4,_⟩
 ·have:=Tf A cap l k v _ w hP (IH l k) hz H (.inl h1)
  rw [h1,List.take_length,List.drop_length,List.append_nil,←h3 v] at this;rw [h2];exact this
 ·rw [h3,h4 v]
  exact Tf A cap l k v _ w hP (IH l k) hz H (.inr ⟨h1,h2⟩)
 ·rw [h3,h4 v]
  exact ZE A cap l k v _ w hP h1 hz H h2
theorem Wz (n:Int) (w:World) :
  Calls qP 123 #[.int .i64 n] w fun e w'=>e=.returned (AP (Ag n))∧Below w.heap.size w w':=by
 by_cases h0:0≤n
 ·by_cases h1:n≤9007199254740992
  ·obtain⟨m,rfl⟩:=Int.eq_ofNat_of_zero_le h0
   have HE:=qH (show Ag m=(num m,0) by simp [Ag,h1]);have hle:=Cr m 7 (by omega);go_enter Tryz.func123,Tryz.ntmps123;go_wp2
   go_loopw [0,4] (fun n s wr=>∃(j:Nat) (t:List UInt8),n=.int .i64 j∧s=.string (bs t)∧j≤9007199254740992∧Hid (be j++t=be m)∧Below w.heap.size w wr) (fun n _ _=>(intOf n).toNat)
   case atStart=>exact⟨m,[],rfl,rfl,by omega,by unfold Hid;simp,Below.refl _ _⟩
   case round =>
    obtain⟨j,t,rfl,rfl,hj,hcat,hbel⟩:=hrel
    have htl:t.length≤7:=by have:=congrArg List.length hcat.out;rw [List.length_append] at this;omega
    have hsz:=hbel.size;by_cases hpos:0<j
    ·have hcv:=IB wr ((j:Int)%256) (by omega) (by omega)
     have hadd:=fun W=>AB W [UInt8.ofNat (j%256)] t (by simp;omega);go_wp2
     go_roundw
     case rel =>
      refine⟨j/256,UInt8.ofNat (j%256)::t,by go_num,rfl,by omega,?_,hbel.alloc hsz _⟩;have e:=FF (n:=j) (by omega);have h2:=hcat.out;rw [e] at h2;unfold Hid;rw [←h2];simp
     case measure=>simp [intOf];omega
    ·obtain rfl:j=0:=by omega
     have ht:t=be m:=by have:=hcat.out;rwa [CY,List.nil_append] at this
     subst ht;have hl:(bs (be m)).size=(be m).length:=Aw _;have hcv:=IB wr ((be m).length:Int) (by omega) (by omega);have hadd:=fun W=>AB W [UInt8.ofNat (be m).length] (be m) (by simp;omega);go_wp2
     go_ret2
     refine⟨by rw [HE.out];rfl,hbel.alloc hsz _⟩
  ·have HE:=qH (show Ag n=([],3) by simp [Ag,h1])
   go_enter Tryz.func123,Tryz.ntmps123;go_wp2
   go_ret2
   exact⟨by rw [HE.out];rfl,Below.refl _ _⟩
 ·have HE:=qH (show Ag n=([],3) by simp [Ag,h0])
  go_enter Tryz.func123,Tryz.ntmps123;go_wp2
  go_ret2
  exact⟨by rw [HE.out];rfl,Below.refl _ _⟩
theorem Nj (W:World) (s:ByteArray) (h:s.size≤65536):(Op.stringOp .add (bs (num s.size)) s).run qP W=.ok (.string (bs (Cd s.data.toList))) W:=by
 have hl:=Cr s.size 7 (by omega);rw [run_string_add_sum W (bs (num s.size)) s (by rw [Aw,Di];omega)]
 have e:bs (num s.size)++s=bs (Cd s.data.toList):=by
  conv=>lhs;rw [←Ch s]
  rw [Mc,Ch];unfold Cd;rw [Ah]
 rw [e]
theorem IM (n:Nat) (h:n≤9007199254740992):Ag n=(num n,0):=by
 unfold Ag;rw [if_pos ⟨by omega,by omega⟩,Int.toNat_natCast]
theorem Tg (s:ByteArray) (w:World) :
  Calls qP 93 #[.string s] w fun e w'=>e=.returned (AP (Ai s))∧Below w.heap.size w w':=by
 by_cases h1:s.size≤65536
 ·have HE:=qH (show Ai s=(Cd s.data.toList,0) by simp [Ai,h1])
  have hr:=Wz s.size w;rw [IM s.size (by omega)] at hr;have HA:=qH hr;clear hr;have hadd:=fun W=>Nj W s h1;go_enter Tryz.func93,Tryz.ntmps93
  go_wp2_with fail
  refine HA.out.mono ?_;rintro e w1 ⟨rfl,hb⟩;unfold AP;go_wp2
  go_ret2
  exact⟨by rw [HE.out];rfl,hb⟩
 ·have HE:=qH (show Ai s=([],4) by simp [Ai,h1])
  go_enter Tryz.func93,Tryz.ntmps93;go_wp2
  go_ret2
  exact⟨by rw [HE.out];rfl,Below.refl _ _⟩
theorem Aa.txs {w0 W:World} (h:Aa w0 W) {v:Value} {ss:List ByteArray} (hT:Txs w0 w0.heap.size v ss):Txs W W.heap.size v ss:=(hT.below h.below).more h.2.2.2.1
theorem Txs.tail {w:World} {b off c:Nat} {p:ByteArray} {r:List ByteArray} (h:Txs w w.heap.size (.slice (some ⟨b,off,none⟩) (r.length+1) c) (p::r)) :
  w.cell? ⟨b,off,none⟩=some (.string p)∧∀ k,Txs w w.heap.size (.slice (some ⟨b,off+1,none⟩) r.length k) r:=by
 obtain⟨A,c',e,hc⟩:=h;simp only [Value.slice.injEq] at e;obtain⟨rfl,-,rfl⟩:=e;obtain⟨b0,o0,e0,hb0,h0⟩:=hc 0 (by simp)
 cases e0
 refine⟨by simpa using h0,fun k=>⟨_,k,rfl,fun i hi=>⟨b,off+1,rfl,hb0,?_⟩⟩⟩;obtain⟨b',o',e',-,hcell⟩:=hc (i+1) (by simp;omega)
 cases e'
 rw [show off+1+i=off+(i+1) by omega,hcell];simp
theorem Th {a b:Nat} (h:a=b):Ending.returned (.int .u32 (a:Int))=.returned (.int .u32 (b:Int)):=by rw [h]
theorem WA {a:Int} {b:Nat} (h:a=(b:Int)):Value.int .u32 a=.int .u32 (b:Int):=by rw [h]
theorem DM (a:Nat):(BitVec.ofInt 32 (a:Int)).toNat=a%4294967296:=by
 rw [BitVec.ofInt_natCast,BitVec.toNat_ofNat]
theorem UG:(BitVec.ofInt 32 (4294967295:Int)).toNat=4294967295:=by decide
theorem JT (a b:Nat):((a:Int)+(b:Int))%4294967296=(BH a b:Nat):=by unfold BH;omega
theorem OQ (a b:Nat):bits .xor .u32 (a:Int) (b:Int)=(CI a b:Nat):=by
 show IntKind.u32.wrap ((BitVec.ofInt 32 (a:Int) ^^^ BitVec.ofInt 32 (b:Int)).toNat:Int)=_
 rw [BitVec.toNat_xor,DM,DM,IntKind.wrap_u32,←Nat.xor_mod_two_pow (n:=32)];unfold CI
 omega
theorem WB (a b:Nat):bits .and .u32 (a:Int) (b:Int)=(FH a b:Nat):=by
 show IntKind.u32.wrap ((BitVec.ofInt 32 (a:Int) &&& BitVec.ofInt 32 (b:Int)).toNat:Int)=_
 rw [BitVec.toNat_and,DM,DM,IntKind.wrap_u32,←Nat.and_mod_two_pow (n:=32)];unfold FH
 omega
theorem WC (a b:Nat):bits .or .u32 (a:Int) (b:Int)=(wor a b:Nat):=by
 show IntKind.u32.wrap ((BitVec.ofInt 32 (a:Int) ||| BitVec.ofInt 32 (b:Int)).toNat:Int)=_
 rw [BitVec.toNat_or,DM,DM,IntKind.wrap_u32,←Nat.or_mod_two_pow (n:=32)];unfold wor
 omega
theorem OR (y:Nat) (c:UInt8):bits .or .u32 (y:Int) ((c.toNat:Int)%4294967296)=(wor y c.toNat:Nat):=by
 have h:=c.toNat_lt;rw [show((c.toNat:Int)%4294967296)=(c.toNat:Int) by omega];exact WC y c.toNat
theorem cC (a:Nat):bits .xor .u32 IntKind.u32.max (a:Int)=(QC a:Nat):=by
 rw [show IntKind.u32.max=4294967295 by decide]
 show IntKind.u32.wrap ((BitVec.ofInt 32 (4294967295:Int) ^^^ BitVec.ofInt 32 (a:Int)).toNat:Int)=_
 rw [BitVec.toNat_xor,DM,UG,IntKind.wrap_u32,show(4294967295:Nat)=4294967295%2 ^ 32 by decide,show(4294967296:Nat)=2 ^ 32 by decide,←Nat.xor_mod_two_pow (n:=32)];unfold QC
 omega
theorem Ti (a n:Nat):((a:Int)*2 ^ n)%4294967296=(Hp a n:Nat):=by
 unfold Hp;rw [Int.natCast_emod,Int.natCast_mul,Int.natCast_pow]
 rfl
theorem MC (a n:Nat):(a:Int)/2 ^ n=(KB a n:Nat):=by
 unfold KB;rw [Int.natCast_ediv,Int.natCast_pow]
 rfl
theorem rot (x n m:Nat) (k:Int) (hk:bits .and .u64 (IntKind.u64.wrap k) 31=(m:Int)) (hm:m+n=32) (w:World) :
  Calls qP 230 #[.int .u32 x,.int .i64 k] w fun e w'=>e=.returned (.int .u32 (By x n))∧w=w':=by
 have hor:=WC;have hl:=Ti x m;have hr:=MC x n
 have hn:((32:Int)-(m:Int)).toNat=n:=by omega
 have hm1:(m:Int)≤32:=by omega
 have hm2:(0:Int)≤32-(m:Int):=by omega
 have hm3:(32:Int)-(m:Int)≤32:=by omega
 have e:wor (Hp x m) (KB x n)=By x n:=by unfold By;rw [show 32-n=m by omega]
 have E:=qH e;have HM:=qH hm;clear e hm;go_enter Tryz.func230,Tryz.ntmps230;go_wp2
 go_ret
 exact⟨Th E.out,rfl⟩
theorem Fj (x n m:Nat) (hm:m+n=32) (w:World) :
  Calls qP 161 #[.int .u32 x,.int .u64 n] w fun e w'=>e=.returned (.int .u32 (By x n))∧w=w':=by
 have hor:=WC;have hl:=Ti x m;have hr:=MC x n
 have hn:((32:Int)-(n:Int)).toNat=m:=by omega
 have hm1:(n:Int)≤32:=by omega
 have hm2:(0:Int)≤32-(n:Int):=by omega
 have hm3:(32:Int)-(n:Int)≤32:=by omega
 have e:wor (KB x n) (Hp x m)=By x n:=by unfold By;rw [show 32-n=m by omega,VT]
 have E:=qH e;have HM:=qH hm;clear e hm;go_enter Tryz.func161,Tryz.ntmps161;go_wp2
 go_ret
 exact⟨Th E.out,rfl⟩
theorem Tj (s:ByteArray) (p k:Nat) (h:p+k<s.size):wor (Hp (Dw s.data.toList p k) 8) (s[p+k]).toNat=Dw s.data.toList p (k+1):=by
 show _=wor (Hp (Dw s.data.toList p k) 8) (Ic s.data.toList (p+k))
 rw [Un s (p+k) h]
theorem OS (s:ByteArray) (p k:Nat) (h:s.size≤p+k):Hp (Dw s.data.toList p k) 8=Dw s.data.toList p (k+1):=by
 show _=wor (Hp (Dw s.data.toList p k) 8) (Ic s.data.toList (p+k))
 rw [QE s (p+k) h,VU _ (Zn _ _)]
theorem word (s:ByteArray) (p:Nat) (w:World) (hp:p≤64) (hs:s.size≤maxLen) :
  Calls qP 231 #[.string s,.int .i64 p] w fun e w'=>e=.returned (.int .u32 (Dw s.data.toList p 4))∧w=w':=by
 unfold maxLen at hs;go_enter Tryz.func231,Tryz.ntmps231;go_wp2
 go_loop [5,7] (fun x i=>∃ k y:Nat,k≤4∧i=.int .i64 k∧x=.int .u32 y∧Hid (y=Dw s.data.toList p k)) (fun _ i=>4-(intOf i).toNat)
 case atStart=>exact⟨0,0,by omega,rfl,rfl,qH rfl⟩
 case round =>
  obtain⟨k,y,hk,rfl,rfl,hy⟩:=hrel;by_cases hlt:k<4
  ·have hsh:=Ti y 8
   simp only [show(2:Int) ^ 8=256 by decide] at hsh;have hor:=WC;by_cases hin:p+k<s.size
   ·have hw:=qH (Tj s p k hin)
    go_wp2
    go_round
    case rel=>exact⟨k+1,wor (Hp y 8) (s[p+k]).toNat,by omega,by go_num,WA (OR _ _),qH (by rw [hy.out];exact hw.out)⟩
    case measure=>simp [intOf];omega
   ·have hw:=qH (OS s p k (by omega))
    go_wp2
    go_round
    case rel=>exact⟨k+1,Hp y 8,by omega,by go_num,WA hsh,qH (by rw [hy.out];exact hw.out)⟩
    case measure=>simp [intOf];omega
  ·obtain rfl:k=4:=by omega
   go_wp2
   go_ret
   exact⟨Th hy.out,rfl⟩
theorem gM (s:ByteArray) (p:Nat) (w:World) (hp:p≤64) (hs:s.size≤maxLen) :
  Calls qP 160 #[.string s,.int .i64 p] w fun e w'=>e=.returned (.int .u32 (Dw s.data.toList p 4))∧w=w':=by
 unfold maxLen at hs;go_enter Tryz.func160,Tryz.ntmps160;go_wp2
 go_loop [5,6] (fun x i=>∃ k y:Nat,k≤4∧i=.int .i64 (p+k:Nat)∧x=.int .u32 y∧Hid (y=Dw s.data.toList p k)) (fun _ i=>p+4-(intOf i).toNat)
 case atStart=>exact⟨0,0,by omega,rfl,rfl,qH rfl⟩
 case round =>
  obtain⟨k,y,hk,rfl,rfl,hy⟩:=hrel;by_cases hlt:k<4
  ·have hsh:=Ti y 8
   simp only [show(2:Int) ^ 8=256 by decide] at hsh;have hor:=WC;by_cases hin:p+k<s.size
   ·have hw:=qH (Tj s p k hin)
    have hob:=OR (Hp y 8) s[p+k];go_wp2
    go_round
    case rel=>exact⟨k+1,wor (Hp y 8) (s[p+k]).toNat,by omega,by go_num,rfl,qH (by rw [hy.out];exact hw.out)⟩
    case measure=>simp [intOf];omega
   ·have hw:=qH (OS s p k (by omega))
    go_wp2
    go_round
    case rel=>exact⟨k+1,Hp y 8,by omega,by go_num,WA hsh,qH (by rw [hy.out];exact hw.out)⟩
    case measure=>simp [intOf];omega
  ·obtain rfl:k=4:=by omega
   go_wp2
   go_ret
   exact⟨Th hy.out,rfl⟩
def wv (l:List Nat):Array Value:=(l.map fun x:Nat=>Value.int .u32 (x:Int)).toArray
theorem AS (l:List Nat):(wv l).size=l.length:=by simp [wv]
theorem Fs (l:List Nat) (i:Nat) (h:i<l.length):(wv l)[i]?=some (.int .u32 (nth l i)):=by
 unfold wv;rw [List.getElem?_toArray,List.getElem?_map,QD l i h]
 rfl
theorem Nk (l:List Nat) (i v:Nat):(wv l).setIfInBounds i (.int .u32 (v:Int))=wv (l.set i v):=by
 apply Array.toList_inj.1
 simp [wv,List.map_set]
theorem DO (l:List Nat):(wv l).all (·.oneCell')=true:=by
 rw [Array.all_eq_true_iff_forall_mem];intro v hv;simp [wv] at hv;obtain⟨x,_,rfl⟩:=hv
 rfl
def Cc (l:List UInt8) (w:World) (t:Nat) (wr:World):Prop :=
 Blk wr (w.heap.size+1) 226 (wv (arr l t))∧Blk wr w.heap.size 226 (wv (List.replicate 64 0))∧Below w.heap.size w wr∧wr.heap.size=w.heap.size+2
theorem Cc.start (l:List UInt8) (w:World):Cc l w 0 ((w.alloc (.cells (wv (List.replicate 64 0)) 226)).alloc (.cells (wv (List.replicate 64 0)) 226)):=by
 refine⟨?_,?_,?_,?_⟩
 ·have h:=Blk.new (w.alloc (.cells (wv (List.replicate 64 0)) 226)) 226 (wv (List.replicate 64 0))
  rw [show(w.alloc (.cells (wv (List.replicate 64 0)) 226)).heap.size=w.heap.size+1 by simp] at h;exact h
 ·exact(Blk.new w 226 (wv (List.replicate 64 0))).alloc _
 ·exact((Below.refl _ _).alloc (Nat.le_refl _) _).alloc (by simp) _
 ·simp
theorem Cc.put {l:List UInt8} {w wr:World} {t:Nat} (h:Cc l w t wr) (x:Nat) (hx:x=EA l (arr l t) t):Cc l w (t+1) (wr.setCell ⟨w.heap.size+1,t,none⟩ (.int .u32 (x:Int))):=by
 subst hx;obtain⟨h1,h2,h3,h4⟩:=h;refine⟨?_,h2.far (by simp) _,h3.setCell (by simp) _,by simpa [World.setCell] using h4⟩;have:=h1.set_ t (.int .u32 (EA l (arr l t) t:Nat));rw [Nk] at this;exact this
theorem Cc.cell {l:List UInt8} {w wr:World} {t:Nat} (h:Cc l w t wr) (i:Nat) (hi:i<64):wr.cell? ⟨w.heap.size+1,i,none⟩=some (.int .u32 (nth (arr l t) i)):=by
 rw [h.1.cell i,Fs _ _ (by rw [DT];exact hi)]
theorem Cc.frozen {l:List UInt8} {w wr:World} {t:Nat} (h:Cc l w t wr) (i:Nat):wr.frozen? ⟨w.heap.size+1,i,none⟩=false:=h.1.frozen i
theorem Cc.drewN {l:List UInt8} {w wr:World} {t:Nat} (h:Cc l w t wr) (n:Nat):Cc l w t (wr.drewN n):=⟨h.1,h.2.1,Below.drewN h.2.2.1 n,h.2.2.2⟩
theorem Cc.drew {l:List UInt8} {w wr:World} {t:Nat} (h:Cc l w t wr):Cc l w t wr.drew:=h.drewN 1
theorem Jt:(qP.info? 226).map (·.size)=some 64:=by kernel_rfl
theorem Ed:(qP.info? 189).map (·.size)=some 8:=by kernel_rfl
theorem Bp {B:Nat} {a w:World} {g:Nat} {cs:Array Value} (h:Below B a w) (hg:B≤g):Below B a (w.setRow g cs) :=
 ⟨h.os,h.tape,h.output,by have:=h.size;simpa [World.setRow] using this,fun i hi=>(setRow_other w g i cs (by omega)).trans (h.block i hi)⟩
theorem gN (s:ByteArray) (k:Nat) (w:World) (hk:k<16) (hs:s.size≤maxLen) :
  Calls qP 231 #[.string s,.int .i64 (4*(k:Int))] w fun e w'=>e=.returned (.int .u32 (Dw s.data.toList (4*k) 4))∧w=w':=by
 have h:=word s (4*k) w (by omega) hs
 rwa [show((4*k:Nat):Int)=4*(k:Int) by omega] at h
theorem kE (x:Nat) (w:World):Calls qP 230 #[.int .u32 x,.int .i64 (-2)] w fun e w'=>e=.returned (.int .u32 (By x 2))∧w=w':=rot x 2 30 (-2) (by decide +kernel) rfl w
theorem kF (x:Nat) (w:World):Calls qP 230 #[.int .u32 x,.int .i64 (-6)] w fun e w'=>e=.returned (.int .u32 (By x 6))∧w=w':=rot x 6 26 (-6) (by decide +kernel) rfl w
theorem kG (x:Nat) (w:World):Calls qP 230 #[.int .u32 x,.int .i64 (-7)] w fun e w'=>e=.returned (.int .u32 (By x 7))∧w=w':=rot x 7 25 (-7) (by decide +kernel) rfl w
theorem gO (x:Nat) (w:World):Calls qP 230 #[.int .u32 x,.int .i64 (-11)] w fun e w'=>e=.returned (.int .u32 (By x 11))∧w=w':=rot x 11 21 (-11) (by decide +kernel) rfl w
theorem gP (x:Nat) (w:World):Calls qP 230 #[.int .u32 x,.int .i64 (-13)] w fun e w'=>e=.returned (.int .u32 (By x 13))∧w=w':=rot x 13 19 (-13) (by decide +kernel) rfl w
theorem gQ (x:Nat) (w:World):Calls qP 230 #[.int .u32 x,.int .i64 (-17)] w fun e w'=>e=.returned (.int .u32 (By x 17))∧w=w':=rot x 17 15 (-17) (by decide +kernel) rfl w
theorem gR (x:Nat) (w:World):Calls qP 230 #[.int .u32 x,.int .i64 (-18)] w fun e w'=>e=.returned (.int .u32 (By x 18))∧w=w':=rot x 18 14 (-18) (by decide +kernel) rfl w
theorem gS (x:Nat) (w:World):Calls qP 230 #[.int .u32 x,.int .i64 (-19)] w fun e w'=>e=.returned (.int .u32 (By x 19))∧w=w':=rot x 19 13 (-19) (by decide +kernel) rfl w
theorem gT (x:Nat) (w:World):Calls qP 230 #[.int .u32 x,.int .i64 (-22)] w fun e w'=>e=.returned (.int .u32 (By x 22))∧w=w':=rot x 22 10 (-22) (by decide +kernel) rfl w
theorem gU (x:Nat) (w:World):Calls qP 230 #[.int .u32 x,.int .i64 (-25)] w fun e w'=>e=.returned (.int .u32 (By x 25))∧w=w':=rot x 25 7 (-25) (by decide +kernel) rfl w
theorem WD (s:ByteArray) (w:World) (hs:s.size≤maxLen) :
  Calls qP 208 #[.string s] w fun e w'=>e=.returned (.agg (wv (arr s.data.toList 64)))∧Below w.heap.size w w':=by
 go_enter Tryz.func208,Tryz.ntmps208;go_wp2
 go_loopw [10] (fun i wr=>∃ k:Nat,k≤16∧i=.int .i64 k∧Cc s.data.toList w k wr) (fun i _=>16-(intOf i).toNat)
 case atStart=>exact⟨0,Nat.zero_le _,rfl,Cc.start _ w⟩
 case round =>
  obtain⟨k,hk,rfl,hS⟩:=hrel;by_cases hlt:k<16
  ·have hc:=hS.cell k (by omega)
   have hf:=hS.frozen k;have HS:=qH hS;clear hS
   go_wp2_with fail
   refine(gN s k wr hlt hs).mono ?_;rintro e w1 ⟨rfl,rfl⟩;go_wp2
   go_roundw
   case rel=>exact⟨k+1,by omega,by go_num,HS.out.put _ (by unfold EA;rw [if_pos hlt])⟩
   case measure=>simp [intOf];omega
  ·obtain rfl:k=16:=by omega
   have HS:=qH hS;clear hS;rw [show((16:Nat):Int)=(16:Int) from rfl];go_wp2
   go_loopw [5] (fun i wr=>∃ k:Nat,16≤k∧k≤64∧i=.int .i64 k∧Cc s.data.toList w k wr) (fun i _=>64-(intOf i).toNat)
   case atStart=>exact⟨16,by omega,by omega,rfl,HS.out⟩
   case round =>
    clear HS;obtain⟨k,hk0,hk,rfl,hS⟩:=hrel;by_cases hlt:k<64
    ·obtain⟨y,hy⟩:∃ y,nth (arr s.data.toList k) (k-2)=y:=⟨_,rfl⟩
     obtain⟨x,hx⟩:∃ x,nth (arr s.data.toList k) (k-15)=x:=⟨_,rfl⟩;obtain⟨a,ha⟩:∃ a,nth (arr s.data.toList k) (k-7)=a:=⟨_,rfl⟩;obtain⟨b,hb⟩:∃ b,nth (arr s.data.toList k) (k-16)=b:=⟨_,rfl⟩;have c2:=hS.cell (k-2) (by omega);have c15:=hS.cell (k-15) (by omega);rw [hy] at c2;rw [hx] at c15
     have EV:=qH (show BH (BH (BH (CI (CI (By y 17) (By y 19)) (KB y 10)) a) (CI (CI (By x 7) (By x 18)) (KB x 3))) b=EA s.data.toList (arr s.data.toList k) k by
      unfold EA VV;rw [if_neg (by omega),hy,hx,ha,hb]
      rfl)
     have HA:=qH ha;have HB:=qH hb;have HS:=qH hS;clear hS hy hx ha hb
     have n2:((k:Int)-2).toNat=k-2:=by omega
     have n15:((k:Int)-15).toNat=k-15:=by omega
     have p2:0≤(k:Int)-2:=by omega
     have p15:0≤(k:Int)-15:=by omega
     have q2:(k:Int)-2<64:=by omega
     have q15:(k:Int)-15<64:=by omega
     go_wp2
     go_quiet (fail)
     have HS2:=qH (HS.out.drewN nq);clear HS c2 c15 n2 n15 p2 p15 q2 q15;generalize wr.drewN nq=w2 at *
     go_wp2_with fail
     refine(kG x w2).mono ?_;rintro e w3 ⟨rfl,rfl⟩
     go_wp2_with fail
     refine(gR x w2).mono ?_;rintro e w3 ⟨rfl,rfl⟩;have hxor:=OQ;have hr3:=MC x 3;have hr10:=MC y 10;simp only [show(2:Int) ^ 3=8 by decide] at hr3;simp only [show(2:Int) ^ 10=1024 by decide] at hr10
     go_wp2_with fail
     refine(gQ y w2).mono ?_;rintro e w3 ⟨rfl,rfl⟩
     go_wp2_with fail
     refine(gS y w2).mono ?_;rintro e w3 ⟨rfl,rfl⟩;go_wp2;clear hxor hr3 hr10;have c7:=HS2.out.cell (k-7) (by omega);have c16:=HS2.out.cell (k-16) (by omega);have ck:=HS2.out.cell k (by omega);have fk:=HS2.out.frozen k;rw [HA.out] at c7;rw [HB.out] at c16
     have n7:((k:Int)-7).toNat=k-7:=by omega
     have n16:((k:Int)-16).toNat=k-16:=by omega
     have p7:0≤(k:Int)-7:=by omega
     have p16:0≤(k:Int)-16:=by omega
     have q7:(k:Int)-7<64:=by omega
     have q16:(k:Int)-16<64:=by omega
     have hadd:=JT
     go_region
     have HS3:=qH (HS2.out.put _ EV.out).drew;clear HS2 c7 c16 ck fk n7 n16 p7 p16 q7 q16 hadd HA HB EV;generalize World.drew _=w4 at *;go_wp2
     go_roundw
     case rel=>exact⟨k+1,by omega,by omega,by go_num,HS3.out⟩
     case measure=>simp [intOf];omega
    ·obtain rfl:k=64:=by omega
     have HS:=qH hS;clear hS
     go_wp2_with (first
      | (refine wpList_load_row rfl 226 _ rfl (w.heap.size+1) rfl 226 _ (0,0) _ HS.out.1 Tryz.underlying226 rfl (by rw [AS,DT];exact Jt) ?_)
      | (refine wpList_store_row rfl 226 _ _ rfl w.heap.size (wv (arr s.data.toList 64)) rfl rfl 226 (wv (List.replicate 64 0)) HS.out.2.1 (by rw [AS,DT];exact Jt) (by rw [AS,AS,DT,List.length_replicate]) (DO _) ?_))
     have hb:Below w.heap.size w (wr.setRow w.heap.size (wv (arr s.data.toList 64))):=Bp HS.out.2.2.1 (Nat.le_refl _);exact bodyPost_ret (v:=.agg (wv (arr s.data.toList 64))) (results_cell_row Tryz.results208 _ _ w.heap.size 226 _ (0,0) _ rfl (setRow_heap _ _ _ _ _ _ HS.out.2.1) Tryz.underlying226 rfl (by rw [AS,DT];exact Jt)) rfl ⟨rfl,hb⟩
def Ba (w:World):Prop:=∀ i:Nat,i<64→w.cell? ⟨2,i,none⟩=some (.int .u32 (nth kk i))
theorem Ba.below {w w':World} {B:Nat} (h:Ba w) (hb:Below B w w') (hB:2<B):Ba w':=fun i hi=>(hb.cell (p:=⟨2,i,none⟩) hB).trans (h i hi)
theorem Ba.pos {w:World} (h:Ba w):2<w.heap.size:=World.block_lt_of_cell? w _ (h 0 (by omega))
theorem Ba.next {w w':World} (h:Ba w) (hb:Below w.heap.size w w'):Ba w':=h.below hb h.pos
def Le (hs ws:List Nat) (w wr:World):Prop :=
 Blk wr w.heap.size 189 (wv hs)∧Blk wr (w.heap.size+1) 226 (wv ws)∧Blk wr (w.heap.size+1+1) 189 (wv (List.replicate 8 0))∧Below w.heap.size w wr
theorem Le.start (hs ws:List Nat) (w:World):Le hs ws w (((w.alloc (.cells (wv hs) 189)).alloc (.cells (wv ws) 226)).alloc (.cells (wv (List.replicate 8 0)) 189)):=by
 have e1:(w.alloc (.cells (wv hs) 189)).heap.size=w.heap.size+1:=by simp
 have e2:((w.alloc (.cells (wv hs) 189)).alloc (.cells (wv ws) 226)).heap.size=w.heap.size+1+1:=by simp
 refine⟨?_,?_,?_,?_⟩
 ·exact((Blk.new w 189 (wv hs)).alloc _).alloc _
 ·have h:=Blk.new (w.alloc (.cells (wv hs) 189)) 226 (wv ws)
  rw [e1] at h;exact h.alloc _
 ·have h:=Blk.new ((w.alloc (.cells (wv hs) 189)).alloc (.cells (wv ws) 226)) 189 (wv (List.replicate 8 0))
  rw [e2] at h;exact h
 ·exact(((Below.refl _ _).alloc (Nat.le_refl _) _).alloc (by simp) _).alloc (by simp;omega) _
theorem Le.drewN {hs ws:List Nat} {w wr:World} (h:Le hs ws w wr) (n:Nat):Le hs ws w (wr.drewN n):=⟨h.1,h.2.1,h.2.2.1,Below.drewN h.2.2.2 n⟩
theorem Le.reg {hs ws:List Nat} {w wr:World} (h:Le hs ws w wr) (i:Nat) (hi:i<hs.length):wr.cell? ⟨w.heap.size,i,none⟩=some (.int .u32 (nth hs i)):=by
 rw [h.1.cell i,Fs _ _ hi]
theorem Le.word {hs ws:List Nat} {w wr:World} (h:Le hs ws w wr) (i:Nat) (hi:i<ws.length):wr.cell? ⟨w.heap.size+1,i,none⟩=some (.int .u32 (nth ws i)):=by
 rw [h.2.1.cell i,Fs _ _ hi]
theorem OT:(#[.int .u32 0,.int .u32 0,.int .u32 0,.int .u32 0,.int .u32 0,.int .u32 0,.int .u32 0,.int .u32 0]:Array Value)=wv (List.replicate 8 0):=rfl
theorem OU (ws:List Nat) (r:Reg) (t a b c d e f g h x y:Nat) (hq:rds ws r t=⟨a,b,c,d,e,f,g,h⟩)
  (hx:x=BH (BH (BH (BH h (CI (CI (By e 6) (By e 11)) (By e 25))) (CI (FH e f) (FH (QC e) g))) (nth kk t)) (nth ws t))
  (hy:y=BH (CI (CI (By a 2) (By a 13)) (By a 22)) (CI (CI (FH a b) (FH a c)) (FH b c))) :
  rds ws r (t+1)=⟨BH x y,a,b,c,BH d x,e,f,g⟩:=by
 show rnd (nth kk t) (nth ws t) (rds ws r t)=_
 rw [hq,hx,hy]
 rfl
theorem QX (hs ws:List Nat) (w:World) (hr:Ba w) (h8:hs.length=8) (h64:ws.length=64) :
  Calls qP 207 #[.agg (wv hs),.agg (wv ws)] w fun e w'=>e=.returned (.agg (wv (rds ws (Ej hs) 64).list))∧Below w.heap.size w w':=by
 obtain⟨r,hr0⟩:∃ r,Ej hs=r:=⟨_,rfl⟩;rw [hr0];obtain⟨a0,a1,a2,a3,a4,a5,a6,a7⟩:=r;have z0:nth hs 0=a0:=congrArg Reg.a hr0;have z1:nth hs 1=a1:=congrArg Reg.b hr0;have z2:nth hs 2=a2:=congrArg Reg.c hr0;have z3:nth hs 3=a3:=congrArg Reg.d hr0;have z4:nth hs 4=a4:=congrArg Reg.e hr0;have z5:nth hs 5=a5:=congrArg Reg.f hr0;have z6:nth hs 6=a6:=congrArg Reg.g hr0;have z7:nth hs 7=a7:=congrArg Reg.h hr0;have HZ:=qH (And.intro z0 (And.intro z1 (And.intro z2 (And.intro z3 (And.intro z4 (And.intro z5 (And.intro z6 z7)))))));have H8:=qH h8;have H64:=qH h64;have HR:=qH hr;clear h8 h64 hr hr0 z0 z1 z2 z3 z4 z5 z6 z7;go_enter Tryz.func207,Tryz.ntmps207;go_wp2;have HD:=qH (Le.start hs ws w);rw [OT];generalize ((w.alloc (Obj.cells (wv hs) 189)).alloc (Obj.cells (wv ws) 226)).alloc (Obj.cells (wv (List.replicate 8 0)) 189)=w1 at *;have c0:=HD.out.reg 0 (by rw [H8.out];omega);have c1:=HD.out.reg 1 (by rw [H8.out];omega);have c2:=HD.out.reg 2 (by rw [H8.out];omega);have c3:=HD.out.reg 3 (by rw [H8.out];omega);rw [HZ.out.1] at c0;rw [HZ.out.2.1] at c1;rw [HZ.out.2.2.1] at c2;rw [HZ.out.2.2.2.1] at c3
 go_quiet (fail)
 have HD2:=qH (HD.out.drewN nq);clear HD c0 c1 c2 c3;generalize w1.drewN nq=w2 at *;go_wp2;have c4:=HD2.out.reg 4 (by rw [H8.out];omega);have c5:=HD2.out.reg 5 (by rw [H8.out];omega);have c6:=HD2.out.reg 6 (by rw [H8.out];omega);have c7:=HD2.out.reg 7 (by rw [H8.out];omega);rw [HZ.out.2.2.2.2.1] at c4;rw [HZ.out.2.2.2.2.2.1] at c5;rw [HZ.out.2.2.2.2.2.2.1] at c6;rw [HZ.out.2.2.2.2.2.2.2] at c7
 go_quiet (fail)
 have HD3:=qH (HD2.out.drewN nq);clear HD2 c4 c5 c6 c7 HZ;generalize w2.drewN _=w3 at *;go_wp2
 go_loopw [5,6,7,8,9,10,11,12,36] (fun s5 s6 s7 s8 s9 s10 s11 s12 i wr=>∃ t a b c d e f g z:Nat,t≤64∧i=.int .i64 t∧s5=.int .u32 a∧s6=.int .u32 b∧s7=.int .u32 c∧s8=.int .u32 d∧s9=.int .u32 e∧s10=.int .u32 f∧s11=.int .u32 g∧s12=.int .u32 z∧Hid (rds ws ⟨a0,a1,a2,a3,a4,a5,a6,a7⟩ t=⟨a,b,c,d,e,f,g,z⟩)∧Le hs ws w wr) (fun _ _ _ _ _ _ _ _ i _=>64-(intOf i).toNat)
 case atStart=>exact⟨0,a0,a1,a2,a3,a4,a5,a6,a7,Nat.zero_le _,rfl,rfl,rfl,rfl,rfl,rfl,rfl,rfl,rfl,qH rfl,HD3.out⟩
 case round =>
  clear HD3;obtain⟨t,a,b,c,d,e,f,g,z,ht,rfl,rfl,rfl,rfl,rfl,rfl,rfl,rfl,rfl,hq,hD⟩:=hrel;by_cases hlt:t<64
  ·have HD:=qH hD
   clear hD
   go_wp2_with fail
   refine(kF e wr).mono ?_;rintro e0 w4 ⟨rfl,rfl⟩
   go_wp2_with fail
   refine(gO e wr).mono ?_;rintro e0 w4 ⟨rfl,rfl⟩;have hxor:=OQ;have hand:=WB;have hnot:=cC
   go_wp2_with fail
   refine(gU e wr).mono ?_;rintro e0 w4 ⟨rfl,rfl⟩;go_wp2;clear hnot;obtain⟨kt,hkt⟩:∃ kt,nth kk t=kt:=⟨_,rfl⟩;obtain⟨wt,hwt⟩:∃ wt,nth ws t=wt:=⟨_,rfl⟩;have ck:=(HR.out.below HD.out.2.2.2 HR.out.pos) t hlt;have cw:=HD.out.word t (by rw [H64.out];exact hlt);rw [hkt] at ck;rw [hwt] at cw;have HK:=qH hkt;have HW:=qH hwt;clear hkt hwt
   have tl:(t:Int)<64:=by omega
   have hadd:=JT
   go_quiet (fail)
   have HD5:=qH (HD.out.drewN nq);clear HD ck cw hadd;generalize wr.drewN nq=w5 at *;obtain⟨x,hx⟩:∃ x,BH (BH (BH (BH z (CI (CI (By e 6) (By e 11)) (By e 25))) (CI (FH e f) (FH (QC e) g))) kt) wt=x:=⟨_,rfl⟩;simp only [JT,hx];have HX:=qH hx;clear hx
   go_wp2_with fail
   refine(kE a w5).mono ?_;rintro e0 w4 ⟨rfl,rfl⟩
   go_wp2_with fail
   refine(gP a w5).mono ?_;rintro e0 w4 ⟨rfl,rfl⟩
   go_wp2_with fail
   refine(gT a w5).mono ?_;rintro e0 w4 ⟨rfl,rfl⟩;have hadd:=JT;go_wp2
   go_roundw
   case rel=>exact⟨t+1,_,a,b,c,_,e,f,g,by omega,by go_num,rfl,rfl,rfl,rfl,rfl,rfl,rfl,rfl,qH (OU _ _ _ _ _ _ _ _ _ _ _ _ _ hq.out (by rw [HK.out,HW.out];exact HX.out.symm) rfl),HD5.out⟩
   case measure=>simp [intOf];omega
  ·obtain rfl:t=64:=by omega
   have HD:=qH hD;clear hD
   go_wp2_with (refine wpList_store_row rfl 189 _ _ rfl (w.heap.size+1+1) (wv [a,b,c,d,e,f,g,z]) rfl rfl 189 (wv (List.replicate 8 0)) HD.out.2.2.1 (by rw [AS];exact Ed) (by rw [AS,AS];rfl) (DO _) ?_)
   have hb:Below w.heap.size w (wr.setRow (w.heap.size+1+1) (wv [a,b,c,d,e,f,g,z])):=Bp HD.out.2.2.2 (by omega);exact bodyPost_ret (v:=.agg (wv [a,b,c,d,e,f,g,z])) (results_cell_row Tryz.results207 _ _ (w.heap.size+1+1) 189 _ (0,0) _ rfl (setRow_heap _ _ _ _ _ _ HD.out.2.2.1) Tryz.underlying189 rfl (by rw [AS];exact Ed)) rfl ⟨by rw [hq.out];rfl,hb⟩
end Go.Proofs.YtkejaepmoabikaaGreatDoor.W
