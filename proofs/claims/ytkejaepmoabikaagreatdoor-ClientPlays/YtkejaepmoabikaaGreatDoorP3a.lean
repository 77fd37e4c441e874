import Derived.Test.YtkejaepmoabikaaGreatDoorPLPlay
import Derived.Test.YtkejaepmoabikaaGreatDoorP2c
namespace Go.Proofs.YtkejaepmoabikaaGreatDoor.W
open Go.RowKit
theorem Zb (i:ByteArray) (h:(AA [] i).2=0):DK (AA [] i).1:=absurd h (by unfold AA;simp [AD])
theorem jS:AL Bq≤1:=by decide +kernel
theorem Qw {t:Int} {r:ByteArray} (hr:r.size≤1000):Jc (Cq t r) 0:=by
 have c1:DK ⟨CX,cK,0,false⟩:=⟨by show CX.size≤1000;decide,by show cK.size≤60000;decide,by decide,by decide⟩;have c2:DK ⟨CX,cK,1,false⟩:=⟨by show CX.size≤1000;decide,by show cK.size≤60000;decide,by decide,by decide⟩
 have f0:∀ i,(AA Bq i).2=0→DK (AA Bq i).1:=by
  intro i;unfold Bq;by_cases e:i=cId
  ·subst e
   rw [Kr (by decide) (by decide) (by decide) (by decide)];exact fun _=>c1
  ·rw [Ex (fun x=>e (Ja x)),Ex (Hl i)]
   exact Zb i
 have s1:BD (Az Bq (Bf cId 1) (bs (Ec t r))):=BD.set Er (by have:=Gh cId 1;have e:cId.size=8:=rfl;omega) (by have:=Kt t r;omega)
 have l0:Bq.length≤2:=by decide +kernel
 have l1:=CJ (k:=Bf cId 1) (v:=bs (Ec t r)) Bq
 have n1:AL (Az Bq (Bf cId 1) (bs (Ec t r)))≤1:=by rw [JI (fun e=>Gg _ _ e.symm)];exact jS
 have f1:∀ i,(AA (Az Bq (Bf cId 1) (bs (Ec t r))) i).2=0→DK (AA (Az Bq (Bf cId 1) (bs (Ec t r))) i).1:=fun i=>by rw [Ex (Dv _ _ _)];exact f0 i
 obtain⟨a,b,c,d⟩:=Jd (id:=cId) (c:=⟨CX,cK,1,false⟩) s1 (n:=3) (by omega) n1 f1 (by decide) c2;exact⟨a,by show(Az _ _ _).length≤_;omega,Ku _ _ _,c,d⟩
theorem jT {w:World} (E:Fit w) {F:List KV} (hFar:GV F) (b j:Nat) (A2:Option Addr) (q2 r2:Nat):dC w b j F A2 q2 r2:=by
 intro k A q r d W hk hd h;obtain⟨⟨S,L,m,hp,hg,hm⟩,hb,hs⟩:=h;obtain⟨L',m',hg',hm',hc⟩:=doC W (E.since hs) S j m L F A A2 q r q2 r2 k d hd hg (by omega) hFar (by omega) hp.jr hp.st hp.far (hp.os.resolve_left hg.ne) hp.oF;refine hc.mono ?_;rintro en w' ⟨S',B,x,y,rfl,hj,hP,hF,hK,hG,oB,oF⟩;have a:=Ab (Aa.refl w') (.cells #[.pointer (some ⟨j,0,none⟩),.slice B x y,.slice A2 q2 r2,.int .i64 1] 29);have h1:Aa w w':=Ad (hs.below.trans (hK.below hs.below.size hp.lo));have P:=Kj.put hs hb hp.wb hp.nb hp.lo (hj.below a.below) (hP.below a.below) (hF.below a.below) (hK.step (At.of_below S a.below)) hG oB oF;exact⟨B,x,y,rfl,h1,hK.blk hb hp.nb,⟨Blk.new _ _ _,P.1,Ac h1 a,⟨⟨S',L',m',P.2,hg',by omega⟩,P.2.bx,P.2.sn⟩⟩⟩
theorem jU {w:World} (E:Fit w) {F:List KV} (hFar:GV F) (b j:Nat) (A2:Option Addr) (q2 r2:Nat):dD w b j F A2 q2 r2:=by
 intro k A q r d W hk hd h;obtain⟨⟨S,L,m,hp,hg,hm⟩,hb,hs⟩:=h;have u:=Bg (Ab (Aa.refl W) (.cells #[.pointer none,.slice none 0 0,.slice none 0 0,.int .i64 0] 29));have z:=CL (Blk.new W 29 #[.pointer none,.slice none 0 0,.slice none 0 0,.int .i64 0])
 have hn:¬S W.heap.size:=fun e=>by have:=hp.jr.bound _ e;omega
 have hp2:=hp.next u;obtain⟨L',m',hg',hm',hc⟩:=doC _ (E.since (Ac hs u)) S j m L F A A2 q r q2 r2 k d hd hg (by omega) hFar (by omega) hp2.jr hp2.st hp2.far (hp.os.resolve_left hg.ne) hp.oF;refine hc.mono ?_;rintro en w' ⟨S',B,x,y,rfl,hj,hP,hF,hK,hG,oB,oF⟩;have z1:=hK.blk z hn;have kW:=(At.of_below S u.below).step hK;have gW:AR S S' W:=fun i hi=>(hG i hi).imp id (fun e=>Nat.le_trans u.below.size e);have h1:Aa w w':=Ad (hs.below.trans (kW.below hs.below.size hp.lo));have P:=Kj.put hs hb hp.wb hp.nb hp.lo (hj.put4 z1 (by decide) (hG.not z.lt hn) (.pointer (some ⟨j,0,none⟩)) (.slice B x y) (.slice A2 q2 r2) (.int .i64 1)) (hP.put4 z1 _ _ _ _) (hF.put4 z1 _ _ _ _) (kW.put4 (Nat.le_refl _) _ _ _ _) gW oB oF;exact⟨B,x,y,rfl,h1,kW.blk hb hp.nb,z1,⟨put4 z1 _ _ _ _,P.1,Bv h1 hs.below.size _ _ _ _,⟨⟨S',L',m',P.2,hg',by omega⟩,P.2.bx,P.2.sn⟩⟩⟩
end Go.Proofs.YtkejaepmoabikaaGreatDoor.W
