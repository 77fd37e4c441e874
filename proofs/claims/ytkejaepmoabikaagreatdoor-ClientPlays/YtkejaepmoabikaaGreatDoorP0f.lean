import Derived.Scope
import Derived.Deep.AppendLies
import Derived.Deep.RegionHeld3
import Derived.Maps.AppendAt
import Derived.Laws.AppendOwn
import Derived.Lib.Hide
import Derived.WalkKit
import Derived.IntWalk
import Derived.WalkLawsBesides
import Derived.Deep.RegionLaw
import Derived.Lib.SliceRun
import Derived.Test.YtkejaepmoabikaaGreatDoorP0e
import Derived.Test.YtkejaepmoabikaaGreatDoorP0a
import Derived.Test.YtkejaepmoabikaaGreatDoorP0b
import Derived.Test.YtkejaepmoabikaaGreatDoorP0d
import Derived.Test.YtkejaepmoabikaaGreatDoorP0c
namespace Go.Proofs.YtkejaepmoabikaaGreatDoor.W
open Go.RowKit Go.Shelf
open Lib renaming hid → qH
open _root_.Go.Proofs.Tryz renaming prog → qP
set_option maxHeartbeats 1000000
set_option maxRecDepth 100000
attribute [local go_sem] Oper.semAt_some Hk DQ
theorem Vo (S:Nat→Prop) (W:World):At S W W.drew:=⟨rfl,rfl,rfl,Nat.le_refl _,fun _ _ _=>rfl⟩
theorem MP {go:List KV→Bool} {A pre q:List KV} (h:Bo go pre A=some q) (B:List KV):Bo go pre (A++B)=some q:=by rw [DW,h];rfl
theorem MQ {go:List KV→Bool} {A pre:List KV} {y:KV} (h:Bo go pre A=none) (hg:go (pre++A++[y])=false) (B:List KV):Bo go pre (A++y::B)=some (pre++A++[y]):=by
 rw [DW,h,Bo,if_neg (by rw [hg];decide)];rfl
theorem MR {go:List KV→Bool} {A pre:List KV} {y:KV} (h:Bo go pre A=none) (hg:go (pre++A++[y])=true) (B:List KV):Bo go pre (A++y::B)=Bo go (pre++A++[y]) B:=by
 rw [DW,h,Bo,if_pos hg];rfl
theorem fB (l B:Nat) (go:List KV→Bool) (J Jx:Inv) (hJ:Cn B J) (xs:List KV)
  (hY:∀ k pre x S W,J pre S W→(pre++[x]) <+: xs→YieldAt Fence.wide k qP l #[.string x.1,.string x.2] W (TS go J Jx (pre++[x]) S W)) (low:ByteArray) (t:BT) :
  ∀ n p pre S W,Fw S W p t→Up t.list→J pre S W→(pre++CV t.list low) <+: xs→XY go J Jx low l n p pre (CV t.list low) S W:=by
 induction t with
 | leaf =>
   intro n p pre S W hT _ hj _;obtain rfl:p=none:=hT;exact aF go J Jx low l n pre S W hj
 | node tl y tr ihl ihr =>
   intro n p pre S W hT hu hj hx;obtain⟨b,pl,pr,rfl,hb,hbS,hl,hr⟩:=hT;have hm:=Fh hu;obtain⟨yk,yv⟩:=y;by_cases hk:kc yk low=-1
   ·have e:CV (BT.node tl (yk,yv) tr).list low=CV tr.list low:=UA hu hk
    rw [e] at hx ⊢;exact aG low yk yv l n b _ pl pr W _ hk hb ((ihr (n-1) pr pre S W hr hm.2.1 hj hx).mono fun e W' h=>⟨_,h.1,h⟩)
   ·have e:CV (BT.node tl (yk,yv) tr).list low=CV tl.list low++(yk,yv)::CV tr.list low:=QP hk
    rw [e] at hx ⊢;generalize CV tl.list low=L at *;generalize CV tr.list low=M at *;have kd:=Vo S W;have hxl:(pre++L) <+: xs:=List.IsPrefix.trans ⟨(yk,yv)::M,by simp⟩ hx;have hxy:(pre++L++[(yk,yv)]) <+: xs:=List.IsPrefix.trans ⟨M,by simp⟩ hx;have H:=ihl (n-1) pl pre S W.drew (hl.keep kd (AR.refl S W)) hm.1 (hJ.drew hj) hxl
    cases hs:Bo go pre L with
    | some q =>
      refine XZ low yk yv l n b _ pl pr W _ hk hb (H.mono fun e W1 h=>?_);obtain⟨rfl,k1,S1,g1,ha⟩:=h;rw [hs];exact⟨rfl,by rw [MP hs],kd.step k1,S1,g1,Ip (MP hs _) (ha.stop hs)⟩
    | none =>
      cases hg:go (pre++L++[(yk,yv)]) with
      | false =>
        refine Ya low yk yv l n b _ pl pr W _ hk hb (H.mono fun e W1 h=>?_);obtain⟨rfl,k1,S1,g1,ha⟩:=h;rw [hs];have k1:=kd.step k1;obtain⟨_,d1,d2,_,_⟩:=Bh (k1.blk hb hbS);refine⟨rfl,d1,d2,(hY (n-1) _ (yk,yv) S1 W1 (ha.all hs) hxy).mono fun e W2 h=>?_⟩;obtain⟨rfl,k2,S2,g2,_,h2⟩:=h;rw [hg];exact⟨rfl,by rw [MQ hs hg];rfl,k1.trans g1 k2,S2,g1.trans g2 k1.size,Ip (MQ hs hg _) (h2 hg)⟩
      | true =>
        refine aH low yk yv l n b _ pl pr W _ hk hb (H.mono fun e W1 h=>?_);obtain⟨rfl,k1,S1,g1,ha⟩:=h;rw [hs];have k1:=kd.step k1;obtain⟨_,d1,d2,_,_⟩:=Bh (k1.blk hb hbS);refine⟨rfl,d1,d2,(hY (n-1) _ (yk,yv) S1 W1 (ha.all hs) hxy).mono fun e W2 h=>?_⟩;obtain⟨rfl,k2,S2,g2,h1,_⟩:=h;rw [hg];have k3:=k1.trans g1 k2;have g3:AR S S2 W:=g1.trans g2 k1.size;obtain⟨_,_,_,d3,_⟩:=Bh (k3.blk hb hbS);refine⟨rfl,d3,(ihr (n-1) pr _ S2 W2 (hr.keep k3 g3) hm.2.1 (h1 hg) (by simpa using hx)).mono fun e W3 h=>?_⟩;obtain⟨rfl,k4,S4,g4,ha⟩:=h;refine⟨_,rfl,by rw [MR hs hg],k3.trans g3 k4,S4,g3.trans g4 k3.size,?_⟩;unfold Fv at ha ⊢;rw [MR hs hg,show pre++(L++(yk,yv)::M)=pre++L++[(yk,yv)]++M by simp];exact ha
theorem iO (l n:Nat) (bn bl:Nat) (p:Option Addr) (low:ByteArray) (W:World) (R:World→Prop) (c0:W.cell? ⟨bn,0,none⟩=some (.pointer p)) (c1:W.cell? ⟨bl,0,none⟩=some (.string low))
  (H1:CallsIn Fence.wide (n-1) qP 199 #[.pointer p,.string low,.func (.yield l) #[] #[]] W fun e W'=>∃ c,e=.returned (.bool c)∧R W') :
  CallsIn Fence.wide n qP 198 #[.func (.yield l) #[] #[],.pointer (some ⟨bn,0,none⟩),.pointer (some ⟨bl,0,none⟩)] W fun e W'=>(∃ v,e=.returned v)∧R W':=by
 refine callsIn_of_wp Tryz.func198 rfl trivial ?_ rfl;simp only [Tryz.ntmps198,List.size_toArray,List.length_cons,List.length_nil,Nat.reduceAdd,Nat.reduceSub,Array.replicate_succ,Array.replicate_zero,List.push_toArray,List.append_toArray,List.nil_append,List.cons_append]
 gi_wp2_with (first
  | (gi_at_call 199;refine H1.mono ?_;clear H1;rintro e W1 ⟨c,rfl,hR⟩))
 go_end0
 exact⟨⟨_,rfl⟩,hR⟩
theorem aI (bn bl:Nat) (o:Nat→Prop) (p:Option Addr) (low:ByteArray) (t:BT) (w:World) (hT:Fw o w p t) (hu:Up t.list)
  (c0:w.cell? ⟨bn,0,none⟩=some (.pointer p)) (c1:w.cell? ⟨bl,0,none⟩=some (.string low)) :
  LD qP 198 #[.pointer (some ⟨bn,0,none⟩),.pointer (some ⟨bl,0,none⟩)] (CV t.list low) o w:=fun n l go J Jx S W hW hJ _ _ hY h0 hS =>
 iO l n bn bl p low W _ ((Ad hW).cell c0) ((Ad hW).cell c1)
  ((fB l W.heap.size go J Jx hJ _ hY low t (n-1) p [] S W ((hT.off hS).keep (At.of_below S hW) (AR.refl S w)) hu h0 (List.prefix_refl _)).mono fun _ _ h=>⟨_,h.1,h.2⟩)
attribute [local go_sem] Oper.semAt_some Hk DQ
def Hz (pf:ByteArray) (q:List KV):Bool:=match q.getLast? with
 | some x=>pfx pf x.1
 | none=>false
theorem Gf (pf:ByteArray) (pre:List KV) (x:KV):Hz pf (pre++[x])=pfx pf x.1:=by simp [Hz]
theorem L7 (pf:ByteArray) (go:List KV→Bool):∀ ys pre:List KV,
  (Bo (fun q=>Hz pf q&&go q) pre ys=none→ys.takeWhile (fun x=>pfx pf x.1)=ys∧Bo go pre ys=none) ∧
  ∀ q,Bo (fun q=>Hz pf q&&go q) pre ys=some q→(Hz pf q=true∧Bo go pre (ys.takeWhile (fun x=>pfx pf x.1))=some q) ∨
   (Hz pf q=false∧q.dropLast=pre++ys.takeWhile (fun x=>pfx pf x.1)∧Bo go pre (ys.takeWhile (fun x=>pfx pf x.1))=none)
 | [],pre=>⟨fun _=>⟨rfl,rfl⟩,fun q h=>by cases h⟩
 | y::ys,pre=>by
   have ih:=L7 pf go ys (pre++[y]);simp only [Bo,Gf]
   cases hp:pfx pf y.1 with
   | false =>
     simp only [Bool.false_and,List.takeWhile_cons,hp]
     exact⟨fun h=>by simp at h,fun q h=>by
      simp at h;subst h
      exact .inr ⟨by rw [Gf,hp],by simp,rfl⟩⟩
   | true =>
     simp only [Bool.true_and,List.takeWhile_cons,hp,if_true]
     cases hg:go (pre++[y]) with
     | false =>
       refine⟨fun h=>by simp at h,fun q h=>?_⟩;simp at h;subst h;exact .inl ⟨by rw [Gf,hp],by rw [Bo,if_neg (by rw [hg];decide)]⟩
     | true =>
       simp only [if_true];refine⟨fun h=>⟨by rw [(ih.1 h).1],(ih.1 h).2⟩,fun q h=>?_⟩
       rcases ih.2 q h with⟨h1,h2⟩|⟨h1,h2,h3⟩
       ·exact .inl ⟨h1,by rw [Bo,if_pos hg,h2]⟩
       ·exact .inr ⟨h1,by rw [h2];simp,by rw [Bo,if_pos hg,h3]⟩
theorem Kb {α:Type} {p:α→Bool}:∀ {q xs:List α},q <+: xs→(∀ y ∈ q,p y=true)→q <+: xs.takeWhile p
 | [],_,_,_=>⟨_,rfl⟩
 | a::q,[],h,_=>by cases h;contradiction
 | a::q,b::xs,h,hp=>by
   obtain⟨r,hr⟩:=h
   cases hr
   rw [List.takeWhile_cons,if_pos (hp a (by simp))];obtain⟨u,hu⟩:=Kb (q:=q) (xs:=q++r) ⟨r,rfl⟩ (fun y hy=>hp y (by simp [hy]));exact⟨u,by rw [show q.append r=q++r from rfl,←hu];rfl⟩
theorem JH {S:Nat→Prop} {W W':World} (h:At S W W') {D:Nat} (hD:W.heap.size≤D) (ob:Obj):At S W (W'.putObj D ob) :=
 ⟨h.os,h.tape,h.output,by simpa using h.size,fun i hi hn=>(World.putObj_heap_other (by omega)).trans (h.block i hi hn)⟩
theorem IW {n:Nat} {P:Program} {l:Nat} {f:FuncId} {tmps:Array Value} {assign body:Code} {w:World} {R:Ending→World→Prop} (l':Nat) (h:RoundIn Fence.wide n P l f tmps assign body w R):RoundIn (Fence.wide.inRound l') n P l f tmps assign body w R:=h
theorem iP (p:Option Addr) (low:ByteArray) (w:World):Calls qP 172 #[.pointer p,.string low] w fun e w' =>
  e=.returned (.func (.func 198) #[] #[.pointer (some ⟨w.heap.size,0,none⟩),.pointer (some ⟨w.heap.size+1,0,none⟩)])∧w'=(w.alloc (.cells #[.pointer p] 181)).alloc (.cells #[.string low] 9):=by
 go_enter Tryz.func172,Tryz.ntmps172;go_wp2
 go_ret
 exact⟨rfl,rfl⟩
theorem fC (bn bp:Nat) (o:Nat→Prop) (p:Option Addr) (pf:ByteArray) (t:BT) (w:World) (hT:Fw o w p t) (hu:Up t.list)
  (c0:w.cell? ⟨bn,0,none⟩=some (.pointer p)) (hb:Blk w bp 9 #[.string pf]) (ho:¬o bp) :
  LD qP 171 #[.pointer (some ⟨bn,0,none⟩),.pointer (some ⟨bp,0,none⟩)] (Oy t.list pf) o w:=fun n l go J Jx S W hW hJ hJx hJb hY h0 hS=>by
 have d0:=(Ad hW).cell c0;have hbW:=hb.below hW hb.lt;have d1:W.cell? ⟨bp,0,none⟩=some (.string pf):=hbW.cell 0;have nbp:¬S bp:=fun h=>ho (hS bp hb.lt h);have hTW:Fw S W p t:=(hT.off hS).keep (At.of_below S hW) (AR.refl S w);refine callsIn_of_wp_marks Tryz.func171 rfl trivial ?_ rfl;simp only [Tryz.ntmps171,List.size_toArray,List.length_cons,List.length_nil,Nat.reduceAdd,Nat.reduceSub,Array.replicate_succ,Array.replicate_zero,List.push_toArray,List.append_toArray,List.nil_append,List.cons_append]
 gi_wp2
 obtain⟨Wa,hWa⟩:∃ Wa,Wa=W.alloc (.cells #[.func (.yield l) #[] #[]] 69):=⟨_,rfl⟩;rw [←hWa]
 have za:Wa.heap.size=W.heap.size+1:=by rw [hWa];simp
 have ba:Below W.heap.size W Wa:=by rw [hWa];exact(Below.refl _ W).alloc (Nat.le_refl _) _
 have ea:Blk Wa W.heap.size 69 #[.func (.yield l) #[] #[]]:=by rw [hWa];exact Blk.new W _ _
 clear hWa;have d0a:=(Ad ba).cell d0;have d1a:=(Ad ba).cell d1;refine wpIn_wide.2 (wp_scope_straight ((wpIn_wide (n:=n)).1 ?_))
 gi_wp2
 refine wpIn_label ?_
 gi_wp2_with (gi_at_call 172;refine(callsIn_wide.2 (iP _ _ _)).mono ?_;rintro e w' ⟨rfl,rfl⟩)
 obtain⟨W3,hW3⟩:∃ W3,W3=(Wa.alloc (.cells #[.pointer p] 181)).alloc (.cells #[.string pf] 9):=⟨_,rfl⟩;rw [←hW3]
 have z3:W3.heap.size=W.heap.size+1+1+1:=by rw [hW3];simp [za]
 have b3:Below W.heap.size W W3:=by rw [hW3];exact(ba.alloc (by omega) _).alloc (by simp;omega) _
 have e0:Blk W3 W.heap.size 69 #[.func (.yield l) #[] #[]]:=by rw [hW3];exact(ea.alloc _).alloc _
 have e1:W3.cell? ⟨W.heap.size+1,0,none⟩=some (.pointer p):=by
  rw [hW3,←za];exact((Blk.new Wa 181 #[.pointer p]).alloc (.cells #[.string pf] 9)).cell 0
 have e2:W3.cell? ⟨W.heap.size+1+1,0,none⟩=some (.string pf):=by
  have:=Blk.new (Wa.alloc (.cells #[.pointer p] 181)) 9 #[.string pf];rw [World.size_alloc,za,←hW3] at this;exact this.cell 0
 have e3:Blk W3 bp 9 #[.string pf]:=hbW.below b3 hbW.lt
 have nS:¬S W.heap.size:=fun h=>by have:=hJb _ _ _ h0 _ h;omega
 have lb:=hbW.lt;clear hW3;refine MO (gf:=198) (lb:=#[.pointer (some ⟨W.heap.size+1,0,none⟩),.pointer (some ⟨W.heap.size+1+1,0,none⟩)]) (xs:=CV t.list pf) (o:=S) (w0:=W3) rfl (enters_of Tryz.func198 (by kernel_rfl) rfl)
  (aI (W.heap.size+1) (W.heap.size+1+1) S p pf t W3 (hTW.keep (At.of_below S b3) (AR.refl S W)) hu e1 e2) (Below.refl _ _) rfl
  (fun q=>Hz pf q&&go q)
  (fun pre S' W'=>(∀ y ∈ pre,pfx pf y.1=true)∧J pre S' W'∧Blk W' W.heap.size 69 #[.func (.yield l) #[] #[]]∧Blk W' bp 9 #[.string pf]∧¬S' W.heap.size∧¬S' bp)
  (fun c q S' W'=>c=.exit 0∧(Hz pf q=true→Jx q S' W')∧(Hz pf q=false→J q.dropLast S' W'))
  (fun pre S' A B row hs hg hr=>⟨hs.1,hJ _ _ _ _ _ hs.2.1 hg (fun r e=>⟨by have:=(hr r e).1;omega,(hr r e).2⟩),hs.2.2.1.grown hg (fun e=>by have:=(hr _ e.symm).1;omega),hs.2.2.2.1.grown hg (fun e=>by have:=(hr _ e.symm).1;omega),hs.2.2.2.2⟩)
  (fun c pre S' A B row hs hg hr=>⟨hs.1,fun h=>hJx _ _ _ _ _ (hs.2.1 h) hg (fun r e=>⟨by have:=(hr r e).1;omega,(hr r e).2⟩),fun h=>hJ _ _ _ _ _ (hs.2.2 h) hg (fun r e=>⟨by have:=(hr r e).1;omega,(hr r e).2⟩)⟩)
  (fun pre S' W' hs=>hJb _ _ _ hs.2.1) S
  ⟨fun y hy=>(by cases hy),hJ.below h0 b3,e0,e3,nS,nbp⟩ (fun i _ h=>h)
  (fun x=>{ tmps:=#[.func (.yield l) #[] #[],.pointer (some ⟨bn,0,none⟩),.pointer (some ⟨bp,0,none⟩),.pointer (some ⟨W.heap.size,0,none⟩),.string x.1,.string x.2,.pointer p,.string pf,.func (.func 198) #[] #[.pointer (some ⟨W.heap.size+1,0,none⟩),.pointer (some ⟨W.heap.size+1+1,0,none⟩)],.string x.1,.string x.2,undef,undef,undef,undef,undef,undef,undef,undef,undef,undef,undef],defers:=[] }) ?assign ?body ?done ?stop
 case assign =>
  intro l' k x W' K hK
  gi_wp2
  exact hK
 case body =>
  rintro l' k pre x S' W' ⟨hp,hj,f0,f1,n0,n1⟩ hpre;obtain⟨xk,xv⟩:=x;have g0:W'.cell? ⟨W.heap.size,0,none⟩=some (.func (.yield l) #[] #[]):=f0.cell 0;have g1:W'.cell? ⟨bp,0,none⟩=some (.string pf):=f1.cell 0
  have hx:pfx pf xk=true→(pre++[(xk,xv)]) <+: Oy t.list pf:=fun h=>by
   rw [←Nc hu]
   exact Kb hpre (fun y hy=>by
    simp at hy
    rcases hy with hy|rfl
    ·exact hp y hy
    ·exact h)
  have HP:=qH (fun U=>hasPrefix xk pf U);have HL:Hz pf (pre++[(xk,xv)])=pfx pf xk:=Gf pf pre (xk,xv)
  cases hpx:pfx pf xk with
  | false =>
    rw [hpx] at HP HL
    gi_wp2_with (gi_at_call 173;refine(CallsIn.inRound l' (callsIn_wide.2 (HP.out _))).mono ?_;rintro e w' ⟨rfl,rfl⟩)
    exact⟨by simp only [HL,Bool.false_and],At.refl _ _,S',AR.refl _ _,rfl,fun h=>(by rw [HL] at h;cases h),fun _=>by simpa using hj⟩
  | true =>
    rw [hpx] at HP HL;obtain⟨fn,tmps,assign,body,hy,hR⟩:=hY (k-1) pre (xk,xv) S' W' hj (hx hpx);unfold TS at hR
    cases hg:go (pre++[(xk,xv)]) with
    | true =>
      rw [hg] at hR
      gi_wp2_with (gi_at_call 173;refine(CallsIn.inRound l' (callsIn_wide.2 (HP.out _))).mono ?_;rintro e w' ⟨rfl,rfl⟩)
      refine(IW l' hR).mono ?_;rintro e W4 ⟨rfl,k4,S4,g4,h4,_⟩
      gi_wp2
      exact⟨by simp only [HL,hg,Bool.and_self],k4,S4,g4,(fun y hy=>by
       simp at hy
       rcases hy with hy|rfl
       ·exact hp y hy
       ·exact hpx),h4 trivial,k4.blk f0 n0,k4.blk f1 n1,g4.not f0.lt n0,g4.not f1.lt n1⟩
    | false =>
      rw [hg] at hR
      gi_wp2_with (gi_at_call 173;refine(CallsIn.inRound l' (callsIn_wide.2 (HP.out _))).mono ?_;rintro e w' ⟨rfl,rfl⟩)
      refine(IW l' hR).mono ?_;rintro e W4 ⟨rfl,k4,S4,g4,_,h4⟩
      gi_wp2
      exact⟨by simp only [HL,hg,Bool.and_false],k4,S4,g4,rfl,fun _=>h4 trivial,fun h=>by rw [HL] at h;cases h⟩
 case done =>
  rintro D S' W' hD hs k4 g4 nD ⟨_,hj,_⟩ hK;obtain⟨h1,h2⟩:=(L7 pf go (CV t.list pf) []).1 hs;rw [Nc hu] at h1
  gi_wp2
  refine⟨by simp,.inl ⟨_,_,rfl,run_takeDeferred hK,?_⟩⟩;refine⟨_,results_none rfl _ _ _,⟨_,rfl⟩,JH ((At.of_below S b3).step k4) (by omega) _,S',fun i hi=>(g4 i hi).imp_right (fun h=>by omega),?_⟩;rw [h1];exact JG h2 (hJ _ _ _ _ _ hj (grownBy_putObj' W' _ _) (fun r e=>by cases e;exact⟨by omega,nD⟩))
 case stop =>
  rintro D c q S' W' hD hs k4 g4 nD ⟨rfl,hx1,hx2⟩ hK;have h1:=(L7 pf go (CV t.list pf) []).2 q hs;rw [Nc hu] at h1
  gi_wp2
  refine⟨by simp,.inl ⟨_,_,rfl,run_takeDeferred hK,?_⟩⟩;refine⟨_,results_none rfl _ _ _,⟨_,rfl⟩,JH ((At.of_below S b3).step k4) (by omega) _,S',fun i hi=>(g4 i hi).imp_right (fun h=>by omega),?_⟩
  rcases h1 with⟨h1,h2⟩|⟨h1,h2,h3⟩
  ·exact Ip h2 (hJx _ _ _ _ _ (hx1 h1) (grownBy_putObj' W' _ _) (fun r e=>by cases e;exact⟨by omega,nD⟩))
  ·refine JG h3 ?_
   rw [←h2];exact hJ _ _ _ _ _ (hx2 h1) (grownBy_putObj' W' _ _) (fun r e=>by cases e;exact⟨by omega,nD⟩)
end Go.Proofs.YtkejaepmoabikaaGreatDoor.W
namespace Go.Proofs.YtkejaepmoabikaaGreatDoor.W
open Go.RowKit
open Lib renaming hid → qH
open _root_.Go.Proofs.Tryz renaming prog → qP
set_option maxHeartbeats 1000000
def BW (w:World) (b:Nat) (L:List KV):Prop:=∃ p t,Blk w b 183 #[.pointer p,.int .i64 L.length]∧Av w p t∧t.list=L∧Up L
def Yb (w:World) (b:Nat):Prop:=∃ cs,Blk w b 183 cs
theorem BW.a {w:World} {b:Nat} {L:List KV} (h:BW w b L):Yb w b:=by obtain⟨p,t,hb,_⟩:=h;exact⟨_,hb⟩
theorem BW.lt {w:World} {b:Nat} {L:List KV} (h:BW w b L):b<w.heap.size:=by obtain⟨p,t,hb,_⟩:=h;exact hb.lt
theorem BW.up {w:World} {b:Nat} {L:List KV} (h:BW w b L):Up L:=by obtain⟨p,t,_,_,_,hu⟩:=h;exact hu
theorem CM {w:World} {b:Nat} {t u:TypeId} {cs ds:Array Value} (h:Blk w b t cs) (k:Blk w b u ds):t=u:=by
 unfold Blk at h k;rw [h] at k
 cases k
 rfl
theorem LF {w w':World} {b:Nat} (hb:Yb w b) (h:w.grownBy w' (some b)):Ki w w':=fun g cs hg=>hg.grown h (fun e=>by
 cases e
 obtain⟨ds,hd⟩:=hb;have:=CM hg hd
 revert this
 decide)
theorem BW.below {w w':World} {b:Nat} {L:List KV} (h:BW w b L) (hb:Below w.heap.size w w'):BW w' b L:=by
 obtain⟨p,t,h1,h2,h3⟩:=h;exact⟨p,t,h1.below hb h1.lt,h2.below hb,h3⟩
theorem kR (w:World):Calls qP 68 #[] w fun e w'=>e=.returned (.pointer (some ⟨w.heap.size,0,none⟩))∧BW w' w.heap.size []∧Below w.heap.size w w':=by
 go_enter Tryz.func68,Tryz.ntmps68;go_wp2
 go_ret
 exact⟨rfl,⟨none,.leaf,Blk.new w _ _,rfl,rfl,List.Pairwise.nil⟩,(Below.refl _ _).alloc (Nat.le_refl _) _⟩
theorem kS (b:Nat) (L:List KV) (w:World) (h:BW w b L):Calls qP 138 #[.pointer (some ⟨b,0,none⟩)] w fun e w'=>e=.returned (.int .i64 L.length)∧w'=w:=by
 obtain⟨p,t,hb,_⟩:=h;have c1:w.cell? ⟨b,1,none⟩=some (.int .i64 L.length):=hb.cell 1;go_enter Tryz.func138,Tryz.ntmps138;go_wp2
 go_ret
 exact⟨rfl,rfl⟩
theorem cR (b:Nat) (p:Option Addr) (v:Value) (w:World) (hb:Blk w b 183 #[.pointer p,v]):Calls qP 132 #[.pointer (some ⟨b,0,none⟩)] w fun e w'=>e=.returned (.pointer p)∧w'=w:=by
 have c0:w.cell? ⟨b,0,none⟩=some (.pointer p):=hb.cell 0;go_enter Tryz.func132,Tryz.ntmps132;go_wp2
 go_ret
 exact⟨rfl,rfl⟩
theorem fD (s p:Option Addr) (k:ByteArray) (t:BT) (w:World) (H:Calls qP 132 #[.pointer s] w fun e w'=>e=.returned (.pointer p)∧w'=w) (hT:Av w p t) (hu:Up t.list) :
  Calls qP 84 #[.pointer s,.string k] w fun e w'=>e=.returned (Dl (AD t.list k))∧w'=w:=by
 have H1:=qH H;have H2:=qH (iM k t p w hT hu);clear H hT hu;unfold Dl at *;generalize (AD t.list k).getD ⟨#[]⟩=v at *;generalize (AD t.list k).isSome=c at *;go_enter Tryz.func84,Tryz.ntmps84
 go_wp2_with fail
 refine H1.out.mono ?_;rintro e w' ⟨rfl,rfl⟩
 go_wp2_with fail
 refine H2.out.mono ?_;rintro e w' ⟨rfl,rfl⟩;go_wp2
 go_returns
 exact⟨rfl,rfl⟩
theorem iQ (b:Nat) (k:ByteArray) (L:List KV) (w:World) (h:BW w b L):Calls qP 84 #[.pointer (some ⟨b,0,none⟩),.string k] w fun e w'=>e=.returned (Dl (AD L k))∧w'=w:=by
 obtain⟨p,t,hb,hT,rfl,hu⟩:=h;exact fD _ p k t w (cR b p _ w hb) hT hu
theorem kT (b:Nat) (k v:ByteArray) (L:List KV) (w:World) (h:BW w b L) (hz:L.length+1<4611686018427387904) :
  Calls qP 180 #[.pointer (some ⟨b,0,none⟩),.string k,.string v] w fun e w'=>e=.returned (.bool (!(AD L k).isSome))∧BW w' b (Az L k v)∧w.grownBy w' (some b):=by
 obtain⟨p,t,hb,hT,rfl,hu⟩:=h;have H1:=qH (iM k t p w hT hu);have H2:=qH (iL (k,v) t p w hT hu hz);have HB:=qH hb;have hsz:=Uz hu k v;have HU:=qH (FP (k:=k) (v:=v) hu);have c0:w.cell? ⟨b,0,none⟩=some (.pointer p):=hb.cell 0;clear hb hT hu;unfold Dl at *;generalize (AD t.list k).getD ⟨#[]⟩=r at *;have hw:IntKind.i64.wrap ((t.list.length:Int)+1)=(t.list.length:Int)+1:=IntWalk.i64_in _ (by omega)
 cases hc:(AD t.list k).isSome with
 | true =>
   rw [hc] at H1 hsz;simp only [if_true] at hsz;go_enter Tryz.func180,Tryz.ntmps180
   go_wp2_with fail
   refine H1.out.mono ?_;rintro e w' ⟨rfl,rfl⟩
   go_wp2_with fail
   refine H2.out.mono ?_;rintro e w1 ⟨p',t',rfl,hT',hL',bel⟩;have hb1:=HB.out.below bel HB.out.lt;have f0:w1.frozen? ⟨b,0,none⟩=false:=hb1.frozen 0;have d0:w1.cell? ⟨b,0,none⟩=some (.pointer p):=hb1.cell 0;go_wp2
   go_ret
   have g1:w'.grownBy (w1.setCell ⟨b,0,none⟩ (.pointer p')) (some b):=BO (DS (BJ w' _) bel (Nat.le_refl _)) _ _;have hb2:=hb1.set_ 0 (.pointer p');refine⟨rfl,⟨p',t',?_,hT'.kept (LF ⟨_,hb1⟩ (BO (BJ w1 _) _ _)),hL',HU.out⟩,g1⟩;rw [hsz];exact hb2
 | false =>
   rw [hc] at H1 hsz;simp only [Bool.false_eq_true,if_false] at hsz;go_enter Tryz.func180,Tryz.ntmps180
   go_wp2_with fail
   refine H1.out.mono ?_;rintro e w' ⟨rfl,rfl⟩
   go_wp2_with fail
   refine H2.out.mono ?_;rintro e w1 ⟨p',t',rfl,hT',hL',bel⟩;have hb1:=HB.out.below bel HB.out.lt;have f0:w1.frozen? ⟨b,0,none⟩=false:=hb1.frozen 0;have d0:w1.cell? ⟨b,0,none⟩=some (.pointer p):=hb1.cell 0;have hb2:=hb1.set_ 0 (.pointer p');have f1:(w1.setCell ⟨b,0,none⟩ (.pointer p')).frozen? ⟨b,1,none⟩=false:=hb2.frozen 1;have d1:(w1.setCell ⟨b,0,none⟩ (.pointer p')).cell? ⟨b,1,none⟩=some (.int .i64 t.list.length):=hb2.cell 1;go_wp2
   go_ret
   have g1:w'.grownBy ((w1.setCell ⟨b,0,none⟩ (.pointer p')).setCell ⟨b,1,none⟩ (.int .i64 ((t.list.length:Int)+1))) (some b):=BO (BO (DS (BJ w' _) bel (Nat.le_refl _)) _ _) _ _;have hb3:=hb2.set_ 1 (.int .i64 ((t.list.length:Int)+1));refine⟨rfl,⟨p',t',?_,hT'.kept (LF ⟨_,hb1⟩ (BO (BO (BJ w1 _) _ _) _ _)),hL',HU.out⟩,g1⟩;rw [hsz];exact hb3
theorem iR (s p:Option Addr) (pf:ByteArray) (w:World) (H:∀ W,Aa w W→Calls qP 132 #[.pointer s] W fun e w'=>e=.returned (.pointer p)∧w'=W) :
  Calls qP 139 #[.pointer s,.string pf] w fun e w'=>e=.returned (.func (.func 171) #[] #[.pointer (some ⟨w.heap.size+1,0,none⟩),.pointer (some ⟨w.heap.size,0,none⟩)])∧w'=(w.alloc (.cells #[.string pf] 9)).alloc (.cells #[.pointer p] 181):=by
 have H1:=qH (H (w.alloc (.cells #[.string pf] 9)) (Ad ((Below.refl _ _).alloc (Nat.le_refl _) _)));clear H;go_enter Tryz.func139,Tryz.ntmps139
 go_wp2_with fail
 refine H1.out.mono ?_;rintro e w' ⟨rfl,rfl⟩;go_wp2
 go_ret
 exact⟨rfl,rfl⟩
def fE (L:List KV) (w:World) (e:Ending) (w':World):Prop:=∃ lb,e=.returned (.func (.func 171) #[] lb)∧Below w.heap.size w w' ∧
 ∀(o:Nat→Prop),(∀ i,o i→w'.heap.size≤i∨∃ u cs,Blk w i u cs∧u≠238)→LD qP 171 lb L o w'
theorem aJ (s p:Option Addr) (pf:ByteArray) (t:BT) (w:World) (H:∀ W,Aa w W→Calls qP 132 #[.pointer s] W fun e w'=>e=.returned (.pointer p)∧w'=W) (hT:Av w p t) (hu:Up t.list) :
  Calls qP 139 #[.pointer s,.string pf] w (fE (Oy t.list pf) w):=by
 refine(iR s p pf w H).mono fun e w' ⟨he,hw⟩=>⟨_,he,?_,fun o ho=>?_⟩
 ·rw [hw];exact((Below.refl _ _).alloc (Nat.le_refl _) _).alloc (by simp) _
 ·have hB:Below w.heap.size w w':=by rw [hw];exact((Below.refl _ _).alloc (Nat.le_refl _) _).alloc (by simp) _
  have h0:Blk w' w.heap.size 9 #[.string pf]:=by rw [hw];exact(Blk.new w _ _).alloc _
  have h1:w'.cell? ⟨w.heap.size+1,0,none⟩=some (.pointer p):=by
   have:=Blk.new (w.alloc (.cells #[.string pf] 9)) 181 #[.pointer p];rw [World.size_alloc,←hw] at this;exact this.cell 0
  have n0:¬o w.heap.size:=fun h=>by
   rcases ho _ h with h|⟨u,cs,hb,_⟩
   ·have:=h0.lt;omega
   ·have:=hb.lt;omega
  refine fC _ _ o p pf t w' (Av.off (fun g cs hg h=>?_) (hT.below hB)) hu h1 h0 n0
  rcases ho _ h with h|⟨u,ds,hb,hne⟩
  ·have:=hg.lt;omega
  ·exact hne (CM (hb.below hB hb.lt) hg)
theorem kU (b:Nat) (pf:ByteArray) (L:List KV) (w:World) (h:BW w b L):Calls qP 139 #[.pointer (some ⟨b,0,none⟩),.string pf] w (fE (Oy L pf) w):=by
 obtain⟨p,t,hb,hT,rfl,hu⟩:=h;exact aJ _ p pf t w (fun W hs=>cR b p _ W (hb.below hs.below hb.lt)) hT hu
end Go.Proofs.YtkejaepmoabikaaGreatDoor.W
namespace Go.Proofs.YtkejaepmoabikaaGreatDoor.W
theorem Ew (x:KV) (l:List KV) (k v:ByteArray):Az (x::l) k v=if kc k x.1=-1 then (k,v)::x::l else if kc k x.1=0 then (k,v)::l else x::Az l k v:=by
 simp only [Az]
theorem Vp {l:List KV} (hu:Up l) {k v o:ByteArray} (h:AD l k=some o):Az (Az l k v) k o=l:=by
 induction l with
 | nil=>cases h
 | cons x l ih =>
   have hu1:Up l:=(List.pairwise_cons.1 hu).2;have hx:∀ y ∈ l,kc x.1 y.1=-1:=fun y hy=>(List.pairwise_cons.1 hu).1 y hy
   rcases De k x.1 with c|c|c
   ·have:AD (x::l) k=none:=Et (fun y hy=>by
     rcases List.mem_cons.1 hy with rfl|hy
     ·exact(Ek c).symm
     ·exact(Ek (Df c (hx y hy))).symm)
    rw [this] at h;cases h
   ·have e:=DV c
    subst e;rw [Dy rfl] at h
    cases h
    rw [Ew,if_neg (by rw [c];decide),if_pos c,Ew,if_neg (by rw [DU];decide),if_pos (DU _)]
   ·rw [Dx (fun e=>by rw [e,DU] at c;cases c)] at h
    rw [Ew,if_neg (by rw [c];decide),if_neg (by rw [c];decide),Ew,if_neg (by rw [c];decide),if_neg (by rw [c];decide),ih hu1 h]
theorem Vq {l:List KV} (hu:Up l) {k v:ByteArray} (h:AD l k=none):Jo (Az l k v) k=l:=by
 induction l with
 | nil=>simp [Az,Jo]
 | cons x l ih =>
   have hu1:Up l:=(List.pairwise_cons.1 hu).2
   have hne:x.1≠k:=fun e=>by rw [Dy e] at h;cases h
   have h1:AD l k=none:=by rwa [Dx hne] at h
   rcases De k x.1 with c|c|c
   ·rw [Ew,if_pos c,IE rfl,OC h]
   ·exact absurd (DV c).symm hne
   ·rw [Ew,if_neg (by rw [c];decide),if_neg (by rw [c];decide),ID hne,ih hu1 h1]
structure CG where
 k:ByteArray
 v:ByteArray
 p:Bool
def was (l:List KV) (k:ByteArray):CG:=⟨k,(AD l k).getD ⟨#[]⟩,(AD l k).isSome⟩
def rest (u:CG) (l:List KV):List KV:=if u.p then Az l u.k u.v else Jo l u.k
def GP (l:List KV) (us:List CG):List KV:=us.foldr rest l
theorem Yc {l:List KV} (hu:Up l) (k v:ByteArray):rest (was l k) (Az l k v)=l:=by
 unfold rest was
 cases h:AD l k with
 | none=>exact Vq hu h
 | some o=>exact Vp hu h
theorem LZ (l:List KV) (a b:List CG):GP l (a++b)=GP (GP l b) a:=List.foldr_append
def Fx (l:List KV) (us:List CG) (ns:List Nat):List (List KV):=ns.map fun n=>GP l (us.drop n)
def Gp (m:Nat) (ns:List Nat):Prop:=ns.Pairwise (·≤·)∧∀ n ∈ ns,n≤m
theorem Qb (l:List KV) (us:List CG) (ns:List Nat):(Fx l us ns).length=ns.length:=by simp [Fx]
theorem Qc {l l':List KV} {us:List CG} {u:CG} {ns:List Nat} (h:Gp us.length ns) (hr:rest u l'=l):Fx l' (us++[u]) ns=Fx l us ns:=by
 unfold Fx;refine List.map_congr_left fun n hn=>?_;rw [List.drop_append_of_le_length (h.2 n hn),LZ]
 show GP (rest u l') _=_
 rw [hr]
theorem RR (l:List KV) (us:List CG) (ns:List Nat):Fx l us (ns++[us.length])=Fx l us ns++[l]:=by simp [Fx,GP]
theorem Qd {us:List CG} {ns:List Nat} (h:Gp us.length ns):Gp us.length (ns++[us.length]):=by
 refine⟨List.pairwise_append.2 ⟨h.1,by simp,fun a ha b hb=>by simp at hb;subst hb;exact h.2 a ha⟩,fun n hn=>?_⟩;simp at hn
 rcases hn with hn|rfl
 ·exact h.2 n hn
 ·exact Nat.le_refl _
theorem LG {m m':Nat} {ns:List Nat} (h:Gp m ns) (hm:m≤m'):Gp m' ns:=⟨h.1,fun n hn=>Nat.le_trans (h.2 n hn) hm⟩
theorem RT {m n:Nat} {ns:List Nat} (h:Gp m (ns++[n])):Gp n ns∧n≤m :=
 ⟨⟨(List.pairwise_append.1 h.1).1,fun a ha=>(List.pairwise_append.1 h.1).2.2 a ha n (by simp)⟩,h.2 n (by simp)⟩
theorem Vr (l:List KV) (us:List CG) (ns:List Nat) (n:Nat):Fx l us (ns++[n])=Fx l us ns++[GP l (us.drop n)]:=by simp [Fx]
end Go.Proofs.YtkejaepmoabikaaGreatDoor.W
namespace Go.Proofs.YtkejaepmoabikaaGreatDoor.W
open Go.RowKit
open Lib renaming hid → qH
open _root_.Go.Proofs.Tryz renaming prog → qP
set_option maxHeartbeats 2000000
section
variable {w w':World} {base:Nat} {e:TypeId} {size:Nat} {v:Value} {n:Nat} {xs:List Value}
theorem En (h:w.ownsRow base e size v n xs) {g:Nat} (hg:v.ownBlock=some g):∃ cs,Blk w g e cs:=by
 rcases h.2 with⟨rfl,_⟩|⟨g',cap,cur,rfl,_,hb,_⟩
 ·cases hg
 ·cases hg;exact⟨cur,hb⟩
theorem Cw (h:w.ownsRow base e size v n xs) (hb:∀ g,v.ownBlock=some g→w'.heap[g]?=w.heap[g]?):w'.ownsRow base e size v n xs:=by
 rcases h with⟨h1,⟨rfl,h2⟩|⟨g,cap,cur,rfl,h2,h3,h4⟩⟩
 ·exact⟨h1,.inl ⟨rfl,h2⟩⟩
 ·exact⟨h1,.inr ⟨g,cap,cur,rfl,h2,(hb g rfl).trans h3,h4⟩⟩
theorem Du (h:w.ownsRow base e size v n xs):∃ A cap,v=.slice A n cap∧n≤cap:=by
 rcases h.2 with⟨rfl,rfl⟩|⟨g,cap,cur,rfl,_,_,hc,_⟩
 ·exact⟨none,0,rfl,Nat.le_refl _⟩
 ·exact⟨_,cap,rfl,hc⟩
theorem Yd (h:w.ownsRow base e 1 v n xs) {k:Nat} (hk:k≤n) (h0:0<n):∃ g cap,v=.slice (some ⟨g,0,none⟩) n cap∧w.ownsRow base e 1 (.slice (some ⟨g,0,none⟩) k cap) k (xs.take k)∧n≤cap:=by
 rcases h with⟨h1,⟨rfl,h2⟩|⟨g,cap,cur,rfl,h2,h3,h4,h5,h6,h7⟩⟩
 ·omega
 ·refine⟨g,cap,rfl,⟨by rw [List.length_take];omega,.inr ⟨g,cap,cur,rfl,h2,h3,by omega,h5,h6,?_⟩⟩,h4⟩
  rw [←h7,Nat.mul_one,Nat.mul_one,List.take_take,Nat.min_eq_left hk]
end
def cS (u:CG):Value:=.func (.func 203) #[.agg #[.string u.k,.string u.v,.bool u.p]] #[]
def GQ (us:List CG):List Value:=us.map cS
def Eo (ns:List Nat):List Value:=ns.map fun n:Nat=>Value.int .i64 (n:Int)
structure JAt (w:World) (j b:Nat) (u s:Value) (L:List KV) (us:List CG) (ns:List Nat):Prop where
 blk:Blk w j 133 #[.pointer (some ⟨b,0,none⟩),u,s]
 store:BW w b L
 undos:w.ownsRow 0 263 1 u us.length (GQ us)
 starts:w.ownsRow 0 3 1 s ns.length (Eo ns)
def Ep (j b:Nat) (u s:Value):Nat→Prop:=fun i=>i=j∨i=b∨u.ownBlock=some i∨s.ownBlock=some i
section
variable {w w':World} {j b:Nat} {u s u' s':Value} {L:List KV} {us:List CG} {ns:List Nat}
theorem JAt.tag (h:JAt w j b u s L us ns) {i:Nat} (hi:Ep j b u s i):∃ t cs,Blk w i t cs∧t≠238:=by
 rcases hi with rfl|rfl|hi|hi
 ·exact⟨_,_,h.blk,by decide⟩
 ·obtain⟨cs,hc⟩:=h.store.a
  exact⟨_,cs,hc,by decide⟩
 ·obtain⟨cs,hc⟩:=En h.undos hi
  exact⟨_,cs,hc,by decide⟩
 ·obtain⟨cs,hc⟩:=En h.starts hi
  exact⟨_,cs,hc,by decide⟩
theorem JAt.bound (h:JAt w j b u s L us ns) {i:Nat} (hi:Ep j b u s i):i<w.heap.size:=by
 obtain⟨t,cs,hb,_⟩:=h.tag hi;exact hb.lt
theorem JAt.kept (h:JAt w j b u s L us ns) (k:At (Ep j b u s) w w'):Ki w w':=fun g cs hg=>by
 refine k.blk hg fun hi=>?_;obtain⟨t,ds,hb,hne⟩:=h.tag hi;exact hne (CM hb hg)
theorem JAt.moved (h:JAt w j b u s L us ns) (hk:Ki w w') (hb:∀ i,Ep j b u s i→w'.heap[i]?=w.heap[i]?):JAt w' j b u s L us ns:=by
 refine⟨(hb j (.inl rfl)).trans h.blk,?_,Cw h.undos (fun g hg=>hb g (.inr (.inr (.inl hg)))),Cw h.starts (fun g hg=>hb g (.inr (.inr (.inr hg))))⟩;obtain⟨p,t,h1,h2,h3⟩:=h.store;exact⟨p,t,(hb b (.inr (.inl rfl))).trans h1,h2.kept hk,h3⟩
theorem JAt.below (h:JAt w j b u s L us ns) (hb:Below w.heap.size w w'):JAt w' j b u s L us ns :=
 h.moved (fun _ _ hg=>hg.below hb hg.lt) (fun i hi=>hb.block i (h.bound hi))
theorem JAt.nj (h:JAt w j b u s L us ns):j≠b∧u.ownBlock≠some j∧s.ownBlock≠some j∧u.ownBlock≠some b∧s.ownBlock≠some b:=by
 obtain⟨cs,hc⟩:=h.store.a;refine⟨fun e=>?_,fun e=>?_,fun e=>?_,fun e=>?_,fun e=>?_⟩
 ·subst e;have:=CM h.blk hc;revert this;decide
 ·obtain⟨ds,hd⟩:=En h.undos e;have:=CM h.blk hd;revert this;decide
 ·obtain⟨ds,hd⟩:=En h.starts e;have:=CM h.blk hd;revert this;decide
 ·obtain⟨ds,hd⟩:=En h.undos e;have:=CM hc hd;revert this;decide
 ·obtain⟨ds,hd⟩:=En h.starts e;have:=CM hc hd;revert this;decide
theorem JAt.apart (h:JAt w j b u s L us ns) {g:Nat} (h1:u.ownBlock=some g) (h2:s.ownBlock=some g):False:=by
 obtain⟨cs,hc⟩:=En h.undos h1;obtain⟨ds,hd⟩:=En h.starts h2;have:=CM hc hd
 revert this
 decide
end
def DJ (w:World) (j b:Nat) (u s:Value) (L:List KV) (us:List CG) (ns:List Nat) (w':World):Prop :=
 ∃ u' s',JAt w' j b u' s' L us ns∧At (Ep j b u s) w w'∧AR (Ep j b u s) (Ep j b u' s') w
section
variable {w w1 w2:World} {j b:Nat} {u s u' s':Value} {L L':List KV} {us us':List CG} {ns ns':List Nat}
theorem DJ.same (h:JAt w j b u s L us ns):DJ w j b u s L us ns w:=⟨u,s,h,At.refl _ _,AR.refl _ _⟩
theorem JAt.stored (h:JAt w j b u s L us ns) (hs:BW w1 b L') (hg:w.grownBy w1 (some b)):DJ w j b u s L' us ns w1:=by
 obtain⟨n1,n2,n3,n4,n5⟩:=h.nj;refine⟨u,s,⟨h.blk.grown hg (fun e=>n1 (by cases e;rfl)),hs,Cw h.undos (fun g e=>?_),Cw h.starts (fun g e=>?_)⟩,At.of_grown hg (fun r e=>by cases e;exact .inl (.inr (.inl rfl))),AR.refl _ _⟩
 ·exact hg.block g (h.bound (.inr (.inr (.inl e)))) (fun e2=>n4 (by rw [e,e2]))
 ·exact hg.block g (h.bound (.inr (.inr (.inr e)))) (fun e2=>n5 (by rw [e,e2]))
theorem DJ.next (h:At (Ep j b u s) w w1) (g:AR (Ep j b u s) (Ep j b u' s') w) (k:DJ w1 j b u' s' L us ns w2):DJ w j b u s L us ns w2:=by
 obtain⟨u2,s2,a,k2,g2⟩:=k;exact⟨u2,s2,a,h.trans g k2,g.trans g2 h.size⟩
end
theorem Ye (b off j:Nat):(⟨b,off,none⟩:Addr).add j=⟨b,off+j,none⟩:=by unfold Addr.add;split<;>simp_all
def Vls (w:World) (v:Value) (xs:List Value):Prop :=
 ∃ A cap,v=.slice A xs.length cap∧xs.length≤cap∧∀ i (h:i<xs.length),∃ b off,A=some ⟨b,off,none⟩∧w.cell? ⟨b,off+i,none⟩=some xs[i]
section
variable {w w':World} {v:Value} {xs:List Value}
theorem Vls.moved (h:Vls w v xs) (hb:∀ g,v.ownBlock=some g→w'.heap[g]?=w.heap[g]?):Vls w' v xs:=by
 obtain⟨A,cap,rfl,hl,hc⟩:=h;refine⟨A,cap,rfl,hl,fun i hi=>?_⟩;obtain⟨b,off,rfl,h1⟩:=hc i hi;exact⟨b,off,rfl,(World.cell?_of_block (w:=w) (hb b rfl)).trans h1⟩
theorem Vls.below (h:Vls w v xs) (hb:Below w.heap.size w w'):Vls w' v xs:=by
 obtain⟨A,cap,rfl,hl,hc⟩:=h;refine⟨A,cap,rfl,hl,fun i hi=>?_⟩;obtain⟨b,off,rfl,h1⟩:=hc i hi;exact⟨b,off,rfl,(Ad hb).cell h1⟩
theorem Vls.nil (w:World) (A:Option Addr) (cap:Nat):Vls w (.slice A 0 cap) []:=⟨A,cap,rfl,Nat.zero_le _,fun i h=>absurd h (by simp)⟩
theorem Vls.of_own {base:Nat} {e:TypeId} (h:w.ownsRow base e 1 v xs.length xs):Vls w v xs:=by
 rcases h.2 with⟨rfl,hn⟩|⟨g,cap,cur,rfl,hb,hg,hc,_⟩
 ·obtain rfl:xs=[]:=List.eq_nil_of_length_eq_zero hn
  exact Vls.nil _ _ _
 ·refine⟨some ⟨g,0,none⟩,cap,rfl,hc,fun i hi=>⟨g,0,rfl,?_⟩⟩
  have:=h.cells (g:=g) rfl i xs[i] (by simp [hi])
  rwa [Ye] at this
theorem Vls.cells {b off cap:Nat} (h:Vls w (.slice (some ⟨b,off,none⟩) xs.length cap) xs):∀ j u,xs[j]?=some u→w.cell? ((⟨b,off,none⟩:Addr).add j)=some u:=by
 intro j u hj;obtain⟨A,cap',e,_,hc⟩:=h
 cases e
 obtain⟨hlt,rfl⟩:=List.getElem?_eq_some_iff.1 hj;obtain⟨b',off',e,h1⟩:=hc j hlt
 cases e
 rw [Ye];exact h1
end
section
variable {P:Program} {w:World} {A:Option Addr} {cap:Nat} {xs:List Value} {T e:TypeId} {i0:TypeInfo}
theorem Yf (hT:P.underlying T=some (.slice (P.elem T))) (hE:P.elem T=e) (hi0:P.info? e=some i0) (hC:P.cellsOf e=1) (A:Option Addr) (n cap i:Nat) (hi:i≤cap) :
  ∀ W,(Instr.slice T (.slice A n cap) none (some (.int .i64 i)) none).run P W=.ok (.slice A i cap) W:=fun W=>by
 have hr:=run_slice_h (P:=P) (w:=W) T A n cap hT .i64 i (by omega) (by omega);rw [hE,run_sizeOf W hi0,hC] at hr;rw [hr]
 cases A<;>simp [Result.andThen,sliced]
 rename_i a
 rcases a with⟨b,off,x⟩
 cases x<;>simp [Addr.add]
end
theorem Blk.adg {W w1:World} {g:Nat} {t:TypeId} {cs:Array Value} {ob:Obj} {row:Option Nat} (h:Blk W g t cs) (hg:((W.alloc ob).drew).grownBy w1 row) (hn:some g≠row):Blk w1 g t cs:=Blk.grown (w:=(W.alloc ob).drew) (h.alloc ob) hg hn
theorem fF:(qP.info? 263).map (fun i=>(i.zero,i.size,i.bytes))=some (some .nilFunc,1,8):=by kernel_rfl
theorem TT:(qP.info? 3).map (fun i=>(i.zero,i.size,i.bytes))=some (some (.int .i64 0),1,8):=by kernel_rfl
theorem fG (j b:Nat) (u s:Value) (L:List KV) (us:List CG) (k:ByteArray) (w:World) (h:JAt w j b u s L us []) :
  Calls qP 179 #[.pointer (some ⟨j,0,none⟩),.string k] w fun e w'=>(∃ x,e=.returned x)∧w'=w:=by
 obtain⟨A,cap,rfl,hcap⟩:=Du h.starts;have c2:w.cell? ⟨j,2,none⟩=some (.slice A 0 cap):=h.blk.cell 2;go_enter Tryz.func179,Tryz.ntmps179;go_wp2
 go_returns
 exact⟨⟨_,rfl⟩,rfl⟩
theorem RV (j b:Nat) (u u' s:Value) (w:World) (h:u.ownBlock=u'.ownBlock∨∃ g,u'.ownBlock=some g∧w.heap.size≤g):AR (Ep j b u s) (Ep j b u' s) w:=fun i hi=>by
 rcases hi with hi|hi|hi|hi
 ·exact .inl (.inl hi)
 ·exact .inl (.inr (.inl hi))
 ·rcases h with h|⟨g,h,hg⟩
  ·exact .inl (.inr (.inr (.inl (h.trans hi))))
  ·rw [h] at hi;cases hi;exact .inr hg
 ·exact .inl (.inr (.inr (.inr hi)))
theorem Qe (j b:Nat) (u s s':Value) (w:World) (h:s.ownBlock=s'.ownBlock∨∃ g,s'.ownBlock=some g∧w.heap.size≤g):AR (Ep j b u s) (Ep j b u s') w:=fun i hi=>by
 rcases hi with hi|hi|hi|hi
 ·exact .inl (.inl hi)
 ·exact .inl (.inr (.inl hi))
 ·exact .inl (.inr (.inr (.inl hi)))
 ·rcases h with h|⟨g,h,hg⟩
  ·exact .inl (.inr (.inr (.inr (h.trans hi))))
  ·rw [h] at hi;cases hi;exact .inr hg
theorem JAt.pushed {w w1 w2:World} {j b:Nat} {u u' s:Value} {L:List KV} {us us':List CG} {ns:List Nat} (h:JAt w j b u s L us ns) (hb:Below w.heap.size w w1) (gr:w1.grownBy w2 u.ownBlock) (own:w2.ownsRow 0 263 1 u' us'.length (GQ us'))
  (at1:u.ownBlock=u'.ownBlock∨∃ g,u'.ownBlock=some g∧w.heap.size≤g):DJ w j b u s L us' ns (w2.setCell ⟨j,1,none⟩ u'):=by
 obtain⟨n1,n2,n3,n4,n5⟩:=h.nj;have h1:=h.below hb;have hj1:Blk w2 j 133 #[.pointer (some ⟨b,0,none⟩),u,s]:=h1.blk.grown gr (fun e=>n2 e.symm);have hjs:=h.blk.lt
 have nj':u'.ownBlock≠some j:=fun e=>by
  rcases at1 with a|⟨g,a,hg⟩
  ·exact n2 (a.trans e)
  ·rw [a] at e;cases e;omega
 have keep:At (Ep j b u s) w (w2.setCell ⟨j,1,none⟩ u'):=by
  refine(At.of_below _ hb).step ((At.of_grown gr (fun r e=>.inl (.inr (.inr (.inl e))))).step (At.of_grown (BO (BJ w2 (some j)) 1 u') (fun r e=>?_)))
  cases e
  exact .inl (.inl rfl)
 have blocks:∀ i,i<w.heap.size→i≠j→u.ownBlock≠some i→(w2.setCell ⟨j,1,none⟩ u').heap[i]?=w.heap[i]?:=fun i hi h2 h3 =>
  (Below.heap_setCell w2 ⟨j,1,none⟩ u' i h2).trans ((gr.block i (Nat.lt_of_lt_of_le hi hb.size) (fun e=>h3 e.symm)).trans (hb.block i hi))
 refine⟨u',s,⟨hj1.set_ 1 u',?_,Cw own (fun g e=>?_),Cw h.starts (fun g e=>?_)⟩,keep,RV j b u u' s w at1⟩
 ·obtain⟨p,t,h2,h3,h4⟩:=h.store
  exact⟨p,t,(blocks b h2.lt n1.symm n4).trans h2,h3.kept (h.kept keep),h4⟩
 ·exact Below.heap_setCell w2 ⟨j,1,none⟩ u' g (fun e2=>nj' (by rw [e];exact congrArg some e2))
 ·exact blocks g (h.bound (.inr (.inr (.inr e)))) (fun e2=>n3 (by rw [e,e2])) (fun e2=>h.apart e2 e)
theorem aK (j b:Nat) (u s:Value) (L:List KV) (us:List CG) (ns:List Nat) (k:ByteArray) (w:World) (h:JAt w j b u s L us ns) (h0:0<ns.length) (hz:us.length+1≤1000000000) :
  Calls qP 179 #[.pointer (some ⟨j,0,none⟩),.string k] w fun e w'=>(∃ x,e=.returned x)∧DJ w j b u s L (us++[was L k]) ns w':=by
 have H1:=qH (iQ b k L w h.store);have HJ:=qH h;obtain⟨A,cap,rfl,hcap⟩:=Du h.starts;obtain⟨A1,cap1,rfl,hcap1⟩:=Du h.undos;have c0:w.cell? ⟨j,0,none⟩=some (.pointer (some ⟨b,0,none⟩)):=h.blk.cell 0;have c1:w.cell? ⟨j,1,none⟩=some (.slice A1 us.length cap1):=h.blk.cell 1;have c2:w.cell? ⟨j,2,none⟩=some (.slice A ns.length cap):=h.blk.cell 2;have f1:w.frozen? ⟨j,1,none⟩=false:=h.blk.frozen 1
 have hne:((ns.length:Int)==0)=false:=by rw [beq_eq_false_iff_ne];omega
 have hjl:=h.blk.lt;have hu:was L k=⟨k,(AD L k).getD ⟨#[]⟩,(AD L k).isSome⟩:=rfl;obtain⟨x,hx⟩:∃ x,x=was L k:=⟨_,rfl⟩;rw [←hx] at hu ⊢;clear hx h;unfold Dl at *;generalize (AD L k).getD ⟨#[]⟩=v at *;generalize (AD L k).isSome=c at *;obtain⟨i0,hi,hz0,hz1,hz2⟩:=info_parts fF;go_enter Tryz.func179,Tryz.ntmps179
 go_wp2_with fail
 refine H1.out.mono ?_;rintro e w' ⟨rfl,rfl⟩;go_wp2;have HU:=qH HJ.out.undos;obtain⟨n1,n2,n3,n4,n5⟩:=HJ.out.nj;have HN:=qH n2;have HLO:=qH (fun g (e:(Value.slice A1 us.length cap1).ownBlock=some g)=>(HJ.out.undos.lt g e).2);clear n1 n2 n3 n4 n5;have bk:Blk (w'.alloc (.cells #[.string k,.string v,.bool c] 276)) w'.heap.size 276 #[.string k,.string v,.bool c]:=Blk.new _ _ _;have B1:Below w'.heap.size w' (w'.alloc (.cells #[.string k,.string v,.bool c] 276)):=(Below.refl _ _).alloc (Nat.le_refl _) _
 have z1:(w'.alloc (.cells #[.string k,.string v,.bool c] 276)).heap.size=w'.heap.size+1:=by simp
 generalize w'.alloc (.cells #[.string k,.string v,.bool c] 276)=W at *
 replace z1:=qH z1
 have d1:=(Ad B1).cell c1;have g1:W.frozen? ⟨j,1,none⟩=false:=(HJ.out.below B1).blk.frozen 1;have e0:W.cell? ⟨w'.heap.size,0,none⟩=some (.string k):=bk.cell 0;have e1:W.cell? ⟨w'.heap.size,1,none⟩=some (.string v):=bk.cell 1;have e2:W.cell? ⟨w'.heap.size,2,none⟩=some (.bool c):=bk.cell 2;have HO:=qH (HJ.out.below B1).undos;have HB:=qH (HJ.out.below B1).blk;have d1a:∀ ob,(W.alloc ob).cell? ⟨j,1,none⟩=some (.slice A1 us.length cap1):=fun ob=>(HB.out.alloc ob).cell 1;clear c0 c1 c2 f1 H1 hne HU
 go_region_law ((refine step_append_lies _ (by rfl) _ _ _ (by rfl) 0 263 i0 _ 1 8 Tryz.underlying130 hi hz0 hz1 hz2 rfl (by omega) (.slice A1 us.length cap1) us.length (GQ us) (by rfl) ((HO.out.alloc _).drew) ⟨W.heap.size,0,none⟩ 1 1 [.func (.func 203) #[.agg #[.string k,.string v,.bool c]] #[]] (by rfl) (by rfl) (World.news_of_block (cs:=#[.func (.func 203) #[.agg #[.string k,.string v,.bool c]] #[]]) (t:=263) (fr:=(0,0)) (heap_alloc_new W _)) (by simp [Value.oneCell']) (by omega) (by unfold maxLen;omega) (by omega) (by simp) (W.heap.size+1) (by simp) ?_;intro gg cap2 w1 hown1 hgrow hat hlt';have bj:=qH (HB.out.adg hgrow (fun e=>HN.out e.symm));have p1:w1.cell? ⟨j,1,none⟩=some (.slice A1 us.length cap1):=bj.out.cell 1;have q1:w1.frozen? ⟨j,1,none⟩=false:=bj.out.frozen 1))
 all_goals go_wp2
 all_goals go_returns
 all_goals refine⟨⟨_,rfl⟩,HJ.out.pushed (w1:=(W.alloc _).drew) (us':=us++[x]) ((B1.alloc (by have:=z1.out;omega) _).drew) hgrow (by rw [hu];simpa [GQ,cS] using hown1) ?_⟩
 all_goals
  rcases hat with h|h
  ·exact .inl h
  ·exact .inr ⟨gg,rfl,by have:=z1.out;omega⟩
theorem cT (j b:Nat) (u s:Value) (L:List KV) (us:List CG) (ns:List Nat) (w:World) (h:JAt w j b u s L us ns):Calls qP 83 #[.pointer (some ⟨j,0,none⟩)] w fun e w'=>e=.returned (.pointer (some ⟨b,0,none⟩))∧w'=w:=by
 have c0:w.cell? ⟨j,0,none⟩=some (.pointer (some ⟨b,0,none⟩)):=h.blk.cell 0;go_enter Tryz.func83,Tryz.ntmps83;go_wp2
 go_ret
 exact⟨rfl,rfl⟩
end Go.Proofs.YtkejaepmoabikaaGreatDoor.W
namespace Go.Proofs.YtkejaepmoabikaaGreatDoor.W
open Go.RowKit Go.Shelf
open Lib renaming hid → qH
open _root_.Go.Proofs.Tryz renaming prog → qP
set_option maxHeartbeats 2000000
set_option maxRecDepth 100000
attribute [local go_sem] Oper.semAt_some Hk DQ
structure Fk (base B:Nat) (T:TypeId) (l:List KV) (S:Nat→Prop) (W:World) (v:Value):Prop where
 box:Blk W B T #[v]
 own:W.ownsRow base 36 2 v l.length (AH l)
 low:base≤B
 set:∀ i,S i↔i=B∨v.ownBlock=some i
section
variable {base B:Nat} {T:TypeId} {l:List KV} {S:Nat→Prop} {W W':World} {v:Value}
theorem Fk.grown {row:Option Nat} (h:Fk base B T l S W v) (hg:W.grownBy W' row) (hr:∀ r,row=some r→¬S r):Fk base B T l S W' v :=
 ⟨h.box.grown hg (fun e=>hr B e.symm ((h.set B).2 (.inl rfl))),h.own.kept hg (by
  cases hv:v.ownBlock with
  | none=>exact .inl rfl
  | some g=>exact .inr (fun e=>hr g e.symm ((h.set g).2 (.inr hv)))),h.low,h.set⟩
theorem Fk.bound (h:Fk base B T l S W v) (i:Nat) (hi:S i):i<W.heap.size:=by
 rcases(h.set i).1 hi with rfl|hi
 ·exact h.box.lt
 ·exact(h.own.lt i hi).2
end
def RZ (base B:Nat) (T:TypeId):Inv:=fun pre S W=>∃ v,Fk base B T pre S W v
theorem Sa (C base B:Nat) (T:TypeId):Cn C (RZ base B T):=fun _ _ _ _ _ ⟨v,h⟩ hg hr=>⟨v,h.grown hg (fun r e=>(hr r e).2)⟩
theorem Qf (base B:Nat) (T:TypeId):NG (RZ base B T):=fun _ _ _ ⟨_,h⟩=>h.bound
theorem TU {W:World} {base n:Nat} {v:Value} {xs:List Value} (h:W.ownsRow base 36 2 v n xs) {g:Nat} (hg:v.ownBlock=some g):∃ cs,Blk W g 36 cs:=by
 rcases h.2 with⟨rfl,_⟩|⟨g',cap,cur,rfl,_,hb,_⟩
 ·cases hg
 ·cases hg;exact⟨cur,hb⟩
theorem Yg {W:World} {base:Nat} {v:Value} {l:List KV} {x:KV} (h:W.ownsRow base 36 2 v (l++[x]).length (AH (l++[x]))):∃ g cap,v=.slice (some ⟨g,0,none⟩) (l.length+1) cap:=by
 rw [List.length_append] at h;exact ownsRow_succ h
theorem Fk.push {base B:Nat} {T:TypeId} {l:List KV} {S:Nat→Prop} {W w1:World} {v v':Value} {x:KV} {ob:Obj} (h:Fk base B T l S W v) (hT:T≠36)
  (own':w1.ownsRow base 36 2 v' (l++[x]).length (AH (l++[x]))) (gr:(W.alloc ob).grownBy w1 v.ownBlock) (at1:v'.ownBlock=v.ownBlock∨v'.ownBlock=some (W.alloc ob).heap.size) :
  Blk w1 B T #[v]∧At S W (w1.setCell ⟨B,0,none⟩ v')∧∃ S',AR S S' W∧Fk base B T (l++[x]) S' (w1.setCell ⟨B,0,none⟩ v') v':=by
 have hB:=h.box.lt
 have nB:v.ownBlock≠some B:=fun e=>by
  obtain⟨cs,hc⟩:=TU h.own e;exact hT (CM h.box hc)
 have nB':v'.ownBlock≠some B:=fun e=>by
  rcases at1 with a|a
  ·exact nB (a.symm.trans e)
  ·rw [a,World.size_alloc] at e;cases e;omega
 have b1:Blk w1 B T #[v]:=(h.box.alloc ob).grown gr (fun e=>nB e.symm);refine⟨b1,⟨gr.os,gr.tape,gr.output,?_,fun i hi hn=>?_⟩,fun i=>i=B∨v'.ownBlock=some i,fun i hi=>?_,b1.set_ 0 v',?_,h.low,fun i=>Iff.rfl⟩
 ·have:=gr.size
  rw [World.size_alloc] at this;simp [World.setCell];omega
 ·have h1:i≠B:=fun e=>hn ((h.set i).2 (.inl e))
  have h2:v.ownBlock≠some i:=fun e=>hn ((h.set i).2 (.inr e));exact(Below.heap_setCell w1 ⟨B,0,none⟩ v' i h1).trans ((gr.block i (by rw [World.size_alloc];omega) (fun e=>h2 e.symm)).trans (Below.heap_alloc W ob i hi))
 ·rcases hi with rfl|hi
  ·exact .inl ((h.set _).2 (.inl rfl))
  ·rcases at1 with a|a
   ·exact .inl ((h.set i).2 (.inr (a.symm.trans hi)))
   ·rw [a,World.size_alloc] at hi;cases hi;exact .inr (by omega)
 ·exact own'.kept (BO (BJ w1 (some B)) 0 v') (.inr nB')
theorem NI (n:Nat) (h:n≤1000000000) (w:World):(Instr.makeSlice 22 (.int .i64 0) (.int .i64 n)).run qP w=.ok (.slice (some ⟨w.heap.size,0,none⟩) 0 n) (w.alloc (.cells (madeCells #[.string .empty,.string .empty] (n*2)) 36)):=by
 obtain⟨i0,hi,hz0,hz1,hz2⟩:=info_parts Fq;have hr:=run_make (P:=qP) w 22 36 i0 _ Tryz.underlying22 hi hz0 .i64 .i64 0 n (by omega) (by omega) (by rw [hz2];omega) (by omega);rw [hz1,show(Value.agg #[.string ByteArray.empty,.string ByteArray.empty]).cells=#[.string .empty,.string .empty] from rfl] at hr
 simpa using hr
theorem fH (s:Option Addr) (L:List KV) (w:World) (hz:L.length≤1000000000)
  (HL:∀ W,Aa w W→Calls qP 138 #[.pointer s] W fun e w'=>e=.returned (.int .i64 L.length)∧w'=W)
  (HA:∀ W,Aa w W→Calls qP 139 #[.pointer s,.string ⟨#[]⟩] W (fE L W)) :
  Calls qP 90 #[.pointer s] w fun e w'=>∃ v,e=.returned v∧w'.ownsRow w.heap.size 36 2 v L.length (AH L)∧Below w.heap.size w w':=by
 refine(callsIn_wide (n:=3)).1 ?_;have H1:=qH HL;have H2:=qH HA;clear HL HA;have hmk:=NI L.length hz;refine callsIn_of_wp_marks Tryz.func90 rfl trivial ?_ rfl;simp only [Tryz.ntmps90,List.size_toArray,List.length_cons,List.length_nil,Nat.reduceAdd,Nat.reduceSub,Array.replicate_succ,Array.replicate_zero,List.push_toArray,List.append_toArray,List.nil_append,List.cons_append]
 gi_wp2_with (gi_at_call 138;refine(callsIn_wide.2 (H1.out _ (Aa.refl _))).mono ?_;rintro e w' ⟨rfl,rfl⟩)
 rename_i K0 _ K1 _ K2 _
 obtain⟨W2,hW2⟩:∃ W2,W2=(w'.alloc (.cells (madeCells #[.string .empty,.string .empty] (L.length*2)) 36)).alloc (.cells #[.slice (some ⟨w'.heap.size,0,none⟩) 0 L.length] 22):=⟨_,rfl⟩;rw [←hW2]
 have z2:W2.heap.size=w'.heap.size+1+1:=by rw [hW2];simp
 have b2:Below w'.heap.size w' W2:=by rw [hW2];exact((Below.refl _ _).alloc (Nat.le_refl _) _).alloc (by simp) _
 have bp2:Fk w'.heap.size (w'.heap.size+1) 22 [] (fun i=>i=w'.heap.size+1∨some w'.heap.size=some i) W2 (.slice (some ⟨w'.heap.size,0,none⟩) 0 L.length):=by
  refine⟨?_,?_,by omega,fun i=>Iff.rfl⟩
  ·have:=Blk.new (w'.alloc (.cells (madeCells #[.string .empty,.string .empty] (L.length*2)) 36)) 22 #[.slice (some ⟨w'.heap.size,0,none⟩) 0 L.length]
   rw [World.size_alloc,←hW2] at this;exact this
  ·rw [hW2]
   exact(World.ownsRow_made w' _ L.length (Nat.le_refl _) (by unfold maxLen;omega) (by rw [size_madeCells])).alloc _
 clear hW2;refine(callsIn_wide.2 (H2.out W2 (Ad b2))).mono ?_;rintro e W3 ⟨lb,rfl,b3,hseq⟩;have b23:Below w'.heap.size w' W3:=b2.trans (b3.mono (by omega));have bp3:=bp2.grown (row:=none) ⟨b3.os,b3.tape,b3.output,b3.size,fun k hk _=>b3.block k hk⟩ (fun r e=>by cases e);have z3:=b3.size
 gi_wp2
 refine MO (gf:=171) (lb:=lb) (xs:=L) (w0:=W3) rfl (enters_of Tryz.func171 (by kernel_rfl) rfl)
  (hseq (fun i=>i=w'.heap.size+1∨some w'.heap.size=some i) (fun i hi=>.inr (by
    rcases hi with rfl|hi
    ·exact⟨_,_,bp2.box,by decide⟩
    ·obtain⟨cs,hc⟩:=TU bp2.own hi
     exact⟨_,_,hc,by decide⟩))) (Below.refl _ _) rfl
  (fun _=>true) (RZ w'.heap.size (w'.heap.size+1) 22) (fun _ _ _ _=>False) (Sa _ _ _ _) (fun _ _ _ _ _ _ h _ _=>h) (Qf _ _ _)
  (fun i=>i=w'.heap.size+1∨some w'.heap.size=some i) ⟨_,bp3⟩ (fun _ _ h=>h)
  (fun x=>{ tmps:=#[.pointer s,undef,.slice none 0 0,.pointer (some ⟨w'.heap.size+1,0,none⟩),.string x.1,.string x.2,.pointer s,.int .i64 L.length,.slice (some ⟨w'.heap.size,0,none⟩) 0 L.length,.pointer s,.func (.func 171) #[] lb,.string x.1,.string x.2,undef,undef,undef,undef,undef,undef,undef],defers:=[] }) ?assign ?body ?done ?stop
 case assign =>
  intro l' k x W' K hK
  gi_wp2
  exact hK
 case body =>
  rintro l' k pre ⟨xk,xv⟩ S' W' ⟨v,hv⟩ hpre;have c0:W'.cell? ⟨w'.heap.size+1,0,none⟩=some v:=hv.box.cell 0
  have hlen:pre.length+1≤L.length:=by have:=hpre.length_le;simpa using this
  have hB:w'.heap.size≤W'.heap.size:=by have:=hv.box.lt;omega
  gi_wp2_with (gi_at_builtin;refine Hq _ rfl _ _ 22 Tryz.underlying22 rfl w'.heap.size v _ pre [(xk,xv)] rfl rfl (hv.own.alloc _) (Eu W' (xk,xv)) (by simp;omega) (by simp;omega) ?_;intro v' w1 own' gr1 at1;obtain⟨g',cap',rfl⟩:=Yg own';obtain⟨q1,q2,S2,q3,q4⟩:=hv.push (by decide) own' gr1 at1;have d0:w1.cell? ⟨w'.heap.size+1,0,none⟩=some v:=q1.cell 0;have d1:w1.frozen? ⟨w'.heap.size+1,0,none⟩=false:=q1.frozen 0)
  exact⟨rfl,q2,S2,q3,_,q4⟩
 case done =>
  rintro D S' W' hD _ k4 g4 nD ⟨v,hv⟩ hK;have c0:W'.cell? ⟨w'.heap.size+1,0,none⟩=some v:=hv.box.cell 0
  gi_wp2
  refine⟨by simp,.inl ⟨_,_,rfl,run_takeDeferred hK,?_⟩⟩;refine⟨_,results_tmp rfl _ _ _,v,rfl,(hv.grown (grownBy_putObj' W' D (.deferred none)) (fun r e=>by cases e;exact nD)).own,?_⟩
  exact b23.trans ((JH k4 hD _).below (by omega) (fun i hi=>by
   rcases hi with rfl|hi
   ·omega
   ·cases hi;omega))
 case stop =>
  rintro D c q S' W' _ _ _ _ _ h _;exact h.elim
theorem iS (b:Nat) (L:List KV) (w:World) (h:BW w b L) (hz:L.length≤1000000000) :
  Calls qP 90 #[.pointer (some ⟨b,0,none⟩)] w fun e w'=>∃ v,e=.returned v∧w'.ownsRow w.heap.size 36 2 v L.length (AH L)∧Below w.heap.size w w' :=
 fH _ L w hz (fun W hs=>kS b L W (h.below hs.below)) (fun W hs=>by
  have:=kU b ⟨#[]⟩ L W (h.below hs.below)
  rwa [show Oy L ⟨#[]⟩=L by unfold Oy;rw [List.filter_eq_self];intro x _;rfl] at this)
end Go.Proofs.YtkejaepmoabikaaGreatDoor.W
namespace Go.Proofs.YtkejaepmoabikaaGreatDoor.W
open Go.RowKit
open Lib renaming hid → qH
open _root_.Go.Proofs.Tryz renaming prog → qP
set_option maxHeartbeats 2000000
set_option maxRecDepth 100000
def IX (L:List KV) (us:List CG) (ns:List Nat) (k:ByteArray):List CG:=if ns=[] then us else us++[was L k]
theorem iT (j b:Nat) (u s:Value) (L:List KV) (us:List CG) (ns:List Nat) (k:ByteArray) (w:World) (h:JAt w j b u s L us ns) (hz:us.length+1≤1000000000) :
  Calls qP 179 #[.pointer (some ⟨j,0,none⟩),.string k] w fun e w'=>(∃ x,e=.returned x)∧DJ w j b u s L (IX L us ns k) ns w':=by
 unfold IX;by_cases hn:ns=[]
 ·subst hn
  rw [if_pos rfl];refine(fG j b u s L us k w h).mono ?_;rintro e w' ⟨hx,rfl⟩;exact⟨hx,DJ.same h⟩
 ·rw [if_neg hn]
  exact aK j b u s L us ns k w h (List.length_pos_iff.2 hn) hz
theorem kV (j b:Nat) (u s:Value) (L:List KV) (us:List CG) (ns:List Nat) (k v:ByteArray) (w:World) (h:JAt w j b u s L us ns) (hk:k.size≤65536) (hv:v.size≤65536) (hz:us.length+1≤1000000000) (hzL:L.length+1≤1000000000) :
  Calls qP 146 #[.pointer (some ⟨j,0,none⟩),.string k,.string v] w fun e w'=>e=.returned (.int .i64 0)∧DJ w j b u s (Az L k v) (IX L us ns k) ns w':=by
 have H1:=qH (iT j b u s L us ns k w h hz)
 have g1:¬(65536:Int)<(k.size:Int):=by omega
 have g2:¬(65536:Int)<(v.size:Int):=by omega
 clear h;generalize IX L us ns k=vs at *;go_enter Tryz.func146,Tryz.ntmps146
 go_wp2_with fail
 refine H1.out.mono ?_;rintro e w1 ⟨⟨x,rfl⟩,u1,s1,J1,k1,gr1⟩;have c0:w1.cell? ⟨j,0,none⟩=some (.pointer (some ⟨b,0,none⟩)):=J1.blk.cell 0;have H2:=qH (kT b k v L w1 J1.store (by omega));have HJ:=qH (And.intro J1 (And.intro k1 gr1));clear J1 k1 gr1 H1;generalize (!(AD L k).isSome)=c at *
 go_wp2_with fail
 refine H2.out.mono ?_;rintro e w2 ⟨rfl,hs2,hg2⟩;go_wp2
 go_ret
 exact⟨rfl,DJ.next HJ.out.2.1 HJ.out.2.2 (HJ.out.1.stored hs2 hg2)⟩
theorem iU (a p:Option Addr) (k:ByteArray) (r:Option ByteArray) (w:World) (H1:Calls qP 83 #[.pointer a] w fun e w'=>e=.returned (.pointer p)∧w'=w) (H2:Calls qP 84 #[.pointer p,.string k] w fun e w'=>e=.returned (Dl r)∧w'=w) :
  Calls qP 33 #[.pointer a,.string k] w fun e w'=>e=.returned (Dl r)∧w'=w:=by
 replace H1:=qH H1
 replace H2:=qH H2
 unfold Dl at *;generalize r.getD ⟨#[]⟩=v at *;generalize r.isSome=c at *;go_enter Tryz.func33,Tryz.ntmps33
 go_wp2_with fail
 refine H1.out.mono ?_;rintro e w' ⟨rfl,rfl⟩
 go_wp2_with fail
 refine H2.out.mono ?_;rintro e w' ⟨rfl,rfl⟩;go_wp2
 go_returns
 exact⟨rfl,rfl⟩
theorem kY (j b:Nat) (u s:Value) (L:List KV) (us:List CG) (ns:List Nat) (k:ByteArray) (w:World) (h:JAt w j b u s L us ns) :
  Calls qP 33 #[.pointer (some ⟨j,0,none⟩),.string k] w fun e w'=>e=.returned (Dl (AD L k))∧w'=w:=iU _ _ k _ w (cT j b u s L us ns w h) (iQ b k L w h.store)
def LH (L:List KV) (w:World) (e:Ending) (w':World):Prop:=∃ v,e=.returned v∧w'.ownsRow w.heap.size 36 2 v L.length (AH L)∧Below w.heap.size w w'
theorem aL (a p:Option Addr) (L:List KV) (w:World) (H1:Calls qP 83 #[.pointer a] w fun e w'=>e=.returned (.pointer p)∧w'=w) (H2:Calls qP 90 #[.pointer p] w (LH L w)) :
  Calls qP 44 #[.pointer a] w (LH L w):=by
 replace H1:=qH H1
 replace H2:=qH H2
 go_enter Tryz.func44,Tryz.ntmps44
 go_wp2_with fail
 refine H1.out.mono ?_;rintro e w' ⟨rfl,rfl⟩
 go_wp2_with fail
 refine H2.out.mono ?_;rintro e w2 ⟨v,rfl,ho,hb⟩;go_wp2
 go_ret
 exact⟨v,rfl,ho,hb⟩
theorem iV (j b:Nat) (u s:Value) (L:List KV) (us:List CG) (ns:List Nat) (w:World) (h:JAt w j b u s L us ns) (hz:L.length≤1000000000) :
  Calls qP 44 #[.pointer (some ⟨j,0,none⟩)] w (LH L w):=aL _ _ L w (cT j b u s L us ns w h) (iS b L w h.store hz)
def fI (L:List KV) (w:World) (e:Ending) (w':World):Prop:=∃ j b u s,e=.returned (.pointer (some ⟨j,0,none⟩))∧JAt w' j b u s L [] []∧Below w.heap.size w w'∧∀ i,Ep j b u s i→w.heap.size≤i
theorem iW {w w':World} {g:Nat} {L:List KV} (hs:BW w' g L) (hb:Below w.heap.size w w') (hg:w.heap.size≤g) :
  JAt (w'.alloc (.cells #[.pointer (some ⟨g,0,none⟩),.slice none 0 0,.slice none 0 0] 133)) w'.heap.size g (.slice none 0 0) (.slice none 0 0) L [] []∧Below w.heap.size w (w'.alloc (.cells #[.pointer (some ⟨g,0,none⟩),.slice none 0 0,.slice none 0 0] 133))∧∀ i,Ep w'.heap.size g (.slice none 0 0) (.slice none 0 0) i→w.heap.size≤i :=
 have b8:Below w'.heap.size w' (w'.alloc (.cells #[.pointer (some ⟨g,0,none⟩),.slice none 0 0,.slice none 0 0] 133)):=(Below.refl _ _).alloc (Nat.le_refl _) _
 ⟨⟨Blk.new w' _ _,hs.below b8,World.ownsRow_nil _ _ _ _,World.ownsRow_nil _ _ _ _⟩,Ae hb b8,fun i hi=>by
  rcases hi with rfl|rfl|hi|hi
  ·exact hb.size
  ·exact hg
  ·cases hi
  ·cases hi⟩
theorem aM (w:World):Calls qP 24 #[.pointer none] w (fI [] w):=by
 go_enter Tryz.func24,Tryz.ntmps24
 go_wp2_with fail
 refine(kR w).mono ?_;rintro e w' ⟨rfl,hs,hb⟩;go_wp2
 go_ret
 exact⟨_,_,_,_,rfl,iW hs hb (Nat.le_refl _)⟩
def Jr (w:World) (S:Nat→Prop) (j:Nat) (Lv:List (List KV)) (L:List KV) (m:Nat):Prop :=
 ∃ b u s us ns,JAt w j b u s L us ns∧S=Ep j b u s∧Fx L us ns=Lv∧Gp us.length ns∧L.length+us.length+ns.length≤m
def Jm (w:World) (S:Nat→Prop) (j:Nat) (Lv:List (List KV)) (L:List KV) (m:Nat) (w':World):Prop:=At S w w'∧∃ S',AR S S' w∧Jr w' S' j Lv L m
section
variable {w w' w2:World} {S:Nat→Prop} {j m m':Nat} {Lv:List (List KV)} {L:List KV}
theorem Jr.lt (h:Jr w S j Lv L m):j<w.heap.size:=by obtain⟨b,u,s,us,ns,h1,_⟩:=h;exact h1.blk.lt
theorem Jr.up (h:Jr w S j Lv L m):Up L:=by obtain⟨b,u,s,us,ns,h1,_⟩:=h;exact h1.store.up
theorem Jr.len (h:Jr w S j Lv L m):L.length≤m∧Lv.length≤m:=by
 obtain⟨b,u,s,us,ns,h1,_,rfl,_,h5⟩:=h;rw [Qb]
 omega
theorem Jr.bound (h:Jr w S j Lv L m):∀ i,S i→i<w.heap.size:=by obtain⟨b,u,s,us,ns,h1,rfl,_⟩:=h;exact fun i hi=>h1.bound hi
theorem Jr.mono (h:Jr w S j Lv L m) (hm:m≤m'):Jr w S j Lv L m':=by obtain⟨b,u,s,us,ns,h1,h2,h3,h4,h5⟩:=h;exact⟨b,u,s,us,ns,h1,h2,h3,h4,by omega⟩
theorem Jr.below (h:Jr w S j Lv L m) (hb:Below w.heap.size w w'):Jr w' S j Lv L m:=by obtain⟨b,u,s,us,ns,h1,h2⟩:=h;exact⟨b,u,s,us,ns,h1.below hb,h2⟩
theorem Jr.kept (h:Jr w S j Lv L m) (k:At S w w'):Ki w w':=by obtain⟨b,u,s,us,ns,h1,rfl,_⟩:=h;exact h1.kept k
theorem Jm.mono (h:Jm w S j Lv L m w') (hm:m≤m'):Jm w S j Lv L m' w':=by obtain⟨k,S',g,h⟩:=h;exact⟨k,S',g,h.mono hm⟩
theorem Jm.same (h:Jr w S j Lv L m):Jm w S j Lv L m w:=⟨At.refl _ _,S,AR.refl _ _,h⟩
theorem Jm.of_below (h:Jr w S j Lv L m) (hb:Below w.heap.size w w'):Jm w S j Lv L m w':=⟨At.of_below _ hb,S,AR.refl _ _,h.below hb⟩
end
theorem Yh {w w':World} {j b:Nat} {u s:Value} {L:List KV} {us:List CG} {ns:List Nat} {Lv:List (List KV)} {m:Nat} (h:DJ w j b u s L us ns w') (h3:Fx L us ns=Lv) (h4:Gp us.length ns) (h5:L.length+us.length+ns.length≤m):Jm w (Ep j b u s) j Lv L m w':=by
 obtain⟨u',s',a,k,g⟩:=h;exact⟨k,_,g,b,u',s',us,ns,a,rfl,h3,h4,h5⟩
theorem Vs (L:List KV) (us:List CG) (ns:List Nat) (k:ByteArray):us.length≤(IX L us ns k).length∧(IX L us ns k).length≤us.length+1:=by
 unfold IX;split<;>simp
theorem Sb {L L':List KV} {us:List CG} {ns:List Nat} {k:ByteArray} (h:Gp us.length ns) (hr:rest (was L k) L'=L):Fx L' (IX L us ns k) ns=Fx L us ns:=by
 unfold IX
 split
 ·rename_i hn;subst hn;rfl
 ·exact Qc h hr
section
variable {w:World} {S:Nat→Prop} {j m:Nat} {Lv:List (List KV)} {L:List KV}
theorem kZ (k v:ByteArray) (h:Jr w S j Lv L m) (hk:k.size≤65536) (hv:v.size≤65536) (hm:m+2≤1000000000) :
  Calls qP 146 #[.pointer (some ⟨j,0,none⟩),.string k,.string v] w fun e w'=>e=.returned (.int .i64 0)∧Jm w S j Lv (Az L k v) (m+2) w':=by
 obtain⟨b,u,s,us,ns,h1,rfl,rfl,h4,h5⟩:=h;refine(kV j b u s L us ns k v w h1 hk hv (by omega) (by omega)).mono ?_;rintro e w' ⟨he,hs⟩;have hl:=Vs L us ns k;have hl2:=CJ (k:=k) (v:=v) L;exact⟨he,Yh hs (Sb h4 (Yc h1.store.up k v)) (LG h4 hl.1) (by omega)⟩
theorem fJ (k:ByteArray) (h:Jr w S j Lv L m):Calls qP 33 #[.pointer (some ⟨j,0,none⟩),.string k] w fun e w'=>e=.returned (Dl (AD L k))∧w'=w:=by
 obtain⟨b,u,s,us,ns,h1,rfl,rfl,h4,h5⟩:=h;exact kY j b u s L us ns k w h1
theorem iX (h:Jr w S j Lv L m) (hm:m≤1000000000):Calls qP 44 #[.pointer (some ⟨j,0,none⟩)] w (LH L w):=by
 obtain⟨b,u,s,us,ns,h1,rfl,rfl,h4,h5⟩:=h;exact iV j b u s L us ns w h1 (by omega)
theorem aN (w:World):Calls qP 24 #[.pointer none] w fun e w'=>∃ k T,e=.returned (.pointer (some ⟨k,0,none⟩))∧Jr w' T k [] [] 0∧Below w.heap.size w w'∧∀ i,T i→w.heap.size≤i:=by
 refine(aM w).mono ?_;rintro e w' ⟨k,b',u',s',he,hJ,hb,hi⟩;exact⟨k,_,he,⟨b',u',s',[],[],hJ,rfl,rfl,⟨List.Pairwise.nil,fun _ h=>by cases h⟩,by simp⟩,hb,hi⟩
end
theorem Jm.out {w w1 w2:World} {S:Nat→Prop} {j m:Nat} {Lv:List (List KV)} {L:List KV} (h:Jm w1 S j Lv L m w2) (hB:Below w.heap.size w w1) (hT:∀ i,S i→w.heap.size≤i):∃ S',Jr w2 S' j Lv L m∧Below w.heap.size w w2∧∀ i,S' i→w.heap.size≤i:=by
 obtain⟨k,S',g,hj⟩:=h;exact⟨S',hj,hB.trans (k.below hB.size hT),fun i hi=>(g i hi).elim (hT i) (fun h2=>Nat.le_trans hB.size h2)⟩
theorem IY (l:List KV) (i:Nat) (h:i<l.length):l.take (i+1)=l.take i++[l[i]]:=by rw [List.take_succ_eq_append_getElem h]
theorem iY (a b:Value) (l m:List KV) (w:World) (hP:Prs w a l) (hQ:Prs w b m) (hz:l.length≤1000000000) :
  Calls qP 43 #[a,b] w fun e w'=>e=.returned (.bool (decide (l=m)))∧Below w.heap.size w w':=by
 obtain⟨A,cap,rfl,hcap,hc⟩:=hP;obtain⟨A',cap',rfl,hcap',hc'⟩:=hQ;have HC:=qH (And.intro hc hc');obtain⟨r,hr⟩:∃ r,r=decide (l=m):=⟨_,rfl⟩;rw [←hr];have HR:=qH hr;clear hc hc' hr;by_cases hlen:l.length=m.length
 ·have HL:=qH hlen
  rw [←hlen]
  have he:((l.length:Int)==(l.length:Int))=true:=by simp
  clear hlen;go_enter Tryz.func43,Tryz.ntmps43;go_wp2
  go_loopw [5] (fun i wr=>∃ k:Nat,k≤l.length∧i=.int .i64 k∧Hid (l.take k=m.take k)∧Below w.heap.size w wr) (fun i _=>l.length-(intOf i).toNat)
  case atStart=>exact⟨0,Nat.zero_le _,rfl,qH rfl,Below.refl _ _⟩
  case round =>
   obtain⟨k,hk,rfl,HT,hbel⟩:=hrel;by_cases hlt:k<l.length
   ·have hlt':k<m.length:=by have:=HL.out;omega
    obtain⟨b1,off1,rfl,d1,d2⟩:=HC.out.1 k hlt;obtain⟨b2,off2,rfl,d3,d4⟩:=HC.out.2 k hlt';have c1:=(Ad hbel).cell d1;have c2:=(Ad hbel).cell d2;have c3:=(Ad hbel).cell d3;have c4:=(Ad hbel).cell d4
    have hi0:(0:Int)≤k:=by omega
    have hi1:(k:Int)<(l.length:Int):=by omega
    have hw:IntKind.i64.wrap ((k:Int)+1)=(k:Int)+1:=IntWalk.i64_in _ (by omega);have HF:=qH (And.intro (IY l k hlt) (IY m k hlt'));have HG:=qH (show l=m→l[k]=m[k] from fun e=>by subst e;rfl);obtain⟨⟨x1,x2⟩,hx⟩:∃ x:KV,x=l[k]:=⟨_,rfl⟩;obtain⟨⟨y1,y2⟩,hy⟩:∃ y:KV,y=m[k]:=⟨_,rfl⟩;rw [←hx] at c1 c2 HF HG;rw [←hy] at c3 c4 HF HG;simp only at c1 c2 c3 c4 HF HG;clear d1 d2 d3 d4 hx hy;by_cases h1:x1=y1
    ·by_cases h2:x2=y2
     ·subst h1 h2
      go_wp2
      go_region
      go_wp2
      go_roundw
      case rel=>exact⟨k+1,by omega,by simp,qH (by rw [HF.out.1,HF.out.2,HT.out]),hbel.drew⟩
      case measure=>simp [intOf];omega
     ·have HN:=qH (show r=false by rw [HR.out];exact decide_eq_false (fun e=>h2 (congrArg Prod.snd (HG.out e))))
      subst h1;have h2:=Eh h2;go_wp2
      go_region
      go_wp2
      go_ret
      exact⟨by rw [HN.out];rfl,hbel.drew⟩
    ·have HN:=qH (show r=false by rw [HR.out];exact decide_eq_false (fun e=>h1 (congrArg Prod.fst (HG.out e))))
     have h1:=Eh h1;go_wp2
     go_region
     go_wp2
     go_ret
     exact⟨by rw [HN.out];rfl,hbel.drew⟩
   ·obtain rfl:k=l.length:=by omega
    have hi1:¬(l.length:Int)<(l.length:Int):=by omega
    go_wp2
    go_ret
    have h1:l=m:=by have:=HT.out;rw [List.take_length,HL.out,List.take_length] at this;exact this
    have h2:r=true:=by rw [HR.out];exact decide_eq_true h1
    exact⟨by rw [h2];rfl,hbel⟩
 ·have he:((l.length:Int)==(m.length:Int))=false:=by simp;omega
  have HN:=qH (show r=false by rw [HR.out];exact decide_eq_false (fun e=>hlen (by rw [e])));clear hlen HR;go_enter Tryz.func43,Tryz.ntmps43;go_wp2
  go_ret
  exact⟨by rw [HN.out];rfl,Below.refl _ _⟩
end Go.Proofs.YtkejaepmoabikaaGreatDoor.W
namespace Go.Proofs.YtkejaepmoabikaaGreatDoor.W
open Go.RowKit
open Classical in
noncomputable def LK (l:List KV) (key:ByteArray):Pf:=if Up l then bld l key else Pf.zero
end Go.Proofs.YtkejaepmoabikaaGreatDoor.W
namespace Go.Proofs.YtkejaepmoabikaaGreatDoor.W
open Go.RowKit
open Lib renaming hid → qH
open _root_.Go.Proofs.Tryz renaming prog → qP
set_option maxHeartbeats 1000000
set_option maxRecDepth 100000
theorem NJ {l:List KV} {k:Nat} (h:k<l.length):BF (l.take (k+1))=BF (l.take k)++[Ai l[k].1,Ai l[k].2]:=by
 rw [List.take_succ_eq_append_getElem h];unfold BF;rw [List.flatMap_append]
 rfl
theorem IZ {l:List (List (List UInt8))} {k:Nat} (h:k<l.length):AI (l.take (k+1))=AI (l.take k)++[BV (bss l[k])]:=by
 rw [List.take_succ_eq_append_getElem h];unfold AI;rw [List.map_append]
 rfl
theorem iZ (v:Value) (ss:List ByteArray) (w:World) (hv:Txs w w.heap.size v ss) (hm:ss.length≤9223372036854775807) :
  Calls qP 103 #[v] w fun e w'=>e=.returned (AP (BV ss))∧Below w.heap.size w w':=by
 obtain⟨A,cap,rfl,hc⟩:=hv;have HCell:=qH hc;clear hc;by_cases hl:ss.length≤256
 ·have hr:=Wz ss.length w
  rw [IM ss.length (by omega)] at hr;have HA:=qH hr;clear hr;go_enter Tryz.func103,Tryz.ntmps103
  go_wp2_with fail
  refine HA.out.mono ?_;rintro e w1 ⟨rfl,hb⟩;unfold AP;go_wp2
  go_loopw [4,6,7,8] (fun s i _ _ wr=>∃ k:Nat,k≤ss.length∧i=.int .i64 k∧QR ss k∧s=.string (bs (Gl ss k))∧Below w.heap.size w wr) (fun _ i _ _ _=>ss.length-(intOf i).toNat)
  case atStart=>exact⟨0,Nat.zero_le _,rfl,fun i h hi=>absurd hi (by omega),by rw [KW],hb⟩
  case round =>
   obtain⟨k,hk,rfl,hg,rfl,hbel⟩:=hrel;by_cases hlt:k<ss.length
   ·obtain⟨b,off,rfl,hbk,hcw⟩:=HCell.out k hlt
    have hcell:wr.cell? ⟨b,off+k,none⟩=some (.string ss[k]):=(hbel.cell (p:=⟨b,off+k,none⟩) hbk).trans hcw;clear hcw;have hr:=Tg ss[k] wr;by_cases hs:ss[k].size≤65536
    ·rw [show Ai ss[k]=(Cd ss[k].data.toList,0) by simp [Ai,hs]] at hr
     have HT:=qH hr;clear hr;have hjl:=Mv ss hl k hk hg;have htl:=GE ss[k] hs;have hadd:=fun W=>AB W (Gl ss k) (Cd ss[k].data.toList) (by omega);rw [←KX ss k hlt] at hadd
     go_wp2_with fail
     refine HT.out.mono ?_;rintro e w2 ⟨rfl,hb2⟩;unfold AP;have hb3:=hbel.trans (hb2.mono hbel.size);go_wp2
     go_roundw
     case rel=>exact⟨k+1,by omega,by go_num,hg.succ hlt hs,rfl,hb3⟩
     case measure=>simp [intOf];omega
    ·rw [show Ai ss[k]=([],4) by simp [Ai,hs]] at hr
     have HT:=qH hr;clear hr;have HE:=qH (OE hlt hs)
     go_wp2_with fail
     refine HT.out.mono ?_;rintro e w2 ⟨rfl,hb2⟩;unfold AP;have hb3:=hbel.trans (hb2.mono hbel.size);go_wp2
     go_ret2
     exact⟨by rw [HE.out];rfl,hb3⟩
   ·obtain rfl:k=ss.length:=by omega
    have HE:=qH (QS hl hg);go_wp2
    go_ret2
    exact⟨by rw [HE.out];rfl,hbel⟩
 ·have HE:=qH (show BV ss=([],4) by simp [BV,hl])
  go_enter Tryz.func103,Tryz.ntmps103;go_wp2
  go_ret2
  exact⟨by rw [HE.out];rfl,Below.refl _ _⟩
end Go.Proofs.YtkejaepmoabikaaGreatDoor.W
namespace Go.Proofs.YtkejaepmoabikaaGreatDoor.W
theorem Fy {n:Int} (h0:0≤n) (h:n≤9007199254740992):(Ag n).1=num n.toNat:=by unfold Ag;rw [if_pos ⟨h0,h⟩]
theorem Fz {s:ByteArray} (h:s.size≤65536):(Ai s).1=Cd s.data.toList:=by unfold Ai;rw [if_pos h]
theorem fM (b:Bool):fz b=((if b then 1 else 0:Nat):Int):=by cases b<;>rfl
theorem fN {c:Clt} (h1:c.chain.size≤65536) (h2:c.key.size≤65536) (h3:0≤c.height) (h4:c.height≤9007199254740992):Gm (bs (BC c))=some c:=by
 have b1:=Cj c.chain.data.toList (by rw [Ah];exact h1) (Cd c.key.data.toList++(num c.height.toNat++(num (if c.frozen then 1 else 0))));have b2:=Cj c.key.data.toList (by rw [Ah];exact h2) (num c.height.toNat++(num (if c.frozen then 1 else 0)));have b3:=BK c.height.toNat (by omega) (num (if c.frozen then 1 else 0));have b4:=BK (if c.frozen then 1 else 0) (by split<;>omega) [];rw [List.append_nil] at b4;unfold BC;rw [Fz h1,Fz h2,Fy h3 h4,Fy (by unfold fz;split<;>omega) (by unfold fz;split<;>omega)];rw [show(fz c.frozen).toNat=if c.frozen then 1 else 0 by rw [fM];simp];simp only [List.append_assoc];unfold Gm;simp only [b1,b2,b3,b4,Ch];rw [if_neg (by simp [AG,Aw];split<;>omega),Int.toNat_of_nonneg h3]
 cases c with
 | mk ch k ht f=>cases f<;>simp
theorem jB {t:Int} {r:ByteArray} (h1:0≤t) (h2:t≤9007199254740992) (h3:r.size≤65536):UE (bs (Ec t r))=some ⟨t,r⟩:=by
 have b1:=BK t.toNat (by omega) (Cd r.data.toList);have b2:=Cj r.data.toList (by rw [Ah];exact h3) [];rw [List.append_nil] at b2;unfold Ec;rw [Fy h1 h2,Fz h3];unfold UE;simp only [b1,b2,Ch];rw [if_neg (by simp [AG,Aw]),Int.toNat_of_nonneg h1]
theorem fO {n:Nat} (h:n≤9007199254740992):Fb (bs (Ag n).1)=n:=by
 have b1:=BK n h [];rw [List.append_nil] at b1;rw [Fy (by omega) (by omega),Int.toNat_natCast];unfold Fb;rw [b1,if_neg (by simp [AG,Aw])]
theorem Kd:Fb ⟨#[]⟩=0:=by decide +kernel
theorem Yo {a b:List UInt8} (h:bs a=bs b):a=b:=by
 have:=congrArg (fun x:ByteArray=>x.data.toList) h
 simpa [Bs] using this
theorem Se {a b:ByteArray} (h:a.data.toList=b.data.toList):a=b:=by rw [←Ch a,←Ch b,h]
theorem LM {w v:ByteArray} {ps qs:List ByteArray} (h:bs (Fp w ps)=bs (Fp v qs)):w.data.toList=v.data.toList∧ps.map (·.data.toList)=qs.map (·.data.toList):=Zu (Yo h)
theorem Ja {a b:ByteArray} (h:BN a=BN b):a=b:=by
 have:=(LM h).2;simp only [List.map_cons,List.map_nil,List.cons.injEq,and_true] at this;exact Se this
theorem Hl (a:ByteArray):BN a≠Ce:=fun h=>by have:=(LM h).1;exact absurd this (by decide)
theorem Dv (a b:ByteArray) (n:Int):BN a≠Bf b n:=fun h=>by have:=(LM h).1;exact absurd this (by decide)
theorem Gg (b:ByteArray) (n:Int):Bf b n≠Ce:=fun h=>by have:=(LM h).1;exact absurd this (by decide)
theorem Vw {a b:ByteArray} {n m:Int} (h:Bf a n=Bf b m):a=b∧nTx n=nTx m:=by
 have:=(LM h).2;simp only [List.map_cons,List.map_nil,List.cons.injEq,and_true] at this;exact⟨Se this.1,Se this.2⟩
theorem Bw (L:List KV) (k v k':ByteArray):AD (Az L k v) k'=if k'=k then some v else AD L k':=by
 induction L with
 | nil =>
   unfold Az AD;by_cases h:k'=k
   ·subst h;simp
   ·have:¬k=k':=fun e=>h e.symm
    simp [h,this]
 | cons x r ih =>
   unfold Az
   split
   ·by_cases h:k'=k
    ·subst h;simp [AD]
    ·have h2:¬k=k':=fun e=>h e.symm
     rw [if_neg h];simp [AD,h2]
   ·rename_i h1
    split
    ·rename_i h2
     have e:=DV h2;by_cases h:k'=k
     ·subst h;simp [AD]
     ·have h3:¬k=k':=fun e=>h e.symm
      rw [if_neg h];have h4:¬x.1=k':=fun e2=>h3 (e.trans e2);simp [AD,h3,h4]
    ·rename_i h2
     by_cases hx:x.1=k'
     ·by_cases h:k'=k
      ·exfalso
       subst h;subst hx;exact h2 (by rw [DU])
      ·rw [if_neg h]
       simp [AD,hx]
     ·have e1:AD (x::Az r k v) k'=AD (Az r k v) k':=by simp [AD,hx]
      have e2:AD (x::r) k'=AD r k':=by simp [AD,hx]
      rw [e1,e2,ih]
end Go.Proofs.YtkejaepmoabikaaGreatDoor.W
namespace Go.Proofs.YtkejaepmoabikaaGreatDoor.W
open Go.RowKit
open Lib renaming hid → qH
open _root_.Go.Proofs.Tryz renaming prog → qP
set_option maxHeartbeats 4000000
set_option maxRecDepth 100000
section
variable {w:World} {S:Nat→Prop} {j m:Nat} {Lv:List (List KV)} {L:List KV} {g:Nat} {t:TypeId} {cs:Array Value}
theorem Jr.set (h:Jr w S j Lv L m) (hB:Blk w g t cs) (ht:t≠238) (hn:¬S g) (i:Nat) (v:Value):Jr (w.setCell ⟨g,i,none⟩ v) S j Lv L m:=by
 obtain⟨b,u,s,us,ns,h1,rfl,h3,h4,h5⟩:=h;refine⟨b,u,s,us,ns,h1.moved (fun g' cs' hb=>?_) (fun k hk=>Below.heap_setCell w ⟨g,i,none⟩ v k (fun e=>?_)),rfl,h3,h4,h5⟩
 ·exact hb.far (p:=⟨g,i,none⟩) (fun e=>by
   simp only at e;subst e
   exact ht (CM hB hb)) v
 ·simp only at e
  subst e;exact hn hk
theorem Jr.put4 {a0 a1 a2 a3:Value} (h:Jr w S j Lv L m) (hB:Blk w g t #[a0,a1,a2,a3]) (ht:t≠238) (hn:¬S g) (v0 v1 v2 v3:Value):Jr ((((w.setCell ⟨g,0,none⟩ v0).setCell ⟨g,1,none⟩ v1).setCell ⟨g,2,none⟩ v2).setCell ⟨g,3,none⟩ v3) S j Lv L m :=
 (((h.set hB ht hn 0 v0).set (hB.set_ 0 v0) ht hn 1 v1).set ((hB.set_ 0 v0).set_ 1 v1) ht hn 2 v2).set (((hB.set_ 0 v0).set_ 1 v1).set_ 2 v2) ht hn 3 v3
theorem Ey (W:World) {b g:Nat} (hg:g≠b) (v0 v1 v2 v3:Value) :
  ((((W.setCell ⟨b,0,none⟩ v0).setCell ⟨b,1,none⟩ v1).setCell ⟨b,2,none⟩ v2).setCell ⟨b,3,none⟩ v3).heap[g]?=W.heap[g]? :=
 (((Below.heap_setCell _ ⟨b,3,none⟩ v3 g hg).trans (Below.heap_setCell _ ⟨b,2,none⟩ v2 g hg)).trans (Below.heap_setCell _ ⟨b,1,none⟩ v1 g hg)).trans (Below.heap_setCell _ ⟨b,0,none⟩ v0 g hg)
theorem Ys {p:Option Addr} {A A2:Option Addr} {a c a2 c2:Nat} {N:Int} (hB:Blk w g t #[.pointer p,.slice A a c,.slice A2 a2 c2,.int .i64 N]):∀ off s,w.cell? ⟨g,off,none⟩≠some (.string s):=fun off s e=>by
 have h1:=(hB.cell off).symm.trans e
 match off,h1 with
 | 0,h1=>simp at h1
 | 1,h1=>simp at h1
 | 2,h1=>simp at h1
 | 3,h1=>simp at h1
 | _+4,h1=>simp at h1
theorem Prs.put4 {v:Value} {l:List KV} {p:Option Addr} {A A2:Option Addr} {a c a2 c2:Nat} {N:Int} (h:Prs w v l) (hB:Blk w g t #[.pointer p,.slice A a c,.slice A2 a2 c2,.int .i64 N]) (v0 v1 v2 v3:Value):Prs ((((w.setCell ⟨g,0,none⟩ v0).setCell ⟨g,1,none⟩ v1).setCell ⟨g,2,none⟩ v2).setCell ⟨g,3,none⟩ v3) v l :=
 h.kept_by (b:=g) (fun _ hk=>Ey w hk v0 v1 v2 v3) (Ys hB)
theorem Prs.set1 {v:Value} {l:List KV} {p:Option Addr} {A A2:Option Addr} {a c a2 c2:Nat} {N:Int} (h:Prs w v l) (hB:Blk w g t #[.pointer p,.slice A a c,.slice A2 a2 c2,.int .i64 N]) (i:Nat) (u:Value):Prs (w.setCell ⟨g,i,none⟩ u) v l :=
 h.kept_by (b:=g) (fun k hk=>Below.heap_setCell w ⟨g,i,none⟩ u k hk) (Ys hB)
theorem At.undrew {V w':World} (h:At S V.drew w'):At S V w':=⟨h.os,h.tape,h.output,h.size,h.block⟩
theorem At.put4 {w':World} {b:Nat} (h:At S w w') (hb:w.heap.size≤b) (v0 v1 v2 v3:Value):At S w ((((w'.setCell ⟨b,0,none⟩ v0).setCell ⟨b,1,none⟩ v1).setCell ⟨b,2,none⟩ v2).setCell ⟨b,3,none⟩ v3) :=
 ⟨h.os,h.tape,h.output,by have:=h.size;simpa [World.setCell] using this,fun i hi hn=>(Ey w' (by omega) v0 v1 v2 v3).trans (h.block i hi hn)⟩
theorem Prs.out_of {w':World} {v:Value} {l:List KV} (h:Prs w v l) (k:At S w w') (hn:∀ g,v.ownBlock=some g→¬S g):Prs w' v l:=by
 by_cases hl:l=[]
 ·subst hl
  obtain⟨A,cap,rfl,hc,_⟩:=h;exact⟨A,cap,rfl,hc,fun i hi=>by simp at hi⟩
 ·exact h.moved fun g hg=>k.block g (h.lt hl g hg) (hn g hg)
end
theorem Ks:qP.eqGuardType qP.depth 62=false:=by kernel_rfl
theorem Ua:qP.eqGuardType qP.depth 41=false:=by kernel_rfl
theorem NM (a a':Int) (c c':ByteArray) (w:World) :
  (Op.equalIn 10000 62 (.agg #[.int .i64 a,.string c]) (.agg #[.int .i64 a',.string c'])).run qP w=.ok (decide (a=a'∧c=c')) w:=by
 have u1:=Tryz.underlying3;have u2:=Tryz.underlying9;have a1:=Tryz.isAgg3;have a2:=Tryz.isAgg9;have z1:=Tryz.sizeOf3;have z2:=Tryz.sizeOf9
 have hS:qP.underlying 62=some (.struct (qP.fieldsOf 62)):=by kernel_rfl
 have hp:qP.stoodInHeld 62=false:=by kernel_rfl
 rw [show(10000:Nat)=9999+1 from rfl,run_equalIn_agg w 9999 62 _ _ hS hp];simp only [Program.fieldsOf,Tryz.underlying62];go_simp;by_cases h1:c=c'<;>by_cases h2:a=a'<;>simp [h1,h2,Kp]
theorem Ub (c c' k k':ByteArray) (a a':Int) (f f':Bool) (w:World) :
  (Op.equalIn 10000 41 (.agg #[.string c,.string k,.int .i64 a,.bool f]) (.agg #[.string c',.string k',.int .i64 a',.bool f'])).run qP w=.ok (decide (c=c'∧k=k'∧a=a'∧f=f')) w:=by
 have u1:=Tryz.underlying3;have u2:=Tryz.underlying9;have u3:=Tryz.underlying4;have a1:=Tryz.isAgg3;have a2:=Tryz.isAgg9;have a3:=Tryz.isAgg4;have z1:=Tryz.sizeOf3;have z2:=Tryz.sizeOf9;have z3:=Tryz.sizeOf4
 have hS:qP.underlying 41=some (.struct (qP.fieldsOf 41)):=by kernel_rfl
 have hp:qP.stoodInHeld 41=false:=by kernel_rfl
 rw [show(10000:Nat)=9999+1 from rfl,run_equalIn_agg w 9999 41 _ _ hS hp];simp only [Program.fieldsOf,Tryz.underlying41];go_simp;by_cases h1:c=c'<;>by_cases h2:a=a'<;>by_cases h3:k=k'<;>by_cases h4:f=f'<;>simp [h1,h2,h3,h4,Kp]
theorem aU:qP.underlying 131=some (.slice (qP.elem 131)):=by kernel_rfl
theorem Yv:qP.elem 131=3:=by kernel_rfl
theorem Vx:qP.cellsOf 3=1:=by kernel_rfl
section
variable {w w1 w2:World} {j b:Nat} {u u' s s':Value} {L:List KV} {us us':List CG} {ns ns':List Nat}
theorem JAt.setU (h:JAt w j b u s L us ns) (own:w.ownsRow 0 263 1 u' us'.length (GQ us')) (hn:u'.ownBlock≠some j):JAt (w.setCell ⟨j,1,none⟩ u') j b u' s L us' ns:=by
 obtain⟨n1,n2,n3,n4,n5⟩:=h.nj;have gr:=BO (BJ w (some j)) 1 u';refine⟨h.blk.set_ 1 u',?_,Cw own (fun g e=>Below.heap_setCell w ⟨j,1,none⟩ u' g (fun e2=>hn (by rw [e];exact congrArg some e2))),Cw h.starts (fun g e=>Below.heap_setCell w ⟨j,1,none⟩ u' g (fun e2=>n3 (by rw [e];exact congrArg some e2)))⟩;obtain⟨p,t,h2,h3,h4⟩:=h.store;exact⟨p,t,(Below.heap_setCell w ⟨j,1,none⟩ u' b (Ne.symm n1)).trans h2,h3.kept (h.kept (At.of_grown gr (fun r e=>by cases e;exact .inl (.inl rfl)))),h4⟩
theorem JAt.setS (h:JAt w j b u s L us ns) (own:w.ownsRow 0 3 1 s' ns'.length (Eo ns')) (hn:s'.ownBlock≠some j):JAt (w.setCell ⟨j,2,none⟩ s') j b u s' L us ns':=by
 obtain⟨n1,n2,n3,n4,n5⟩:=h.nj;have gr:=BO (BJ w (some j)) 2 s';refine⟨h.blk.set_ 2 s',?_,Cw h.undos (fun g e=>Below.heap_setCell w ⟨j,2,none⟩ s' g (fun e2=>n2 (by rw [e];exact congrArg some e2))),Cw own (fun g e=>Below.heap_setCell w ⟨j,2,none⟩ s' g (fun e2=>hn (by rw [e];exact congrArg some e2)))⟩;obtain⟨p,t,h2,h3,h4⟩:=h.store;exact⟨p,t,(Below.heap_setCell w ⟨j,2,none⟩ s' b (Ne.symm n1)).trans h2,h3.kept (h.kept (At.of_grown gr (fun r e=>by cases e;exact .inl (.inl rfl)))),h4⟩
theorem Sf (w:World) (j b:Nat) (u s:Value) (i:Nat) (x:Value):At (Ep j b u s) w (w.setCell ⟨j,i,none⟩ x):=At.of_grown (BO (BJ w (some j)) i x) (fun r e=>by cases e;exact .inl (.inl rfl))
theorem JAt.drew (h:JAt w j b u s L us ns):JAt w.drew j b u s L us ns:=h.below ((Below.refl _ w).drew)
theorem Sg (S:Nat→Prop) (w:World):At S w w.drew:=At.of_below S ((Below.refl _ w).drew)
theorem LN (hu:∀ g,u'.ownBlock=some g→u.ownBlock=some g) (hs:∀ g,s'.ownBlock=some g→s.ownBlock=some g):AR (Ep j b u s) (Ep j b u' s') w:=fun i hi=>by
 rcases hi with hi|hi|hi|hi
 ·exact .inl (.inl hi)
 ·exact .inl (.inr (.inl hi))
 ·exact .inl (.inr (.inr (.inl (hu i hi))))
 ·exact .inl (.inr (.inr (.inr (hs i hi))))
end
theorem fP (j b:Nat) (u s:Value) (L:List KV) (us:List CG) (ns:List Nat) (n:Nat) (w:World) (h:JAt w j b u s L us (ns++[n])) (hz:ns.length+1≤1000000000) :
  Calls qP 183 #[.pointer (some ⟨j,0,none⟩)] w fun e w'=>(∃ x,e=.returned x)∧DJ w j b u s L (if ns=[] then [] else us) ns w':=by
 have HJ:=qH h
 have hlen:(ns++[n]).length=ns.length+1:=by simp
 obtain⟨g,cap,hs,own,hcap⟩:=Yd (k:=ns.length) h.starts (by omega) (by omega);rw [hlen] at hs hcap;subst hs
 have own1:w.ownsRow 0 3 1 (.slice (some ⟨g,0,none⟩) ns.length cap) ns.length (Eo ns):=by
  have:(Eo (ns++[n])).take ns.length=Eo ns:=by unfold Eo;rw [←List.map_take,List.take_left]
  rw [this] at own;exact own
 clear own;have c2:w.cell? ⟨j,2,none⟩=some (.slice (some ⟨g,0,none⟩) (ns.length+1) cap):=h.blk.cell 2;have f2:w.frozen? ⟨j,2,none⟩=false:=h.blk.frozen 2
 have hw:IntKind.i64.wrap (((ns.length+1:Nat):Int)-1)=(ns.length:Int):=by rw [IntWalk.i64_in _ (by omega)];omega
 obtain⟨i0,hi0,_⟩:=info_parts TT;have hsl:=Yf (P:=qP) aU Yv hi0 Vx (some ⟨g,0,none⟩) (ns.length+1) cap ns.length (by omega);have J1:=(h.setS own1 (fun e=>h.nj.2.2.1 e)).drew;clear h hlen;obtain⟨W1,hW1⟩:∃ W1,W1=(w.setCell ⟨j,2,none⟩ (.slice (some ⟨g,0,none⟩) ns.length cap)).drew:=⟨_,rfl⟩;rw [←hW1] at J1
 have k1:At (Ep j b u (.slice (some ⟨g,0,none⟩) (ns.length+1) cap)) w W1:=by rw [hW1];exact(Sf _ _ _ _ _ _ _).step (Sg _ _)
 have HW:=qH hW1;have d2:W1.cell? ⟨j,2,none⟩=some (.slice (some ⟨g,0,none⟩) ns.length cap):=J1.blk.cell 2;have e1:W1.cell? ⟨j,1,none⟩=some u:=J1.blk.cell 1;have e2:W1.frozen? ⟨j,1,none⟩=false:=J1.blk.frozen 1;have e3:W1.frozen? ⟨j,2,none⟩=false:=J1.blk.frozen 2;have hJ1:=qH J1;clear hW1 J1;go_enter Tryz.func183,Tryz.ntmps183
 go_wp2_with fail
 go_region
 all_goals rw [←HW.out]
 all_goals clear c2 f2 hsl hw
 ·by_cases hn:ns=[]
  ·subst hn
   have J2:=hJ1.out.setU (us':=[]) (World.ownsRow_nil _ _ _ _) (fun e=>by cases e);have J3:=J2.setS (ns':=[]) (World.ownsRow_nil _ _ _ _) (fun e=>by cases e);have z1:(W1.setCell ⟨j,1,none⟩ (.slice none 0 0)).frozen? ⟨j,2,none⟩=false:=J2.blk.frozen 2;have z2:(W1.setCell ⟨j,1,none⟩ (.slice none 0 0)).cell? ⟨j,2,none⟩=some (.slice (some ⟨g,0,none⟩) 0 cap):=J2.blk.cell 2
   have R:=qH (show DJ w j b u (.slice (some ⟨g,0,none⟩) (0+1) cap) L [] [] ((W1.setCell ⟨j,1,none⟩ (.slice none 0 0)).setCell ⟨j,2,none⟩ (.slice none 0 0)) from
    ⟨_,_,J3,(k1.step (Sf _ _ _ _ _ _ _)).step (Sf _ _ _ _ _ _ _),LN (fun _ e=>by cases e) (fun _ e=>by cases e)⟩)
   clear J2 J3 k1;simp only [List.length_nil] at d2;go_wp2
   go_returns
   exact⟨⟨_,rfl⟩,by simpa using R.out⟩
  ·have hne:((ns.length:Int)==0)=false:=by
    rw [beq_eq_false_iff_ne];have:ns.length≠0:=fun e=>hn (List.eq_nil_of_length_eq_zero e)
    omega
   go_wp2
   go_returns
   exact⟨⟨_,rfl⟩,⟨_,_,hJ1.out,k1,LN (fun _ e=>e) (fun _ e=>e)⟩⟩
theorem JAt.began {w w1 w2:World} {j b:Nat} {u s s':Value} {L:List KV} {us:List CG} {ns ns':List Nat} (h:JAt w j b u s L us ns) (hb:Below w.heap.size w w1) (gr:w1.grownBy w2 s.ownBlock) (own:w2.ownsRow 0 3 1 s' ns'.length (Eo ns'))
  (at1:s.ownBlock=s'.ownBlock∨∃ g,s'.ownBlock=some g∧w.heap.size≤g):DJ w j b u s L us ns' (w2.setCell ⟨j,2,none⟩ s'):=by
 obtain⟨n1,n2,n3,n4,n5⟩:=h.nj;have h1:=h.below hb;have hj1:Blk w2 j 133 #[.pointer (some ⟨b,0,none⟩),u,s]:=h1.blk.grown gr (fun e=>n3 e.symm);have hjs:=h.blk.lt
 have nj':s'.ownBlock≠some j:=fun e=>by
  rcases at1 with a|⟨g,a,hg⟩
  ·exact n3 (a.trans e)
  ·rw [a] at e;cases e;omega
 have keep:At (Ep j b u s) w (w2.setCell ⟨j,2,none⟩ s'):=by
  refine(At.of_below _ hb).step ((At.of_grown gr (fun r e=>.inl (.inr (.inr (.inr e))))).step (At.of_grown (BO (BJ w2 (some j)) 2 s') (fun r e=>?_)))
  cases e
  exact .inl (.inl rfl)
 have blocks:∀ i,i<w.heap.size→i≠j→s.ownBlock≠some i→(w2.setCell ⟨j,2,none⟩ s').heap[i]?=w.heap[i]?:=fun i hi h2 h3 =>
  (Below.heap_setCell w2 ⟨j,2,none⟩ s' i h2).trans ((gr.block i (Nat.lt_of_lt_of_le hi hb.size) (fun e=>h3 e.symm)).trans (hb.block i hi))
 refine⟨u,s',⟨hj1.set_ 2 s',?_,Cw h.undos (fun g e=>?_),Cw own (fun g e=>?_)⟩,keep,Qe j b u s s' w at1⟩
 ·obtain⟨p,t,h2,h3,h4⟩:=h.store
  exact⟨p,t,(blocks b h2.lt n1.symm n5).trans h2,h3.kept (h.kept keep),h4⟩
 ·exact blocks g (h.bound (.inr (.inr (.inl e)))) (fun e2=>n2 (by rw [e,e2])) (fun e2=>h.apart e e2)
 ·exact Below.heap_setCell w2 ⟨j,2,none⟩ s' g (fun e2=>nj' (by rw [e];exact congrArg some e2))
theorem fQ (j b:Nat) (u s:Value) (L:List KV) (us:List CG) (ns:List Nat) (w:World) (h:JAt w j b u s L us ns) (hz:ns.length+1≤1000000000) :
  Calls qP 145 #[.pointer (some ⟨j,0,none⟩)] w fun e w'=>e=.returned (.int .i64 ((ns.length+1:Nat):Int))∧DJ w j b u s L us (ns++[us.length]) w':=by
 have HJ:=qH h;obtain⟨A,cap,rfl,hcap⟩:=Du h.starts;obtain⟨A1,cap1,rfl,hcap1⟩:=Du h.undos;have c1:w.cell? ⟨j,1,none⟩=some (.slice A1 us.length cap1):=h.blk.cell 1;have c2:w.cell? ⟨j,2,none⟩=some (.slice A ns.length cap):=h.blk.cell 2;have f2:w.frozen? ⟨j,2,none⟩=false:=h.blk.frozen 2;have hjl:=qH h.blk.lt;have HN:=qH h.nj.2.2.1;have HO:=qH h.starts;have HB:=qH h.blk;have d1a:∀ ob,(w.alloc ob).cell? ⟨j,1,none⟩=some (.slice A1 us.length cap1):=fun ob=>(HB.out.alloc ob).cell 1;have d2a:∀ ob,(w.alloc ob).cell? ⟨j,2,none⟩=some (.slice A ns.length cap):=fun ob=>(HB.out.alloc ob).cell 2;obtain⟨i0,hi,hz0,hz1,hz2⟩:=info_parts TT;clear h;go_enter Tryz.func145,Tryz.ntmps145;go_wp2
 go_region_law ((refine step_append_lies _ (by rfl) _ _ _ (by rfl) 0 3 i0 _ 1 8 Tryz.underlying131 hi hz0 hz1 hz2 rfl (by omega) (.slice A ns.length cap) ns.length (Eo ns) (by rfl) ((HO.out.alloc _).drew) ⟨w.heap.size,0,none⟩ 1 1 [.int .i64 us.length] (by rfl) (by rfl) (World.news_of_block (cs:=#[.int .i64 us.length]) (t:=3) (fr:=(0,0)) (heap_alloc_new w _)) (by simp [Value.oneCell']) (by omega) (by unfold maxLen;omega) (by omega) (by simp) (w.heap.size+1) (by simp) ?_;intro gg cap2 w1 hown1 hgrow hat hlt';have bj:=qH (HB.out.adg hgrow (fun e=>HN.out e.symm));have p1:w1.cell? ⟨j,2,none⟩=some (.slice A ns.length cap):=bj.out.cell 2;have q1:w1.frozen? ⟨j,2,none⟩=false:=bj.out.frozen 2))
 all_goals
  have R:=qH (HJ.out.began (w1:=(w.alloc _).drew) (ns':=ns++[us.length]) (((Below.refl _ w).alloc (Nat.le_refl _) _).drew) hgrow (by simpa [Eo] using hown1) (by
   rcases hat with h|h
   ·exact .inl h
   ·exact .inr ⟨gg,rfl,by omega⟩))
  have p2:(w1.setCell ⟨j,2,none⟩ (.slice (some ⟨gg,0,none⟩) (ns.length+1) cap2)).cell? ⟨j,2,none⟩=some (.slice (some ⟨gg,0,none⟩) (ns.length+1) cap2):=(bj.out.set_ 2 _).cell 2;clear hown1 hgrow hat hlt' p1 q1 c1 c2 f2 d1a d2a;go_wp2
  go_ret
  exact⟨by simp,R.out⟩
theorem aV (j b:Nat) (u s:Value) (L:List KV) (us:List CG) (ns:List Nat) (n:Nat) (w:World) (h:JAt w j b u s L us (ns++[n])) (hz:ns.length+1≤1000000000) :
  Calls qP 148 #[.pointer (some ⟨j,0,none⟩)] w fun e w'=>e=.returned (.int .i64 0)∧DJ w j b u s L (if ns=[] then [] else us) ns w':=by
 have H1:=qH (fP j b u s L us ns n w h hz);obtain⟨A,cap,rfl,hcap⟩:=Du h.starts;have c2:w.cell? ⟨j,2,none⟩=some (.slice A (ns++[n]).length cap):=h.blk.cell 2
 have hlen:(ns++[n]).length=ns.length+1:=by simp
 rw [hlen] at c2 H1 ⊢
 have hne:(((ns.length+1:Nat):Int)==0)=false:=by rw [beq_eq_false_iff_ne];omega
 clear h;generalize (if ns=[] then [] else us)=vs at *;go_enter Tryz.func148,Tryz.ntmps148
 go_wp2_with fail
 refine H1.out.mono ?_;rintro e w' ⟨⟨x,rfl⟩,hs⟩;go_wp2
 go_ret
 exact⟨rfl,hs⟩
section
variable {w:World} {S:Nat→Prop} {j m:Nat} {Lv:List (List KV)} {L:List KV}
theorem fR (h:Jr w S j Lv L m) (hm:m+2≤1000000000) :
  Calls qP 145 #[.pointer (some ⟨j,0,none⟩)] w fun e w'=>e=.returned (.int .i64 ((Lv.length+1:Nat):Int))∧Jm w S j (Lv++[L]) L (m+2) w':=by
 obtain⟨b,u,s,us,ns,h1,rfl,rfl,h4,h5⟩:=h;refine(fQ j b u s L us ns w h1 (by omega)).mono ?_;rintro e w' ⟨he,hs⟩;exact⟨by rw [he,Qb],Yh hs (RR L us ns) (Qd h4) (by rw [List.length_append,List.length_cons,List.length_nil];omega)⟩
theorem Yw {us:List CG} {ns:List Nat} {vs:List CG} (h:Gp us.length ns):Gp (if ns=[] then vs else us).length ns:=by
 split
 ·rename_i hn;subst hn;exact⟨List.Pairwise.nil,fun _ h=>by cases h⟩
 ·exact h
theorem aW {L:List KV} {us vs:List CG} {ns:List Nat}:Fx L (if ns=[] then vs else us) ns=Fx L us ns:=by
 split
 ·rename_i hn;subst hn;rfl
 ·rfl
theorem NN {Lv:List (List KV)} {x:List KV} {us:List CG} {ns:List Nat} (h:Fx L us ns=Lv++[x]):∃ ns' n,ns=ns'++[n]∧Fx L us ns'=Lv∧GP L (us.drop n)=x:=by
 have hne:ns≠[]:=fun e=>by rw [e] at h;simp [Fx] at h
 obtain⟨ns',n,rfl⟩:∃ ns' n,ns=ns'++[n]:=⟨ns.dropLast,ns.getLast hne,(List.dropLast_concat_getLast hne).symm⟩;rw [Vr] at h;have h1:=List.append_inj' h rfl;refine⟨ns',n,rfl,h1.1,?_⟩;have:=h1.2;injection this
theorem aX {x:List KV} (h:Jr w S j (Lv++[x]) L m) (hm:m+2≤1000000000) :
  Calls qP 148 #[.pointer (some ⟨j,0,none⟩)] w fun e w'=>e=.returned (.int .i64 0)∧Jm w S j Lv L m w':=by
 obtain⟨b,u,s,us,ns,h1,rfl,h3,h4,h5⟩:=h;obtain⟨ns',n,rfl,h6,_⟩:=NN h3;rw [List.length_append,List.length_cons,List.length_nil] at h5;obtain⟨h7,h8⟩:=RT h4;refine(aV j b u s L us ns' n w h1 (by omega)).mono ?_;rintro e w' ⟨he,hs⟩;refine⟨he,Yh hs (aW.trans h6) (Yw (LG h7 h8)) ?_⟩
 split
 ·simp only [List.length_nil];omega
 ·omega
end
def Fl (L:List KV) (P:List KV):List KV:=P.foldl (fun s p=>Az s p.1 p.2) L
theorem Qj {L P:List KV} {k:Nat} (h:k<P.length):Fl L (P.take (k+1))=Az (Fl L (P.take k)) P[k].1 P[k].2:=by
 unfold Fl;rw [List.take_succ_eq_append_getElem h,List.foldl_append]
 rfl
structure GS (w:World) (S:Nat→Prop) (j:Nat) (L M:List KV) (m:Nat) (v:Value) (P:List KV) (W:World):Prop where
 k:At S w W
 g:∃ S',AR S S' w∧Jr W S' j [L] M m
 p:Prs W v P
theorem GS.step {w W W':World} {S:Nat→Prop} {j:Nat} {L M M':List KV} {m m':Nat} {v:Value} {P:List KV} {S1:Nat→Prop} (h:GS w S j L M m v P W) (hg:AR S S1 w) (hv:∀ g,v.ownBlock=some g→g<w.heap.size∧¬S g) (hm:Jm W S1 j [L] M' m' W'):GS w S j L M' m' v P W':=by
 obtain⟨k2,S2,g2,hj⟩:=hm;exact⟨h.k.trans hg k2,⟨S2,hg.trans g2 h.k.size,hj⟩,h.p.out_of k2 fun g e hs=>(hg g hs).elim (hv g e).2 (fun h2=>by have:=(hv g e).1;omega)⟩
theorem GS.mono {w W:World} {S:Nat→Prop} {j:Nat} {L M:List KV} {m m':Nat} {v:Value} {P:List KV} (h:GS w S j L M m v P W) (hm:m≤m'):GS w S j L M m' v P W:=⟨h.k,by obtain⟨S1,hg,hj⟩:=h.g;exact⟨S1,hg,hj.mono hm⟩,h.p⟩
theorem GS.alloc {w W:World} {S:Nat→Prop} {j:Nat} {L M:List KV} {m:Nat} {v:Value} {P:List KV} (h:GS w S j L M m v P W) (ob:Obj):GS w S j L M m v P (W.alloc ob):=by
 have b:Below W.heap.size W (W.alloc ob):=(Below.refl _ W).alloc (Nat.le_refl _) _;obtain⟨S1,hg,hj⟩:=h.g;exact⟨h.k.trans hg (At.of_below _ b),⟨S1,hg,hj.below b⟩,h.p.below b⟩
theorem cW {w:World} {S:Nat→Prop} {j m cap:Nat} {A:Option Addr} {L P:List KV} (hJ:Jr w S j [] L m) (hP:Prs w (.slice A P.length cap) P) (hv:∀ g,(Value.slice A P.length cap).ownBlock=some g→g<w.heap.size∧¬S g) (hz:∀ p ∈ P,p.1.size≤65536∧p.2.size≤65536) (hm:m+100≤1000000000) (hn:P.length≤10) :
  Calls qP 97 #[.pointer (some ⟨j,0,none⟩),.slice A P.length cap] w fun e w'=>e=.returned (.int .i64 0)∧Jm w S j [] (Fl L P) (m+2+2*P.length) w':=by
 have HV:=qH hv;have HZ:=qH hz;have HJ:=qH (And.intro hJ hP);clear hJ hP hv hz;go_enter Tryz.func97,Tryz.ntmps97
 go_wp2_with fail
 refine(fR HJ.out.1 (by omega)).mono ?_;rintro e w1 ⟨rfl,hb⟩;have H0:Hid (GS w S j L (Fl L (P.take 0)) (m+2+2*0) (.slice A P.length cap) P w1):=qH ⟨hb.1,hb.2,HJ.out.2.out_of hb.1 fun g e=>(HV.out g e).2⟩;clear hb HJ;go_wp2
 go_loopw [12] (fun i wr=>∃ k:Nat,k≤P.length∧i=.int .i64 k∧Hid (GS w S j L (Fl L (P.take k)) (m+2+2*k) (.slice A P.length cap) P wr)) (fun i _=>P.length-(intOf i).toNat)
 case atStart=>exact⟨0,Nat.zero_le _,rfl,H0⟩
 case round =>
  clear H0;obtain⟨k,hk,rfl,HT⟩:=hrel;by_cases hlt:k<P.length
  ·have hz:=HZ.out P[k] (List.getElem_mem hlt)
   obtain⟨A',cap',e,_,hc⟩:=HT.out.p
   cases e
   obtain⟨b,off,rfl,d0,d1⟩:=hc k hlt
   have hi0:(0:Int)≤k:=by omega
   have hi1:(k:Int)<(P.length:Int):=by omega
   have hwr:IntKind.i64.wrap ((k:Int)+1)=(k:Int)+1:=IntWalk.i64_in _ (by omega);have HX:=qH (Qj (L:=L) hlt);obtain⟨p1,hp1⟩:∃ p1,p1=P[k].1:=⟨_,rfl⟩;obtain⟨p2,hp2⟩:∃ p2,p2=P[k].2:=⟨_,rfl⟩;rw [←hp1] at hz d0 HX;rw [←hp2] at hz d1 HX;clear hp1 hp2 hc;have HP:=qH (Blk.new wr 36 #[.string p1,.string p2]);have HA:=qH (HT.out.alloc (.cells #[.string p1,.string p2] 36));have q0:=HP.out.c 0 (v:=.string p1) rfl;have q1:=HP.out.c 1 (v:=.string p2) rfl;obtain⟨S1,hg,hj⟩:=HA.out.g;have HJ:=qH (And.intro hg hj);have HS:=qH (kZ p1 p2 hj hz.1 hz.2 (by omega));clear hg hj HT HP hz
   go_wp2_with fail
   refine HS.out.mono ?_;rintro en w3 ⟨rfl,hm3⟩;have HN:=qH ((HA.out.step HJ.out.1 HV.out hm3).mono (show m+2+2*k+2≤m+2+2*(k+1) by omega));rw [←HX.out] at HN;clear HS HA HJ hm3 q0 q1 d0 d1 HX;go_wp2
   go_roundw
   case rel=>exact⟨k+1,by omega,by go_num,HN⟩
   case measure=>simp [intOf];omega
  ·obtain rfl:k=P.length:=by omega
   rw [List.take_length] at HT;obtain⟨S1,hg,hj⟩:=HT.out.g;have HJ:=qH (And.intro hg hj);have HC:=qH (aX (Lv:=[]) hj (by omega));clear hg hj
   go_wp2_with fail
   refine HC.out.mono ?_;rintro en w3 ⟨rfl,hm3⟩;clear HC;go_wp2
   go_ret
   obtain⟨k2,S2,g2,h2⟩:=hm3;exact⟨rfl,HT.out.k.trans HJ.out.1 k2,S2,HJ.out.1.trans g2 HT.out.k.size,h2⟩
def Mb:List Int→Int
 | []=>0
 | e::l=>if e≠0 then e else Mb l
theorem orC (g c:Nat) (l:List Int) (w:World) (h:∀(i:Nat) (hi:i<l.length),w.cell? ⟨g,i,none⟩=some (.int .i64 l[i])) (hn:l.length≤1000000) :
  Calls qP 66 #[.slice (some ⟨g,0,none⟩) l.length c] w fun e w'=>e=.returned (.int .i64 (Mb l))∧Aa w w':=by
 obtain⟨r,hr⟩:∃ r,r=Mb l:=⟨_,rfl⟩;rw [←hr];have HR:=qH hr;have HC:=qH h;clear hr h;go_enter Tryz.func66,Tryz.ntmps66;go_wp2
 go_loopw [8] (fun i wr=>∃ k:Nat,k≤l.length∧i=.int .i64 k∧Hid (r=Mb (l.drop k))∧Hid (Aa w wr)) (fun i _=>l.length-(intOf i).toNat)
 case atStart=>exact⟨0,Nat.zero_le _,rfl,qH (by rw [List.drop_zero];exact HR.out),qH (Aa.refl w)⟩
 case round =>
  obtain⟨k,hk,rfl,HT,HS⟩:=hrel;by_cases hlt:k<l.length
  ·have hc:=HS.out.cell (HC.out k hlt)
   have hi0:(0:Int)≤k:=by omega
   have hi1:(k:Int)<(l.length:Int):=by omega
   have hT2:=HT.out;rw [List.drop_eq_getElem_cons hlt,Mb] at hT2;obtain⟨x,hx⟩:∃ x,x=l[k]:=⟨_,rfl⟩;rw [←hx] at hc hT2;clear hx HT HC HR;by_cases h1:x=0
   ·subst h1
    rw [if_neg (by simp)] at hT2;have HT2:=qH hT2;clear hT2;go_wp2
    go_roundw
    case rel=>exact⟨k+1,by omega,by go_num,HT2,HS⟩
    case measure=>simp [intOf];omega
   ·rw [if_pos h1] at hT2
    subst hT2
    have hb:(r != 0)=true:=by rw [bne_iff_ne];exact h1
    go_wp2
    go_ret
    exact⟨rfl,HS.out⟩
  ·obtain rfl:k=l.length:=by omega
   have h3:r=0:=by have:=HT.out;rw [List.drop_length] at this;exact this
   subst h3;go_wp2
   go_ret
   exact⟨rfl,HS.out⟩
theorem or2 (t:TypeId) (e f:Int) (W:World) (g:Nat) (h:Blk W g t #[.int .i64 e,.int .i64 f]) :
  Calls qP 66 #[.slice (some ⟨g,0,none⟩) 2 2] W fun en w'=>en=.returned (.int .i64 (Mb [e,f]))∧Aa W w' :=
 orC g 2 [e,f] W (fun i hi=>by
  match i,hi with
  | 0,_=>exact(h.cell 0).trans rfl
  | 1,_=>exact(h.cell 1).trans rfl) (by simp)
theorem or4 (t:TypeId) (e f a b:Int) (W:World) (g:Nat) (h:Blk W g t #[.int .i64 e,.int .i64 f,.int .i64 a,.int .i64 b]) :
  Calls qP 66 #[.slice (some ⟨g,0,none⟩) 4 4] W fun en w'=>en=.returned (.int .i64 (Mb [e,f,a,b]))∧Aa W w' :=
 orC g 4 [e,f,a,b] W (fun i hi=>by
  match i,hi with
  | 0,_=>exact(h.cell 0).trans rfl
  | 1,_=>exact(h.cell 1).trans rfl
  | 2,_=>exact(h.cell 2).trans rfl
  | 3,_=>exact(h.cell 3).trans rfl) (by simp)
theorem Yx (c k:ByteArray) (h:Int) (f:Bool) (z:Int) (hz:z=if f then 1 else 0) (s1 s2 s3 s4:List UInt8) (w:World) (l1:s1.length≤100000) (l2:s2.length≤100000) (l3:s3.length≤100000) (l4:s4.length≤100000)
  (K1:Hid (∀ W,Calls qP 62 #[.string c] W fun e w'=>e=.returned (.tuple #[.string (bs s1),.int .i64 0])∧Below W.heap.size W w'))
  (K2:Hid (∀ W,Calls qP 62 #[.string k] W fun e w'=>e=.returned (.tuple #[.string (bs s2),.int .i64 0])∧Below W.heap.size W w'))
  (K3:Hid (∀ W,Calls qP 65 #[.int .i64 h] W fun e w'=>e=.returned (.tuple #[.string (bs s3),.int .i64 0])∧Below W.heap.size W w'))
  (K4:Hid (∀ W,Calls qP 65 #[.int .i64 z] W fun e w'=>e=.returned (.tuple #[.string (bs s4),.int .i64 0])∧Below W.heap.size W w'))
  (O:Hid (∀ W g,Blk W g 42 #[.int .i64 0,.int .i64 0,.int .i64 0,.int .i64 0]→Calls qP 66 #[.slice (some ⟨g,0,none⟩) 4 4] W fun e w'=>e=.returned (.int .i64 0)∧Aa W w')) :
  Calls qP 98 #[.agg #[.string c,.string k,.int .i64 h,.bool f]] w fun e w'=>e=.returned (.tuple #[.string (bs (((s1++s2)++s3)++s4)),.int .i64 0])∧Aa w w':=by
 have a1:∀ W,(Op.stringOp .add (bs s1) (bs s2)).run qP W=.ok (.string (bs (s1++s2))) W:=fun W=>AB W s1 s2 (by omega);have a2:∀ W,(Op.stringOp .add (bs (s1++s2)) (bs s3)).run qP W=.ok (.string (bs ((s1++s2)++s3))) W:=fun W=>AB W _ _ (by rw [List.length_append];omega);have a3:∀ W,(Op.stringOp .add (bs ((s1++s2)++s3)) (bs s4)).run qP W=.ok (.string (bs (((s1++s2)++s3)++s4))) W:=fun W=>AB W _ _ (by rw [List.length_append,List.length_append];omega);generalize ((s1++s2)++s3)++s4=x3 at *;generalize (s1++s2)++s3=x2 at *;generalize s1++s2=x1 at *;clear l1 l2 l3 l4;have HB:=qH (Blk.new w 41 #[.string c,.string k,.int .i64 h,.bool f]);have HS:=qH (Ab (Aa.refl w) (.cells #[.string c,.string k,.int .i64 h,.bool f] 41));have HZ:=qH hz;clear hz
 cases f
 all_goals
  have hz:=HZ.out;simp only [Bool.false_eq_true,if_false,if_true] at hz;subst hz;have y0:(w.alloc (.cells #[.string c,.string k,.int .i64 h,.bool _] 41)).cell? ⟨w.heap.size,0,none⟩=some (.string c):=HB.out.c 0 rfl;have y3:(w.alloc (.cells #[.string c,.string k,.int .i64 h,.bool _] 41)).cell? ⟨w.heap.size,3,none⟩=some (.bool _):=HB.out.c 3 rfl;go_enter Tryz.func98,Tryz.ntmps98
  go_wp2_with fail
  refine(K1.out _).mono ?_;rintro e w1 ⟨rfl,q⟩;have X1:=qH (HB.out.next q);have S1:=qH (Ad (Ae HS.out.below q));clear y0 y3 HB HS K1 q;have y0:w1.cell? ⟨w.heap.size,1,none⟩=some (.string k):=X1.out.c 1 rfl
  go_wp2_with fail
  refine(K2.out _).mono ?_;rintro e w2 ⟨rfl,q⟩;have X2:=qH (X1.out.next q);have S2:=qH (Ad (Ae S1.out.below q));clear X1 S1 K2 q y0;have y0:w2.cell? ⟨w.heap.size,2,none⟩=some (.int .i64 h):=X2.out.c 2 rfl
  go_wp2_with fail
  refine(K3.out _).mono ?_;rintro e w3 ⟨rfl,q⟩;have S3:=qH (Ad (Ae S2.out.below q));clear X2 S2 K3 q y0
  go_wp2_with fail
  refine(K4.out _).mono ?_;rintro e w4 ⟨rfl,q⟩;have S4:=qH (Ad (Ae S3.out.below q));clear S3 K4 q;have B5:=qH (Blk.new w4 42 #[.int .i64 0,.int .i64 0,.int .i64 0,.int .i64 0]);have S5:=qH (Ab S4.out (.cells #[.int .i64 0,.int .i64 0,.int .i64 0,.int .i64 0] 42));clear S4
  go_wp2_with fail
  refine(O.out _ _ B5.out).mono ?_;rintro e w6 ⟨rfl,q6⟩;have S6:=qH (Ac S5.out q6);clear S5 B5 O q6;go_wp2
  go_ret2
  exact⟨rfl,S6.out⟩
theorem jH {w:World} {b:Nat} {x:ByteArray} (h:Blk w b 9 #[.string x]):Txs w w.heap.size (.slice (some ⟨b,0,none⟩) 1 1) [x] :=
 ⟨_,1,rfl,fun i hi=>by
  have:i=0:=by simpa using hi
  subst this
  exact⟨b,0,rfl,h.lt,(h.cell 0).trans rfl⟩⟩
theorem jI {w:World} {b:Nat} {x y:ByteArray} (h:Blk w b 9 #[.string x,.string y]):Txs w w.heap.size (.slice (some ⟨b,0,none⟩) 2 2) [x,y] :=
 ⟨_,2,rfl,fun i hi=>by
  match i,hi with
  | 0,_=>exact⟨b,0,rfl,h.lt,(h.cell 0).trans rfl⟩
  | 1,_=>exact⟨b,0,rfl,h.lt,(h.cell 1).trans rfl⟩⟩
theorem cX (wd x:ByteArray) (b:Nat) (w:World) (hL:ED w) (h:Blk w b 9 #[.string x]) (h1:wd.size≤1000000) (h2:x.size≤1000000) :
  Calls qP 85 #[.string wd,.slice (some ⟨b,0,none⟩) 1 1] w fun e w'=>e=.returned (.string (bs (Fp wd [x])))∧Aa w w' :=
 (bY wd _ [x] w hL (jH h) (by simp [tot];omega)).mono fun _ _ ⟨he,hb⟩=>⟨he,Ad hb⟩
theorem jJ (wd x y:ByteArray) (b:Nat) (w:World) (hL:ED w) (h:Blk w b 9 #[.string x,.string y]) (h1:wd.size≤1000000) (h2:x.size≤1000000) (h3:y.size≤1000000) :
  Calls qP 85 #[.string wd,.slice (some ⟨b,0,none⟩) 2 2] w fun e w'=>e=.returned (.string (bs (Fp wd [x,y])))∧Aa w w' :=
 (bY wd _ [x,y] w hL (jI h) (by simp [tot];omega)).mono fun _ _ ⟨he,hb⟩=>⟨he,Ad hb⟩
theorem Qk (w:World) (hL:ED w):Calls qP 67 #[] w fun e w'=>e=.returned (.string Ce)∧Aa w w':=by
 have B:=qH (Blk.new w 9 #[.string Gq]);have S0:=qH (Ab (Aa.refl w) (.cells #[.string Gq] 9));have H:=qH (cX OM Gq _ _ (hL.next S0.out.below) B.out (by decide) (by decide));obtain⟨k,hk⟩:∃ k,k=Ce:=⟨_,rfl⟩;rw [show bs (Fp OM [Gq])=k from hk.symm] at H;rw [←hk];clear hk;unfold OM Gq at H;unfold Gq at S0;clear B;go_enter Tryz.func67,Tryz.ntmps67
 go_wp2_with fail
 refine H.out.mono ?_;rintro e w1 ⟨rfl,q⟩;go_wp2
 go_ret
 exact⟨rfl,Ac S0.out q⟩
theorem LO (id:ByteArray) (hid:id.size≤1000000) (w:World) (hL:ED w):Calls qP 34 #[.string id] w fun e w'=>e=.returned (.string (BN id))∧Aa w w':=by
 have B:=qH (Blk.new w 9 #[.string id]);have S0:=qH (Ab (Aa.refl w) (.cells #[.string id] 9));have H:=qH (cX Gq id _ _ (hL.next S0.out.below) B.out (by decide) hid);obtain⟨k,hk⟩:∃ k,k=BN id:=⟨_,rfl⟩;rw [show bs (Fp Gq [id])=k from hk.symm] at H;rw [←hk];clear hk B;unfold Gq at H;go_enter Tryz.func34,Tryz.ntmps34
 go_wp2_with fail
 refine H.out.mono ?_;rintro e w1 ⟨rfl,q⟩;go_wp2
 go_ret
 exact⟨rfl,Ac S0.out q⟩
theorem Yy (n:Int):(nTx n).size≤14:=by unfold nTx;rw [Aw,Iz];exact Nat.le_refl _
theorem NO (id k n:ByteArray) (h:Int) (w:World)
  (N:Hid (∀ W,Aa w W→Calls qP 108 #[.int .i64 h] W fun e w'=>e=.returned (.string n)∧Aa W w'))
  (J:Hid (∀ W b,Aa w W→Blk W b 9 #[.string id,.string n]→Calls qP 85 #[.string ⟨#[115,101,101,110]⟩,.slice (some ⟨b,0,none⟩) 2 2] W fun e w'=>e=.returned (.string k)∧Aa W w')) :
  Calls qP 60 #[.string id,.int .i64 h] w fun e w'=>e=.returned (.string k)∧Aa w w':=by
 go_enter Tryz.func60,Tryz.ntmps60
 go_wp2_with fail
 refine(N.out _ (Aa.refl w)).mono ?_;rintro e w1 ⟨rfl,q⟩;have B1:=qH (Blk.new w1 9 #[.string id,.string n]);have S1:=qH (Ab q (.cells #[.string id,.string n] 9));clear N q
 go_wp2_with fail
 refine(J.out _ _ S1.out B1.out).mono ?_;rintro e w2 ⟨rfl,q⟩;have S2:=qH (Ac S1.out q);clear J B1 S1 q;go_wp2
 go_ret
 exact⟨rfl,S2.out⟩
theorem Ql (id:ByteArray) (hid:id.size≤1000000) (h:Int) (w:World) (hL:ED w):Calls qP 60 #[.string id,.int .i64 h] w fun e w'=>e=.returned (.string (Bf id h))∧Aa w w' :=
 NO id (Bf id h) (nTx h) h w (qH fun W hW=>(Zx h W (hL.next hW.below)).mono fun _ _ ⟨he,hb⟩=>⟨he,Ad hb⟩) (qH fun W b hW hB=>jJ La id (nTx h) b W (hL.next hW.below) hB (by decide) hid (by have:=Yy h;omega))
end Go.Proofs.YtkejaepmoabikaaGreatDoor.W
