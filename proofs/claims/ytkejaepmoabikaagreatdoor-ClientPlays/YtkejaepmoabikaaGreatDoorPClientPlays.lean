/-
  footbridgelaw14.ClientPlays returns true for any pairs and any deeds, and changes nothing: clients play as the document says. Condition: the tables, errors and the type of errors that the row lists start as the program's text lays them (tied by the card).
-/
import Derived.Test.YtkejaepmoabikaaGreatDoorCards
import Derived.Test.YtkejaepmoabikaaGreatDoorTie
import Derived.Deep.DeepHandedRow
import Derived.Test.YtkejaepmoabikaaGreatDoorP3a
import Derived.Test.YtkejaepmoabikaaGreatDoorP0g
import Derived.Test.YtkejaepmoabikaaGreatDoorP1d
import Derived.Test.YtkejaepmoabikaaGreatDoorP0d
namespace Go.Proofs.YtkejaepmoabikaaGreatDoor.clientPlays
open Go.ChangeShapes Go.WideShapes Go.ChangeAt Go.RowKit
open Go.ChangeMaps (open_string shut_string)
open W
open Lib renaming hid → qH
open _root_.Go.Proofs.Tryz renaming prog → qP
set_option maxRecDepth 100000 in
theorem lD (w:World) (E:Fit w) (v:Value) (l:List KV) (hP:Prs w v l) (v2:Value) (ds:List DR) (hD:NR w v2 ds) :
  Calls qP 3 #[v,v2] w fun e w'=>e=.returned (.bool true)∧Below w.heap.size w w':=by
 have FW:=qH (fun W (hW:Aa w W)=>(Za v l 12 W (hP.below hW.below) (by omega)).mono fun e w' (h:e=.returned (.bool (decide (l.length≤12∧Dk l)))∧Below W.heap.size W w')=>And.intro h.1 (Ad h.2));have AW:=qH (fun W (hW:Aa w W)=>bT W (E.since hW));have hP0:=hP;obtain⟨A,cap,rfl,_,_⟩:=hP0;have hD0:=hD;obtain⟨A2,cap2,rfl,_,_⟩:=hD0;by_cases hc:(l.length≤12∧Dk l)∧ds.length≤30
 ·obtain⟨⟨hl,hs⟩,hd⟩:=hc
  rw [decide_eq_true (And.intro hl hs)] at FW;have hF:=jR (by omega) hs;obtain⟨x2,hx2⟩:∃ x2,x2=bs (Bl (AY l)):=⟨_,rfl⟩
  have hsz:x2.size=32:=by rw [hx2,Aw];exact Bc _
  have hg1:=Qw (t:=3) (r:=x2) (by omega)
  refine(Su A l.length cap A2 cap2 ds hd w (Cq 3 x2) (AY l) hD hg1 FW (qH fun W hW=>Qu W (E.since hW)) (qH fun W S j B q r hW hJ hPs hn=>?_) (qH fun x y W b hW hB=>?_) (qH fun b j A2 q2 r2=>jT E hF b j A2 q2 r2) (qH fun b j A2 q2 r2=>jU E hF b j A2 q2 r2)
   (qH fun k b j A A2 q r q2 r2 id W hk hid h=>?_) (qH fun k b j A A2 q r q2 r2 W hk h=>?_) AW).mono fun _ _ ⟨he,hb⟩=>⟨he,hb.below⟩
  ·have k:=Ui j 14 S B A q r cap 3 l W (E.since hW) (by omega) (by decide) hJ (by decide) (by decide) hPs hn (hP.below hW.below)
   rw [←hx2] at k;exact k
  ·have k:=Za (.slice (some ⟨b,0,none⟩) 1 1) [(x,y)] 1 W (YZ hB) (by omega)
   rw [show decide ([(x,y)].length≤1∧Dk [(x,y)])=decide (x.size≤150∧y.size≤300) from decide_eq_decide.2 (by simp [Dk])] at k;exact k.mono fun _ _ ⟨h1,h2⟩=>⟨h1,Ad h2⟩
  ·obtain⟨⟨S,L,m,hp,hg,hm⟩,hb,hs⟩:=h
   exact⟨(AA L id).1.chain,(AA L id).1.key,(AA L id).1.height,(AA L id).1.frozen,(AA L id).2,fun V hV=>Qn (hp.jr.below hV.below) hg.sized (E.since (Ac hs hV)).play id (by omega),fun V hV=>Nt (hp.st.below hV.below) hp.jr.up (by have:=hg.len;omega) hg.sized id (by omega)⟩
  ·obtain⟨⟨S,L,m,hp,hg,hm⟩,hb,hs⟩:=h
   have k:=Yl (A2:=A2) (m2:=q2) (c2:=r2) (N:=1) hp.jr hp.st (by omega);rw [decide_eq_true rfl] at k;exact k
 ·refine(YX A l.length cap A2 ds.length cap2 _ ?_ w FW AW).mono fun _ _ ⟨he,hb⟩=>⟨he,hb.below⟩
  by_cases h1:l.length≤12∧Dk l
  ·exact .inr (by have:¬ds.length≤30:=fun h=>hc ⟨h1,h⟩;omega)
  ·exact .inl (decide_eq_false h1)
noncomputable def low:Nat:=(World.holding qP default ⟨#[],#[],[]⟩).heap.size
noncomputable def JK (os:Os):World :=
 { World.holding qP os ⟨#[.cells #[.string ⟨#[118,97,108,117,101,32,111,117,116,32,111,102,32,114,97,110,103,101]⟩] 316,.cells #[.string ⟨#[105,110,118,97,108,105,100,32,115,121,110,116,97,120]⟩] 316],#[],[]⟩ with heap:=((((((((((World.holding qP os ⟨#[.cells #[.string ⟨#[118,97,108,117,101,32,111,117,116,32,111,102,32,114,97,110,103,101]⟩] 316,.cells #[.string ⟨#[105,110,118,97,108,105,100,32,115,121,110,116,97,120]⟩] 316],#[],[]⟩).heap.modify 8 (fun|.cells _ t frozen=>.cells #[.int .u8 0,.int .u8 1,.int .u8 28,.int .u8 2,.int .u8 29,.int .u8 14,.int .u8 24,.int .u8 3,.int .u8 30,.int .u8 22,.int .u8 20,.int .u8 15,.int .u8 25,.int .u8 17,.int .u8 4,.int .u8 8,.int .u8 31,.int .u8 27,.int .u8 13,.int .u8 23,.int .u8 21,.int .u8 19,.int .u8 16,.int .u8 7,.int .u8 26,.int .u8 12,.int .u8 18,.int .u8 6,.int .u8 11,.int .u8 5,.int .u8 10,.int .u8 9] t frozen|o=>o)).modify 9 (fun|.cells _ t frozen=>.cells #[.int .u8 0,.int .u8 1,.int .u8 56,.int .u8 2,.int .u8 57,.int .u8 49,.int .u8 28,.int .u8 3,.int .u8 61,.int .u8 58,.int .u8 42,.int .u8 50,.int .u8 38,.int .u8 29,.int .u8 17,.int .u8 4,.int .u8 62,.int .u8 47,.int .u8 59,.int .u8 36,.int .u8 45,.int .u8 43,.int .u8 51,.int .u8 22,.int .u8 53,.int .u8 39,.int .u8 33,.int .u8 30,.int .u8 24,.int .u8 18,.int .u8 12,.int .u8 5,.int .u8 63,.int .u8 55,.int .u8 48,.int .u8 27,.int .u8 60,.int .u8 41,.int .u8 37,.int .u8 16,.int .u8 46,.int .u8 35,.int .u8 44,.int .u8 21,.int .u8 52,.int .u8 32,.int .u8 23,.int .u8 11,.int .u8 54,.int .u8 26,.int .u8 40,.int .u8 15,.int .u8 34,.int .u8 20,.int .u8 31,.int .u8 10,.int .u8 25,.int .u8 14,.int .u8 19,.int .u8 9,.int .u8 13,.int .u8 8,.int .u8 7,.int .u8 6] t frozen|o=>o)).modify 2 (fun|.cells _ t frozen=>.cells #[.int .u32 1116352408,.int .u32 1899447441,.int .u32 3049323471,.int .u32 3921009573,.int .u32 961987163,.int .u32 1508970993,.int .u32 2453635748,.int .u32 2870763221,.int .u32 3624381080,.int .u32 310598401,.int .u32 607225278,.int .u32 1426881987,.int .u32 1925078388,.int .u32 2162078206,.int .u32 2614888103,.int .u32 3248222580,.int .u32 3835390401,.int .u32 4022224774,.int .u32 264347078,.int .u32 604807628,.int .u32 770255983,.int .u32 1249150122,.int .u32 1555081692,.int .u32 1996064986,.int .u32 2554220882,.int .u32 2821834349,.int .u32 2952996808,.int .u32 3210313671,.int .u32 3336571891,.int .u32 3584528711,.int .u32 113926993,.int .u32 338241895,.int .u32 666307205,.int .u32 773529912,.int .u32 1294757372,.int .u32 1396182291,.int .u32 1695183700,.int .u32 1986661051,.int .u32 2177026350,.int .u32 2456956037,.int .u32 2730485921,.int .u32 2820302411,.int .u32 3259730800,.int .u32 3345764771,.int .u32 3516065817,.int .u32 3600352804,.int .u32 4094571909,.int .u32 275423344,.int .u32 430227734,.int .u32 506948616,.int .u32 659060556,.int .u32 883997877,.int .u32 958139571,.int .u32 1322822218,.int .u32 1537002063,.int .u32 1747873779,.int .u32 1955562222,.int .u32 2024104815,.int .u32 2227730452,.int .u32 2361852424,.int .u32 2428436474,.int .u32 2756734187,.int .u32 3204031479,.int .u32 3329325298] t frozen|o=>o)).modify 5 (fun|.cells _ t frozen=>.cells #[.int .u64 1,.int .u64 10,.int .u64 100,.int .u64 1000,.int .u64 10000,.int .u64 100000,.int .u64 1000000,.int .u64 10000000,.int .u64 100000000,.int .u64 1000000000,.int .u64 10000000000,.int .u64 100000000000,.int .u64 1000000000000,.int .u64 10000000000000,.int .u64 100000000000000,.int .u64 1000000000000000,.int .u64 10000000000000000,.int .u64 100000000000000000,.int .u64 1000000000000000000,.int .u64 10000000000000000000] t frozen|o=>o)).modify 7 (fun|.cells _ t frozen=>.cells #[.int .u8 128,.int .u8 191,.int .u8 160,.int .u8 191,.int .u8 128,.int .u8 159,.int .u8 144,.int .u8 191,.int .u8 128,.int .u8 143,.int .u8 0,.int .u8 0,.int .u8 0,.int .u8 0,.int .u8 0,.int .u8 0,.int .u8 0,.int .u8 0,.int .u8 0,.int .u8 0,.int .u8 0,.int .u8 0,.int .u8 0,.int .u8 0,.int .u8 0,.int .u8 0,.int .u8 0,.int .u8 0,.int .u8 0,.int .u8 0,.int .u8 0,.int .u8 0] t frozen|o=>o)).modify 0 (fun|.cells _ t frozen=>.cells #[.iface 246 (.agg #[.pointer (some ⟨10,103,none⟩)])] t frozen|o=>o)).modify 4 (fun|.cells _ t frozen=>.cells #[.iface 314 (.pointer (some ⟨low+0,0,none⟩))] t frozen|o=>o)).modify 3 (fun|.cells _ t frozen=>.cells #[.iface 314 (.pointer (some ⟨low+1,0,none⟩))] t frozen|o=>o)).modify 6 (fun|.cells _ t frozen=>.cells (Go.Pinned.utf8FirstZ.map fun(n:Nat)=>Value.int .u8 (n:Int)).toArray t frozen|o=>o)) }
theorem Zi (os:Os):laidMetH qP Rows.clientPlaysRow.laid ((JK os).forCall (fun _ _=>0) ⟨#[],#[.slice none 0 0,.slice none 0 0],[]⟩).memory :=
 laidMetH_of_parts (laidMet_of_run' 8 (by kernel_rfl) (by kernel_rfl)) (by kernel_rfl)
theorem kB (os:Os) {H:Type} (enc:TypeId×Value→H):∃ ds places,DataW.whole enc qP ((JK os).forCall (fun _ _=>0) ⟨#[],#[.slice none 0 0,.slice none 0 0],[]⟩).memory Tryz.f3.params.toList Rows.clientPlaysSpec.vars false (#[.slice none 0 0,.slice none 0 0]:Array Value).toList 8=some (ds,[],places) :=
 ⟨[.nil,.nil],[],by kernel_rfl⟩
set_option maxRecDepth 100000 in
theorem Zj (H:Type) (enc:TypeId×Value→H) (W:World) (base:Nat) (args:Array Value) (ds gs:List (DataW H)) (before:List MemPlace)
  (hval0:∀(j:Nat) t v,Tryz.f3.params[j]?=some t→args[j]?=some v→Value.okWide qP W .any base t v)
  (hW:DataW.Whole enc qP Tryz.f3.params.toList Rows.clientPlaysSpec.vars false W args.toList ds gs before) (hL:laidMetH qP Rows.clientPlaysRow.laid W) (hS:W.ShapedOpen qP) :
  Calls qP 3 args W fun e W'=>∃ v,e=.returned v∧Rows.clientPlaysSpec.post enc qP Tryz.f3 false true false false W args v W':=by
 have hval:∀(j:Nat) t v,Tryz.f3.params[j]?=some t→args[j]?=some v→Value.okWide qP W .any base t v:=hval0;have hW':=hW;obtain⟨p,q,hA0,hV,rfl,hfz,hnd⟩:=hW;have hA:DataW.TrodAll enc qP W 0 (fun _=>true) true Tryz.f3.params.toList args.toList ds p:=hA0;rw [Tryz.params3] at hA hval;have hK:=hA;obtain⟨v0,vs0,d0,ds0,p0,q0,hargs,rfl,rfl,h0,r0⟩:=trodAll_cons hA;obtain⟨v1,vs1,d1,ds1,p1,q1,rfl,rfl,rfl,h1,r1⟩:=trodAll_cons r0;obtain⟨rfl,rfl,rfl⟩:=trodAll_nil r1
 obtain rfl:args=#[v0,v1]:=by cases args;simp_all
 obtain⟨rfl,rfl⟩:=trodVars_none hV;obtain⟨A0,len0,cap0,rfl⟩:=okWide_slice Tryz.underlying22 (hval 0 22 v0 rfl rfl);obtain⟨a0,w0,l0⟩:=Xk h0;obtain⟨A1,len1,cap1,rfl⟩:=okWide_slice Tryz.underlying23 (hval 1 23 v1 rfl rfl);obtain⟨a1,w1,l1⟩:=VL h1;clear hA0 hval0;refine(lD W (gE hL hS) _ a0 w0 _ a1 w1).mono fun e W' ⟨he,bel⟩=>?_;subst he;exact⟨_,rfl,_,_,_,[],_,[],hW',trodAll_mk1 (shut_bool Tryz.underlying4 _),LY ZT bel _ _ _ _ (by kernel_rfl) hK,rfl,bel.frame _,fun h=>by cases h⟩
set_option maxRecDepth 100000 in
theorem gF (os:Os) (started:os.Started) (H:Type) (enc:TypeId×Value→H) (F:Stop.Interp) :
  ReturnsInHanded {} Tryz.checked os 3 .any ((OpenSpec.ofChange Rows.clientPlaysSpec).preRow enc qP Tryz.f3 Rows.clientPlaysRow.domain false Rows.clientPlaysRow.laid) (((OpenSpec.ofChange Rows.clientPlaysSpec).at F).post enc qP Tryz.f3 false true false false):=by
 obtain⟨ds,places,hx⟩:=kB os enc;refine returnsInHanded_of_row (C:=Tryz.checked) (s:=OpenSpec.ofChange Rows.clientPlaysSpec) own started (by kernel_rfl) Tryz.func3
  (witness_row_at (enc:=enc) (C:=Tryz.checked) false (JK os) #[.slice none 0 0,.slice none 0 0] rfl (by kernel_rfl) (by kernel_rfl) (by kernel_rfl)
    (OpenSpec.preRow_of_cond 8 hx (by kernel_rfl) (fun k hk=>by cases hk) (by kernel_rfl) (Zi os))) ?_
 intro W base args ds gs before hval hW _ _ _ hL hS _;exact Zj H enc W base args ds gs before hval hW hL hS
theorem lE:Rows.ClientPlaysSaid :=
 OpenClaim.holds_of_cond 3 Tryz.f3 rfl rfl rfl rfl rfl rfl rfl ⟨rfl,rfl,rfl,rfl,rfl⟩ rfl rfl rfl rfl rfl (by kernel_rfl) Tryz.func3 gD
  (of_decide_eq_true (by kernel_rfl)) (by unfold Func.isWrapper;first|(rw [if_pos (by decide +kernel)];kernel_rfl)|(rw [if_neg (by decide +kernel)];exact⟨rfl,rfl⟩))
  (fun os started H enc _ F=>by rw [OpenClaim.pre_eq_preRow];exact gF os started H enc F)
theorem plain (f:FuncId) (fn:Func) (hf:Tryz.pinned.checked.prog.funcNamed "footbridge/footbridgelaw14.ClientPlays"=some f) (hfn:Tryz.pinned.checked.prog.funcs[f]?=some fn) :
  true=Tryz.pinned.checked.prog.looks []∧∀(j:Nat) t,fn.params[j]?=some t→Tryz.pinned.checked.prog.wantsStandIn t=false:=by
 obtain rfl:f=3:=Option.some.inj ((show qP.funcNamed "footbridge/footbridgelaw14.ClientPlays"=some 3 by kernel_rfl).symm.trans hf) |>.symm;obtain rfl:fn=Tryz.f3:=(Option.some.inj (Tryz.func3.symm.trans hfn)).symm;refine⟨by kernel_rfl,fun j t ht=>?_⟩;rw [Tryz.params3] at ht
 have hd:t=22∨t=23:=by simpa using Array.mem_of_getElem? ht
 rcases hd with rfl|rfl
 ·exact(show qP.wantsStandIn 22=false by kernel_rfl)
 ·exact(show qP.wantsStandIn 23=false by kernel_rfl)
theorem clientPlays_holds:Rows.ClientPlaysCardSaid :=
 Claim7.holds_tied_plain_at .later [] _ _ _ _ lE (fun _ h=>by cases h) (by kernel_rfl) (fun _ h=>by cases h) clientPlays_row_tie rfl ⟨rfl,rfl⟩ (by kernel_rfl) rfl plain (by kernel_rfl)
#print axioms clientPlays_holds
end Go.Proofs.YtkejaepmoabikaaGreatDoor.clientPlays
