/-
  footbridgelaw12.ProofLooks returns true for any root, any pair and any proof, and changes nothing: Has and Lacks answer what the reference's do. Condition: the table sha.roots starts as the program's text lays it (tied by the card).
-/
import Derived.Test.YtkinnlfjcmhcoaaDoorCards
import Derived.Test.YtkinnlfjcmhcoaaDoorTie
import Derived.Deep.DeepHandedRow
import Derived.Test.YtkinnlfjcmhcoaaDoorYXLooks
import Derived.Test.YtkinnlfjcmhcoaaDoorZ0e
import Derived.Test.YtkinnlfjcmhcoaaDoorYXRLacks
import Derived.Test.YtkinnlfjcmhcoaaDoorZ2a
import Derived.Test.YtkinnlfjcmhcoaaDoorZXRead
import Derived.Test.YtkinnlfjcmhcoaaDoorYXPair
import Derived.Test.YtkinnlfjcmhcoaaDoorZ0f
namespace Go.Proofs.YtkinnlfjcmhcoaaDoor.proofLooks
open Go.ChangeShapes Go.WideShapes Go.ChangeAt Go.RowKit
open Go.ChangeMaps (open_string shut_string)
open W

theorem walk (w : World) (hd : Roots w) (root : ByteArray) (_hk : root.size ≤ maxLen) (p : KV) (v : Value) (x : Pf) (hP : Prf w v x) (hI : PfIn x) :
    Calls Tryd.prog 4 #[.string root, .agg #[.string p.1, .string p.2], v] w fun e w' => e = .returned (.bool true) ∧ Below w.heap.size w w' := by
  have hA : Hid (∀ W, Since w W → Calls Tryd.prog 9 #[] W fun e w' => e = .returned (.bool true) ∧ Since W w') := Lib.hid fun W hW => awake12 W (roots_since hd hW) readC
  have hS : Hid (∀ W, Since w W → Calls Tryd.prog 13 #[v] W fun e w' => e = .returned (.bool (decide (Slim x))) ∧ Since W w') := Lib.hid fun W hW => smallC v x W (hP.below hW.below) hI.ln hI.lp
  obtain ⟨nv, pv, e, ⟨B1, e1, r1, q1, q2⟩, ⟨B2, e2, r2, q3, q4⟩⟩ := hP
  have hP : Prf w v x := ⟨nv, pv, e, ⟨B1, e1, r1, q1, q2⟩, ⟨B2, e2, r2, q3, q4⟩⟩
  clear q1 q2 q3 q4
  subst r1 r2 e
  by_cases hT : Slim x ∧ root.size ≤ 100 ∧ p.1.size ≤ 200 ∧ p.2.size ≤ 200
  · obtain ⟨hs, h0, h1, h2⟩ := hT
    have hs2 := hs
    obtain ⟨⟨l1, l2⟩, l3, l4⟩ := hs2
    have hq : ∀ q ∈ x.paths, q.length ≤ 1000000 ∧ ∀ y ∈ q, y.length ≤ 1000 := fun q hq => ⟨by have := (l4 q hq).1; omega, fun y hy => by have := (l4 q hq).2 y hy; omega⟩
    obtain ⟨R, rfl⟩ : ∃ R : List UInt8, root = bs R := ⟨_, (bs_of root).symm⟩
    refine (looks_this (bs R) p.1 p.2 x.n x.pos x.there B1 x.near.length e1 B2 x.paths.length e2 w (hasP R p x) (lacksP R p.1 x) _ (decide_eq_true hs) h0 h1 h2 hS ?_ ?_ ?_ ?_ hA).mono fun e w' ⟨he, hb⟩ => ⟨he, hb.below⟩
    · exact Lib.hid fun W hW => (rHasC R p x _ W (hP.below hW.below) hI.n1 hq).mono fun e w' ⟨u, M, he, ho, _⟩ => by
        obtain ⟨A, c, rfl⟩ := own_sl ho
        exact ⟨A, _, c, he, since_of ho.below⟩
    · exact Lib.hid fun W hW => (rLacksC R p.1 x _ W (hP.below hW.below) hI (fun _ _ => hq)).mono fun e w' ⟨u, M, he, ho, _⟩ => by
        obtain ⟨A, c, rfl⟩ := own_sl ho
        exact ⟨A, _, c, he, since_of ho.below⟩
    · exact Lib.hid fun W hW => hasC R p x _ W (hP.below hW.below) (roots_since hd hW) hI.n1 hq
    · exact Lib.hid fun W hW => lacksC R p.1 x _ W (hP.below hW.below) (roots_since hd hW) hI.n1 hq
  · refine (looks_no root p.1 p.2 x.n x.pos x.there B1 x.near.length e1 B2 x.paths.length e2 w _ ?_ hS hA).mono fun e w' ⟨he, hb⟩ => ⟨he, hb.below⟩
    exact fun h => hT ⟨of_decide_eq_true h.1, h.2⟩
noncomputable def laidWorld (os : Os) : World :=
  { World.holding Tryd.prog os ⟨#[], #[], []⟩ with heap := ((World.holding Tryd.prog os ⟨#[], #[], []⟩).heap.modify 0 (fun | .cells _ t frozen => .cells #[.int .u32 1116352408, .int .u32 1899447441, .int .u32 3049323471, .int .u32 3921009573, .int .u32 961987163, .int .u32 1508970993, .int .u32 2453635748, .int .u32 2870763221, .int .u32 3624381080, .int .u32 310598401, .int .u32 607225278, .int .u32 1426881987, .int .u32 1925078388, .int .u32 2162078206, .int .u32 2614888103, .int .u32 3248222580, .int .u32 3835390401, .int .u32 4022224774, .int .u32 264347078, .int .u32 604807628, .int .u32 770255983, .int .u32 1249150122, .int .u32 1555081692, .int .u32 1996064986, .int .u32 2554220882, .int .u32 2821834349, .int .u32 2952996808, .int .u32 3210313671, .int .u32 3336571891, .int .u32 3584528711, .int .u32 113926993, .int .u32 338241895, .int .u32 666307205, .int .u32 773529912, .int .u32 1294757372, .int .u32 1396182291, .int .u32 1695183700, .int .u32 1986661051, .int .u32 2177026350, .int .u32 2456956037, .int .u32 2730485921, .int .u32 2820302411, .int .u32 3259730800, .int .u32 3345764771, .int .u32 3516065817, .int .u32 3600352804, .int .u32 4094571909, .int .u32 275423344, .int .u32 430227734, .int .u32 506948616, .int .u32 659060556, .int .u32 883997877, .int .u32 958139571, .int .u32 1322822218, .int .u32 1537002063, .int .u32 1747873779, .int .u32 1955562222, .int .u32 2024104815, .int .u32 2227730452, .int .u32 2361852424, .int .u32 2428436474, .int .u32 2756734187, .int .u32 3204031479, .int .u32 3329325298] t frozen | o => o)) }
theorem laid_met (os : Os) : laidMet Tryd.prog Rows.proofLooksRow.laid ((laidWorld os).forCall (fun _ _ => 0) ⟨#[], #[.string ByteArray.empty, .agg #[.string ByteArray.empty, .string ByteArray.empty], .agg #[.int .i64 0, .int .i64 0, .bool false, .slice none 0 0, .slice none 0 0]], []⟩).memory :=
  laidMet_of_run' 8 (by kernel_rfl) (by kernel_rfl)
theorem reads (os : Os) {H : Type} (enc : TypeId × Value → H) : ∃ ds places, DataW.whole enc Tryd.prog ((laidWorld os).forCall (fun _ _ => 0) ⟨#[], #[.string ByteArray.empty, .agg #[.string ByteArray.empty, .string ByteArray.empty], .agg #[.int .i64 0, .int .i64 0, .bool false, .slice none 0 0, .slice none 0 0]], []⟩).memory Tryd.f4.params.toList Rows.proofLooksSpec.vars false (#[.string ByteArray.empty, .agg #[.string ByteArray.empty, .string ByteArray.empty], .agg #[.int .i64 0, .int .i64 0, .bool false, .slice none 0 0, .slice none 0 0]] : Array Value).toList 8 = some (ds, [], places) :=
  ⟨[.lit (.string []), .agg [.lit (.string []), .lit (.string [])], .agg [.lit (.int .i64 0), .lit (.int .i64 0), .lit (.bool false), .nil, .nil]], [], by kernel_rfl⟩
set_option maxRecDepth 100000 in
theorem contract (H : Type) (enc : TypeId × Value → H) (W : World) (base : Nat) (args : Array Value) (ds gs : List (DataW H)) (before : List MemPlace)
    (hval0 : ∀ (j : Nat) t v, Tryd.f4.params[j]? = some t → args[j]? = some v → Value.okWide Tryd.prog W .any base t v)
    (hW : DataW.Whole enc Tryd.prog Tryd.f4.params.toList Rows.proofLooksSpec.vars false W args.toList ds gs before) (hL : laidMetH Tryd.prog Rows.proofLooksRow.laid W) (_hS : W.ShapedOpen Tryd.prog) :
    Calls Tryd.prog 4 args W fun e W' => ∃ v, e = .returned v ∧ Rows.proofLooksSpec.post enc Tryd.prog Tryd.f4 false true false false W args v W' := by
  have hval : ∀ (j : Nat) t v, Tryd.f4.params[j]? = some t → args[j]? = some v → Value.okWide Tryd.prog W .any base t v := hval0
  have hW' := hW
  obtain ⟨p, q, hA0, hV, rfl, hfz, hnd⟩ := hW
  have hA : DataW.TrodAll enc Tryd.prog W 0 (fun _ => true) true Tryd.f4.params.toList args.toList ds p := hA0
  rw [Tryd.params4] at hA hval
  have hK := hA
  obtain ⟨v0, vs0, d0, ds0, p0, q0, hargs, rfl, rfl, h0, r0⟩ := trodAll_cons hA
  obtain ⟨v1, vs1, d1, ds1, p1, q1, rfl, rfl, rfl, h1, r1⟩ := trodAll_cons r0
  obtain ⟨v2, vs2, d2, ds2, p2, q2, rfl, rfl, rfl, h2, r2⟩ := trodAll_cons r1
  obtain ⟨rfl, rfl, rfl⟩ := trodAll_nil r2
  obtain rfl : args = #[v0, v1, v2] := by cases args; simp_all
  obtain ⟨rfl, rfl⟩ := trodVars_none hV
  obtain ⟨a0, rfl, rfl, rfl, w0⟩ := open_string Tryd.underlying9 (hval 0 9 v0 rfl rfl) h0
  obtain ⟨a1, rfl⟩ := open_pair (hval 1 32 v1 rfl rfl) h1
  obtain ⟨a2, w2, b2⟩ := open_prf (hval 2 28 v2 rfl rfl) h2
  clear hA0 hval0
  refine (walk W (roots_of hL) a0 w0 a1 _ a2 w2 b2).mono fun e W' ⟨he, bel⟩ => ?_
  subst he
  exact ⟨_, rfl, _, _, _, [], _, [], hW', trodAll_mk1 (shut_bool Tryd.underlying4 _), trodAll_under laidOut bel _ _ _ _ (by kernel_rfl) hK, rfl, bel.frame _, fun h => by cases h⟩
set_option maxRecDepth 100000 in
theorem lifted (os : Os) (started : os.Started) (H : Type) (enc : TypeId × Value → H) (F : Stop.Interp) :
    ReturnsInHanded {} Tryd.checked os 4 .any ((OpenSpec.ofChange Rows.proofLooksSpec).preRow enc Tryd.prog Tryd.f4 Rows.proofLooksRow.domain false Rows.proofLooksRow.laid) (((OpenSpec.ofChange Rows.proofLooksSpec).at F).post enc Tryd.prog Tryd.f4 false true false false) := by
  obtain ⟨ds, places, hx⟩ := reads os enc
  refine returnsInHanded_of_row (C := Tryd.checked) (s := OpenSpec.ofChange Rows.proofLooksSpec) own started (by kernel_rfl) Tryd.func4
    (witness_row_at (enc := enc) (C := Tryd.checked) false (laidWorld os) #[.string ByteArray.empty, .agg #[.string ByteArray.empty, .string ByteArray.empty], .agg #[.int .i64 0, .int .i64 0, .bool false, .slice none 0 0, .slice none 0 0]] rfl (by kernel_rfl) (by kernel_rfl) (by kernel_rfl)
      (OpenSpec.preRow_of_cond 8 hx (by kernel_rfl) (fun k hk => by cases hk) (by kernel_rfl) (laid_met os))) ?_
  intro W base args ds gs before hval hW _ _ _ hL hS _
  exact contract H enc W base args ds gs before hval hW hL hS
theorem said : Rows.ProofLooksSaid :=
  OpenClaim.holds_of_cond 4 Tryd.f4 rfl rfl rfl rfl rfl rfl rfl ⟨rfl, rfl, rfl, rfl, rfl⟩ rfl rfl rfl rfl rfl (by kernel_rfl) Tryd.func4 (by kernel_rfl)
    (of_decide_eq_true (by kernel_rfl)) (by unfold Func.isWrapper; first | (rw [if_pos (by decide +kernel)]; kernel_rfl) | (rw [if_neg (by decide +kernel)]; exact ⟨rfl, rfl⟩))
    (fun os started H enc _ F => by rw [OpenClaim.pre_eq_preRow]; exact lifted os started H enc F)
theorem plain (f : FuncId) (fn : Func) (hf : Tryd.pinned.checked.prog.funcNamed "footbridge/footbridgelaw12.ProofLooks" = some f) (hfn : Tryd.pinned.checked.prog.funcs[f]? = some fn) :
    false = Tryd.pinned.checked.prog.looks [] ∧ ∀ (j : Nat) t, fn.params[j]? = some t → Tryd.pinned.checked.prog.wantsStandIn t = false := by
  obtain rfl : f = 4 := Option.some.inj ((show Tryd.prog.funcNamed "footbridge/footbridgelaw12.ProofLooks" = some 4 by kernel_rfl).symm.trans hf) |>.symm
  obtain rfl : fn = Tryd.f4 := (Option.some.inj (Tryd.func4.symm.trans hfn)).symm
  refine ⟨by kernel_rfl, fun j t ht => ?_⟩
  rw [Tryd.params4] at ht
  have hd : t = 9 ∨ t = 32 ∨ t = 28 := by simpa using Array.mem_of_getElem? ht
  rcases hd with rfl | rfl | rfl
  · exact (show Tryd.prog.wantsStandIn 9 = false by kernel_rfl)
  · exact (show Tryd.prog.wantsStandIn 32 = false by kernel_rfl)
  · exact (show Tryd.prog.wantsStandIn 28 = false by kernel_rfl)
theorem proofLooks_holds : Rows.ProofLooksCardSaid :=
  Claim7.holds_tied_plain_at .later [] _ _ _ _ said (fun _ h => by cases h) (by kernel_rfl) (fun _ h => by cases h) proofLooks_row_tie rfl ⟨rfl, rfl⟩ (by kernel_rfl) rfl plain (by kernel_rfl)
#print axioms proofLooks_holds
end Go.Proofs.YtkinnlfjcmhcoaaDoor.proofLooks
