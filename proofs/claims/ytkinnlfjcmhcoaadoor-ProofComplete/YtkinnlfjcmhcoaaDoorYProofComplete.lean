/-
  footbridgelaw12.ProofComplete returns true for any list of pairs and any key, and changes nothing: of pairs that rise each key's proof tells what is, also as bytes and back. Condition: the table sha.roots starts as the program's text lays it (tied by the card).
-/
import Derived.Test.YtkinnlfjcmhcoaaDoorCards
import Derived.Test.YtkinnlfjcmhcoaaDoorTie
import Derived.Deep.DeepHandedRow
import Derived.Test.YtkinnlfjcmhcoaaDoorYXCmp
import Derived.Test.YtkinnlfjcmhcoaaDoorZ2a
import Derived.Test.YtkinnlfjcmhcoaaDoorZXRead
import Derived.Test.YtkinnlfjcmhcoaaDoorZ0e
import Derived.Test.YtkinnlfjcmhcoaaDoorYXTells
import Derived.Test.YtkinnlfjcmhcoaaDoorZ0f
namespace Go.Proofs.YtkinnlfjcmhcoaaDoor.proofComplete
open Go.ChangeShapes Go.WideShapes Go.ChangeAt Go.RowKit
open Go.ChangeMaps (open_string shut_string)
open W

theorem walk (w : World) (hd : Roots w) (v : Value) (l : List KV) (hP : Prs w v l) (key : ByteArray) (_hk : key.size ≤ maxLen) :
    Calls Tryd.prog 6 #[v, .string key] w fun e w' => e = .returned (.bool true) ∧ Below w.heap.size w w' := by
  have hf := few12C v l 20 w hP (by decide)
  have hA : Hid (∀ W, Since w W → Calls Tryd.prog 9 #[] W fun e w' => e = .returned (.bool true) ∧ Since w w') := Lib.hid fun W hW => (awake12 W (roots_since hd hW) readC).mono fun e w' ⟨he, hs⟩ => ⟨he, two_steps hW hs⟩
  by_cases hF : l.length ≤ 20 ∧ Brief l
  · have hR : Hid (∀ W, Since w W → Calls Tryd.prog 22 #[v] W fun e w' => e = .returned (.bool (decide (Up l))) ∧ Since w w') := Lib.hid fun W hW => (risesC v l W (hP.below hW.below) (by omega)).mono fun e w' ⟨he, hs⟩ => ⟨he, two_steps hW hs⟩
    have hf' : Hid (Calls Tryd.prog 8 #[v, .int .i64 20] w fun e w' => e = .returned (.bool (decide (l.length ≤ 20 ∧ Brief l))) ∧ Since w w') := Lib.hid (hf.mono fun e w' ⟨he, hb⟩ => ⟨he, since_of hb⟩)
    by_cases hU : key.size ≤ 100 ∧ Up l
    · obtain ⟨hk, hu⟩ := hU
      rw [decide_eq_true hF] at hf'
      rw [decide_eq_true hu] at hR
      obtain ⟨val, ok, hg, hh, hlk⟩ := tells hu hF.1 key
      have hpl : Plain (bld l key) := plain_bld (by omega) (prs_sizes hF.2)
      have hx := bld_paths hF.1 key
      have hn1 := hpl.n1
      have hnl := hpl.near
      have hpl2 := hpl.paths
      have hform : ∀ W u, Prf W u (bld l key) → ∃ A1 c1 A2 c2, u = pvv (bld l key).n (bld l key).pos (bld l key).there A1 (bld l key).near.length c1 A2 (bld l key).paths.length c2 := fun W u h => by
        obtain ⟨nv, pv, rfl, ⟨A1, c1, rfl, _, _⟩, ⟨A2, c2, rfl, _, _⟩⟩ := h
        exact ⟨A1, c1, A2, c2, rfl⟩
      refine (complete_this v key val (bs (pfBytes (bld l key))) (rootOf l) (bld l key) (bld l key).n (bld l key).pos (bld l key).there ok (bld l key).near.length (bld l key).paths.length w hk hf' hR ?_ ?_ ?_ ?_ ?_ ?_ ?_ hA).mono fun e w' ⟨he, hs⟩ => ⟨he, hs.below⟩
      · exact Lib.hid fun W hW => (buildC v l key W (hP.below hW.below) (roots_since hd hW) (by omega)).mono fun e w' ⟨u, he, hp, hs⟩ => by
          rw [any_up hu] at hp
          obtain ⟨A1, c1, A2, c2, rfl⟩ := hform _ _ hp
          exact ⟨A1, c1, A2, c2, he, hp, two_steps hW hs⟩
      · exact Lib.hid fun W u hW hp => (putC _ u W hp (by omega) (by omega) (fun q hq => (hx q hq).1)).mono fun e w' ⟨he, hs⟩ => ⟨by rw [he, enc_plain hpl]; rfl, two_steps hW hs⟩
      · exact Lib.hid fun W hW => (readC _ W (by rw [bs_size]; have := plain_len hpl; omega)).mono fun e w' ⟨u, he, hp, hs⟩ => by
          have hb := rd_back hpl []
          rw [List.append_nil, if_pos rfl] at hb
          rw [hb] at he hp
          obtain ⟨A1, c1, A2, c2, rfl⟩ := hform _ _ hp
          exact ⟨A1, c1, A2, c2, he, hp, two_steps hW hs⟩
      · exact Lib.hid fun W hW => (rGet v l key W (hP.below hW.below) hu (by omega)).mono fun e w' ⟨he, hs⟩ => ⟨by rw [he, hg], hs⟩
      · exact Lib.hid fun W hW => (rootC l v W (hP.below hW.below) (roots_since hd hW) (by omega)).mono fun e w' ⟨he, hb⟩ => ⟨he, since_of hb, since_of (step_below hW.below hb)⟩
      · exact Lib.hid fun W u hW hp => (hasC (rootOf l) (key, val) _ u W hp (roots_since hd hW) (by omega) hx).mono fun e w' ⟨he, hs⟩ => ⟨by rw [he, hh], hs, two_steps hW hs⟩
      · exact Lib.hid fun W u hW hp => (lacksC (rootOf l) key _ u W hp (roots_since hd hW) (by omega) hx).mono fun e w' ⟨he, hs⟩ => ⟨by rw [he, hlk], hs, two_steps hW hs⟩
    · refine (complete_no v key _ _ w ?_ hf' hR hA).mono fun e w' ⟨he, hs⟩ => ⟨he, hs.below⟩
      exact fun h => hU ⟨h.2.1, of_decide_eq_true h.2.2⟩
  · rw [decide_eq_false hF] at hf
    have H0 := Lib.hid hf
    clear hf
    go_enter Tryd.func6, Tryd.ntmps6
    go_wp2_with fail
    refine H0.out.mono ?_
    rintro e w1 ⟨rfl, b1⟩
    go_wp2_with fail
    refine (hA.out w1 (since_of b1)).mono ?_
    rintro e w7 ⟨rfl, b7⟩
    go_wp2
    go_ret
    exact ⟨rfl, b7.below⟩
noncomputable def laidWorld (os : Os) : World :=
  { World.holding Tryd.prog os ⟨#[], #[], []⟩ with heap := ((World.holding Tryd.prog os ⟨#[], #[], []⟩).heap.modify 0 (fun | .cells _ t frozen => .cells #[.int .u32 1116352408, .int .u32 1899447441, .int .u32 3049323471, .int .u32 3921009573, .int .u32 961987163, .int .u32 1508970993, .int .u32 2453635748, .int .u32 2870763221, .int .u32 3624381080, .int .u32 310598401, .int .u32 607225278, .int .u32 1426881987, .int .u32 1925078388, .int .u32 2162078206, .int .u32 2614888103, .int .u32 3248222580, .int .u32 3835390401, .int .u32 4022224774, .int .u32 264347078, .int .u32 604807628, .int .u32 770255983, .int .u32 1249150122, .int .u32 1555081692, .int .u32 1996064986, .int .u32 2554220882, .int .u32 2821834349, .int .u32 2952996808, .int .u32 3210313671, .int .u32 3336571891, .int .u32 3584528711, .int .u32 113926993, .int .u32 338241895, .int .u32 666307205, .int .u32 773529912, .int .u32 1294757372, .int .u32 1396182291, .int .u32 1695183700, .int .u32 1986661051, .int .u32 2177026350, .int .u32 2456956037, .int .u32 2730485921, .int .u32 2820302411, .int .u32 3259730800, .int .u32 3345764771, .int .u32 3516065817, .int .u32 3600352804, .int .u32 4094571909, .int .u32 275423344, .int .u32 430227734, .int .u32 506948616, .int .u32 659060556, .int .u32 883997877, .int .u32 958139571, .int .u32 1322822218, .int .u32 1537002063, .int .u32 1747873779, .int .u32 1955562222, .int .u32 2024104815, .int .u32 2227730452, .int .u32 2361852424, .int .u32 2428436474, .int .u32 2756734187, .int .u32 3204031479, .int .u32 3329325298] t frozen | o => o)) }
theorem laid_met (os : Os) : laidMet Tryd.prog Rows.proofCompleteRow.laid ((laidWorld os).forCall (fun _ _ => 0) ⟨#[], #[.slice none 0 0, .string ByteArray.empty], []⟩).memory :=
  laidMet_of_run' 8 (by kernel_rfl) (by kernel_rfl)
theorem reads (os : Os) {H : Type} (enc : TypeId × Value → H) : ∃ ds places, DataW.whole enc Tryd.prog ((laidWorld os).forCall (fun _ _ => 0) ⟨#[], #[.slice none 0 0, .string ByteArray.empty], []⟩).memory Tryd.f6.params.toList Rows.proofCompleteSpec.vars false (#[.slice none 0 0, .string ByteArray.empty] : Array Value).toList 8 = some (ds, [], places) :=
  ⟨[.nil, .lit (.string [])], [], by kernel_rfl⟩
set_option maxRecDepth 100000 in
theorem contract (H : Type) (enc : TypeId × Value → H) (W : World) (base : Nat) (args : Array Value) (ds gs : List (DataW H)) (before : List MemPlace)
    (hval0 : ∀ (j : Nat) t v, Tryd.f6.params[j]? = some t → args[j]? = some v → Value.okWide Tryd.prog W .any base t v)
    (hW : DataW.Whole enc Tryd.prog Tryd.f6.params.toList Rows.proofCompleteSpec.vars false W args.toList ds gs before) (hL : laidMetH Tryd.prog Rows.proofCompleteRow.laid W) (_hS : W.ShapedOpen Tryd.prog) :
    Calls Tryd.prog 6 args W fun e W' => ∃ v, e = .returned v ∧ Rows.proofCompleteSpec.post enc Tryd.prog Tryd.f6 false true false false W args v W' := by
  have hval : ∀ (j : Nat) t v, Tryd.f6.params[j]? = some t → args[j]? = some v → Value.okWide Tryd.prog W .any base t v := hval0
  have hW' := hW
  obtain ⟨p, q, hA0, hV, rfl, hfz, hnd⟩ := hW
  have hA : DataW.TrodAll enc Tryd.prog W 0 (fun _ => true) true Tryd.f6.params.toList args.toList ds p := hA0
  rw [Tryd.params6] at hA hval
  have hK := hA
  obtain ⟨v0, vs0, d0, ds0, p0, q0, hargs, rfl, rfl, h0, r0⟩ := trodAll_cons hA
  obtain ⟨v1, vs1, d1, ds1, p1, q1, rfl, rfl, rfl, h1, r1⟩ := trodAll_cons r0
  obtain ⟨rfl, rfl, rfl⟩ := trodAll_nil r1
  obtain rfl : args = #[v0, v1] := by cases args; simp_all
  obtain ⟨rfl, rfl⟩ := trodVars_none hV
  obtain ⟨A0, len0, cap0, rfl⟩ := okWide_slice Tryd.underlying22 (hval 0 22 v0 rfl rfl)
  obtain ⟨a0, w0, l0⟩ := open_prs h0
  obtain ⟨a1, rfl, rfl, rfl, w1⟩ := open_string Tryd.underlying9 (hval 1 9 v1 rfl rfl) h1
  clear hA0 hval0
  refine (walk W (roots_of hL) _ a0 w0 a1 w1).mono fun e W' ⟨he, bel⟩ => ?_
  subst he
  exact ⟨_, rfl, _, _, _, [], _, [], hW', trodAll_mk1 (shut_bool Tryd.underlying4 _), trodAll_under laidOut bel _ _ _ _ (by kernel_rfl) hK, rfl, bel.frame _, fun h => by cases h⟩
set_option maxRecDepth 100000 in
theorem lifted (os : Os) (started : os.Started) (H : Type) (enc : TypeId × Value → H) (F : Stop.Interp) :
    ReturnsInHanded {} Tryd.checked os 6 .any ((OpenSpec.ofChange Rows.proofCompleteSpec).preRow enc Tryd.prog Tryd.f6 Rows.proofCompleteRow.domain false Rows.proofCompleteRow.laid) (((OpenSpec.ofChange Rows.proofCompleteSpec).at F).post enc Tryd.prog Tryd.f6 false true false false) := by
  obtain ⟨ds, places, hx⟩ := reads os enc
  refine returnsInHanded_of_row (C := Tryd.checked) (s := OpenSpec.ofChange Rows.proofCompleteSpec) own started (by kernel_rfl) Tryd.func6
    (witness_row_at (enc := enc) (C := Tryd.checked) false (laidWorld os) #[.slice none 0 0, .string ByteArray.empty] rfl (by kernel_rfl) (by kernel_rfl) (by kernel_rfl)
      (OpenSpec.preRow_of_cond 8 hx (by kernel_rfl) (fun k hk => by cases hk) (by kernel_rfl) (laid_met os))) ?_
  intro W base args ds gs before hval hW _ _ _ hL hS _
  exact contract H enc W base args ds gs before hval hW hL hS
theorem said : Rows.ProofCompleteSaid :=
  OpenClaim.holds_of_cond 6 Tryd.f6 rfl rfl rfl rfl rfl rfl rfl ⟨rfl, rfl, rfl, rfl, rfl⟩ rfl rfl rfl rfl rfl (by kernel_rfl) Tryd.func6 (by kernel_rfl)
    (of_decide_eq_true (by kernel_rfl)) (by unfold Func.isWrapper; first | (rw [if_pos (by decide +kernel)]; kernel_rfl) | (rw [if_neg (by decide +kernel)]; exact ⟨rfl, rfl⟩))
    (fun os started H enc _ F => by rw [OpenClaim.pre_eq_preRow]; exact lifted os started H enc F)
theorem plain (f : FuncId) (fn : Func) (hf : Tryd.pinned.checked.prog.funcNamed "footbridge/footbridgelaw12.ProofComplete" = some f) (hfn : Tryd.pinned.checked.prog.funcs[f]? = some fn) :
    false = Tryd.pinned.checked.prog.looks [] ∧ ∀ (j : Nat) t, fn.params[j]? = some t → Tryd.pinned.checked.prog.wantsStandIn t = false := by
  obtain rfl : f = 6 := Option.some.inj ((show Tryd.prog.funcNamed "footbridge/footbridgelaw12.ProofComplete" = some 6 by kernel_rfl).symm.trans hf) |>.symm
  obtain rfl : fn = Tryd.f6 := (Option.some.inj (Tryd.func6.symm.trans hfn)).symm
  refine ⟨by kernel_rfl, fun j t ht => ?_⟩
  rw [Tryd.params6] at ht
  have hd : t = 22 ∨ t = 9 := by simpa using Array.mem_of_getElem? ht
  rcases hd with rfl | rfl
  · exact (show Tryd.prog.wantsStandIn 22 = false by kernel_rfl)
  · exact (show Tryd.prog.wantsStandIn 9 = false by kernel_rfl)
theorem proofComplete_holds : Rows.ProofCompleteCardSaid :=
  Claim7.holds_tied_plain_at .later [] _ _ _ _ said (fun _ h => by cases h) (by kernel_rfl) (fun _ h => by cases h) proofComplete_row_tie rfl ⟨rfl, rfl⟩ (by kernel_rfl) rfl plain (by kernel_rfl)
#print axioms proofComplete_holds
end Go.Proofs.YtkinnlfjcmhcoaaDoor.proofComplete
