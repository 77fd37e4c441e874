/-
  footbridgelaw01.WireNone returns true for every kind, and changes nothing: a nil reader answers 0, the empty text, an empty list and ErrNil, whichever method is called first. No condition.
-/
import Derived.Test.YtdjljpkoodonjaaWLift
import Derived.Test.YtdjljpkoodonjaaWAwake
namespace Go.Proofs.Ytdjljpkoodonjaa.wireNone
open Go.ChangeShapes Go.WideShapes Go.ChangeAt Go.RowKit
open W

set_option maxHeartbeats 1000000 in
theorem walk (k : Int) (h0 : 0 ≤ k) (h1 : k ≤ 255) (w : World) :
    Calls Try.prog 6 #[.int .u8 k] w fun e w' => e = .returned (.bool true) ∧ Below w.heap.size w w' := by
  by_cases hk : k % 2 = 0
  · have hb : ((k % 2 : Int) == 0) = true := beq_iff_eq.2 hk
    clear hk
    go_enter Try.func6, Try.ntmps6
    go_wp2_with (first | (go_at_call 23; refine (doneNil _).mono ?_; rintro e w' ⟨rfl, rfl⟩) | (go_at_call 16; refine (numNil _).mono ?_; rintro e w' ⟨rfl, rfl⟩) | (go_at_call 18; refine (textNil _).mono ?_; rintro e w' ⟨rfl, rfl⟩) | (go_at_call 21; refine (listNil _).mono ?_; rintro e w' ⟨rfl, rfl⟩) | (go_at_call 22; refine (errNil _).mono ?_; rintro e w' ⟨rfl, rfl⟩) | (go_at_call 7; refine (awake _).mono ?_; rintro e w' ⟨rfl, hbel⟩))
    go_ret
    exact ⟨rfl, by assumption⟩
  · have hb : ((k % 2 : Int) == 0) = false := beq_eq_false_iff_ne.2 hk
    clear hk
    go_enter Try.func6, Try.ntmps6
    go_wp2_with (first | (go_at_call 23; refine (doneNil _).mono ?_; rintro e w' ⟨rfl, rfl⟩) | (go_at_call 16; refine (numNil _).mono ?_; rintro e w' ⟨rfl, rfl⟩) | (go_at_call 18; refine (textNil _).mono ?_; rintro e w' ⟨rfl, rfl⟩) | (go_at_call 21; refine (listNil _).mono ?_; rintro e w' ⟨rfl, rfl⟩) | (go_at_call 22; refine (errNil _).mono ?_; rintro e w' ⟨rfl, rfl⟩) | (go_at_call 7; refine (awake _).mono ?_; rintro e w' ⟨rfl, hbel⟩))
    go_ret
    exact ⟨rfl, by assumption⟩

set_option maxRecDepth 100000 in
theorem lifted (os : Os) (started : os.Started) (H : Type) (enc : TypeId × Value → H) :
    ReturnsInHanded {} Try.checked os 6 .any (Rows.wireNoneSpec.pre6 enc Try.prog Try.f6 Rows.wireNoneRow.domain false) (Rows.wireNoneSpec.post enc Try.prog Try.f6 false true false false) := by
  refine returnsInHanded_of_change (C := Try.checked) own started (by kernel_rfl) Try.func6
    (ChangeSpec.witness6 (enc := enc) (C := Try.checked) false ⟨#[], #[.int .u8 0], []⟩ 8 (by kernel_rfl) (by kernel_rfl) (by kernel_rfl) (by kernel_rfl)) ?_
  intro W base args ds gs before hval0 hW hcnd _
  have hval : ∀ (j : Nat) t v, Try.f6.params[j]? = some t → args[j]? = some v → Value.okWide Try.prog W .any base t v := hval0
  have hW' := hW
  obtain ⟨p, q, hA0, hV, rfl, hfz, hnd⟩ := hW
  have hA : DataW.TrodAll enc Try.prog W 0 (fun _ => true) true Try.f6.params.toList args.toList ds p := hA0
  rw [Try.params6] at hA hval
  have hK := hA
  obtain ⟨v0, vs0, d0, ds0, p0, q0, hargs, rfl, rfl, h0, r0⟩ := trodAll_cons hA
  obtain ⟨rfl, rfl, rfl⟩ := trodAll_nil r0
  obtain rfl : args = #[v0] := by cases args; simp_all
  obtain ⟨rfl, rfl⟩ := trodVars_none hV
  obtain ⟨a0, rfl, rfl, rfl, w0⟩ := open_int Try.underlying5 (hval 0 5 v0 rfl rfl) h0
  clear hA0 hval0
  have hbd := bounds_u8 w0
  refine (walk a0 hbd.1 hbd.2 W).mono fun e W' ⟨he, bel⟩ => ?_
  subst he
  exact ⟨_, rfl, _, _, _, [], _, [], hW', trodAll_mk1 (shut_bool Try.underlying4 _), trodAll_under laidOut bel _ _ _ _ (by kernel_rfl) hK, rfl, bel.frame _, fun h => by cases h⟩

theorem wireNone_holds : Rows.WireNoneSaid :=
  OpenClaim.holds_of_wide 6 Try.f6 rfl rfl rfl rfl rfl rfl rfl ⟨rfl, rfl, rfl, rfl, rfl⟩ rfl rfl rfl rfl rfl (by kernel_rfl) Try.func6 (by kernel_rfl)
    (of_decide_eq_true (by kernel_rfl)) (by unfold Func.isWrapper; first | (rw [if_pos (by decide +kernel)]; kernel_rfl) | (rw [if_neg (by decide +kernel)]; exact ⟨rfl, rfl⟩))
    (fun os started H enc _ => lifted os started H enc)
#print axioms wireNone_holds
end Go.Proofs.Ytdjljpkoodonjaa.wireNone
