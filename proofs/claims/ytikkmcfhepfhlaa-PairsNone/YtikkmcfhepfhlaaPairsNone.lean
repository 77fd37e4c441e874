/-
  PairsNone: a nil store answers as the document asks, for every deed.
-/
import Derived.Test.YtikkmcfhepfhlaaTDeeds
namespace Go.Proofs.Ytikkmcfhepfhlaa.W.PairsNone
open Go.ChangeShapes Go.WideShapes Go.ChangeAt Go.RowKit

theorem listN (W : World) : Calls Try.prog 11 #[.pointer none] W fun e w' => ∃ A c, e = .returned (.slice A 0 c) ∧ Below W.heap.size W w' :=
  (sListNil W).mono fun _ _ ⟨v, he, ho, hb⟩ => by
    obtain ⟨A, c, rfl, _⟩ := Prs.of_own (l := []) ho
    exact ⟨A, c, he, hb⟩
theorem someN (k : ByteArray) (W : World) : Calls Try.prog 16 #[.pointer none, .string k, .int .i64 9] W fun e w' => ∃ A c, e = .returned (.slice A 0 c) ∧ Below W.heap.size W w' :=
  (someAt none k [] W 9 (by decide) (by decide) (fun U _ => sAllNil k U)).mono fun _ _ ⟨v, he, ho, hb⟩ => by
    obtain ⟨A, c, rfl, _⟩ := Prs.of_own (l := []) ho
    exact ⟨A, c, he, hb⟩
set_option maxHeartbeats 4000000 in
set_option maxRecDepth 100000 in
theorem walk (w : World) (d : Deed) : Calls Try.prog 5 #[d.val] w fun e w' => e = .returned (.bool true) ∧ Below w.heap.size w w' := by
  obtain ⟨kd, n, k, v⟩ := d
  unfold Deed.val
  simp only
  go_enter Try.func5, Try.ntmps5
  go_wp2_with fail
  have bk : Blk (w.alloc (.cells #[.int .i64 kd, .int .i64 n, .string k, .string v] 31)) w.heap.size 31 #[.int .i64 kd, .int .i64 n, .string k, .string v] := Blk.new _ _ _
  have B1 : Below w.heap.size w (w.alloc (.cells #[.int .i64 kd, .int .i64 n, .string k, .string v] 31)) := (Below.refl _ _).alloc (Nat.le_refl _) _
  generalize w.alloc (.cells #[.int .i64 kd, .int .i64 n, .string k, .string v] 31) = w1 at *
  have c2 : w1.cell? ⟨w.heap.size, 2, none⟩ = some (.string k) := bk.cell 2
  have c3 : w1.cell? ⟨w.heap.size, 3, none⟩ = some (.string v) := bk.cell 3
  refine (sGetNil k w1).mono ?_
  rintro e w' ⟨rfl, rfl⟩
  simp only [retGet, Option.getD_none, Option.isSome_none]
  go_wp2_with fail
  refine (sSetNil k v w').mono ?_
  rintro e w1 ⟨rfl, rfl⟩
  go_wp2_with fail
  refine (sDelNil k w1).mono ?_
  rintro e w' ⟨rfl, rfl⟩
  go_wp2_with fail
  refine (lenNil w').mono ?_
  rintro e w1 ⟨rfl, rfl⟩
  go_wp2_with fail
  refine (listN w1).mono ?_
  rintro e w2 ⟨A, c, rfl, B2⟩
  have bk2 := bk.below B2 bk.lt
  have B3 := step_below B1 B2
  clear bk B1 B2 c2 c3
  go_wp2_with fail
  refine (copyNil w2).mono ?_
  rintro e w' ⟨rfl, rfl⟩
  have c2 : w'.cell? ⟨w.heap.size, 2, none⟩ = some (.string k) := bk2.cell 2
  go_wp2_with fail
  refine (someN k w').mono ?_
  rintro e w3 ⟨A', c', rfl, B4⟩
  have B5 := step_below B3 B4
  clear B3 B4 bk2 c2
  go_wp2_with fail
  refine (awake09 w3).mono ?_
  rintro e w4 ⟨rfl, B6⟩
  have B7 := step_below B5 B6
  go_wp2
  go_ret
  exact ⟨rfl, B7⟩
set_option maxRecDepth 100000 in
theorem lifted (os : Os) (started : os.Started) (H : Type) (enc : TypeId × Value → H) :
    ReturnsInHanded {} Try.checked os 5 .any (Rows.pairsNoneSpec.pre6 enc Try.prog Try.f5 Rows.pairsNoneRow.domain false) (Rows.pairsNoneSpec.post enc Try.prog Try.f5 false true false false) := by
  refine returnsInHanded_of_change (C := Try.checked) own started (by kernel_rfl) Try.func5
    (ChangeSpec.witness6 (enc := enc) (C := Try.checked) false ⟨#[], #[.agg #[.int .i64 0, .int .i64 0, .string ByteArray.empty, .string ByteArray.empty]], []⟩ 8 (by kernel_rfl) (by kernel_rfl) (by kernel_rfl) (by kernel_rfl)) ?_
  intro W base args ds gs before hval0 hW hcnd _
  have hval : ∀ (j : Nat) t v, Try.f5.params[j]? = some t → args[j]? = some v → Value.okWide Try.prog W .any base t v := hval0
  have hW' := hW
  obtain ⟨p, q, hA0, hV, rfl, hfz, hnd⟩ := hW
  have hA : DataW.TrodAll enc Try.prog W 0 (fun _ => true) true Try.f5.params.toList args.toList ds p := hA0
  rw [Try.params5] at hA hval
  have hK := hA
  obtain ⟨v0, vs0, d0, ds0, p0, q0, hargs, rfl, rfl, h0, r0⟩ := trodAll_cons hA
  obtain ⟨rfl, rfl, rfl⟩ := trodAll_nil r0
  obtain rfl : args = #[v0] := by cases args; simp_all
  obtain ⟨rfl, rfl⟩ := trodVars_none hV
  obtain ⟨a0, rfl⟩ := open_deed (hval 0 31 v0 rfl rfl) h0
  clear hA0 hval0
  refine (walk W a0).mono fun e W' ⟨he, bel⟩ => ?_
  subst he
  exact ⟨_, rfl, _, _, _, [], _, [], hW', trodAll_mk1 (shut_bool Try.underlying4 _), trodAll_under laidOut bel _ _ _ _ (by kernel_rfl) hK, rfl, bel.frame _, fun h => by cases h⟩

theorem pairsNone_holds : Rows.PairsNoneSaid :=
  OpenClaim.holds_of_wide 5 Try.f5 rfl rfl rfl rfl rfl rfl rfl ⟨rfl, rfl, rfl, rfl, rfl⟩ rfl rfl rfl rfl rfl (by kernel_rfl) Try.func5 (by kernel_rfl)
    (of_decide_eq_true (by kernel_rfl)) (by unfold Func.isWrapper; first | (rw [if_pos (by decide +kernel)]; kernel_rfl) | (rw [if_neg (by decide +kernel)]; exact ⟨rfl, rfl⟩))
    (fun os started H enc _ => lifted os started H enc)
#print axioms pairsNone_holds
end Go.Proofs.Ytikkmcfhepfhlaa.W.PairsNone
