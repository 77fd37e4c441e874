/-
  JournalNone: a nil journal returns the specified values, and a journal over a nil store is empty.
-/
import Derived.Test.YtpjndgcliegloaaJDeeds
namespace Go.Proofs.Ytpjndgcliegloaa.W.JournalNone
open Go.ChangeShapes Go.WideShapes Go.ChangeAt Go.RowKit

theorem newE (w : World) : Calls Try.prog 17 #[.pointer none] w fun e w' => ∃ k T, e = .returned (.pointer (some ⟨k, 0, none⟩)) ∧ Jr w' T k [] [] 0 ∧ Below w.heap.size w w' ∧ ∀ i, T i → w.heap.size ≤ i := jNewNil w
theorem listE {w : World} {S : Nat → Prop} {j : Nat} (h : Jr w S j [] [] 0) : Calls Try.prog 12 #[.pointer (some ⟨j, 0, none⟩)] w fun e w' => ∃ A c, e = .returned (.slice A 0 c) ∧ Below w.heap.size w w' :=
  (jList h (by decide)).mono fun _ _ ⟨v, he, ho, hb⟩ => by
    obtain ⟨A, c, rfl, _⟩ := own_slice ho
    exact ⟨A, c, he, hb⟩
theorem listN (w : World) : Calls Try.prog 12 #[.pointer none] w fun e w' => ∃ A c, e = .returned (.slice A 0 c) ∧ Below w.heap.size w w' :=
  (listJNil w).mono fun _ _ ⟨v, he, ho, hb⟩ => by
    obtain ⟨A, c, rfl, _⟩ := own_slice ho
    exact ⟨A, c, he, hb⟩
theorem getN (k : ByteArray) (w : World) : Calls Try.prog 13 #[.pointer none, .string k] w fun e w' => e = .returned (.tuple #[.string ⟨#[]⟩, .bool false]) ∧ w' = w := getJNil k w

set_option maxHeartbeats 4000000 in
set_option maxRecDepth 100000 in
theorem walk (w : World) (d : Deed) : Calls Try.prog 5 #[d.val] w fun e w' => e = .returned (.bool true) ∧ Below w.heap.size w w' := by
  obtain ⟨kd, k, v⟩ := d
  simp only [Deed.val]
  by_cases hbig : 1000 < k.size ∨ 1000 < v.size
  · by_cases h1 : 1000 < k.size
    · have g1 : (1000 : Int) < (k.size : Int) := by omega
      clear hbig h1
      go_enter Try.func5, Try.ntmps5
      go_wp2_with fail
      have bk : Blk (w.alloc (.cells #[.int .i64 kd, .string k, .string v] 33)) w.heap.size 33 #[.int .i64 kd, .string k, .string v] := Blk.new _ _ _
      have B1 : Below w.heap.size w (w.alloc (.cells #[.int .i64 kd, .string k, .string v] 33)) := (Below.refl _ _).alloc (Nat.le_refl _) _
      generalize w.alloc (.cells #[.int .i64 kd, .string k, .string v] 33) = w1 at *
      refine (getN k w1).mono ?_
      rintro e w' ⟨rfl, rfl⟩
      go_wp2_with fail
      refine (newE w').mono ?_
      rintro e w2 ⟨j, T, rfl, hJ, B2, hT⟩
      have d1 : w2.cell? ⟨w.heap.size, 1, none⟩ = some (.string k) := (bk.below B2 bk.lt).cell 1
      have C2 := step_below B1 B2
      clear bk B1 B2 hJ hT
      go_wp2_with fail
      refine (awake10 w2).mono ?_
      rintro e w3 ⟨rfl, B3⟩
      go_wp2
      go_ret
      exact ⟨rfl, step_below C2 B3⟩
    · have g1 : ¬ (1000 : Int) < (k.size : Int) := by omega
      have g2 : (1000 : Int) < (v.size : Int) := by omega
      clear hbig h1
      go_enter Try.func5, Try.ntmps5
      go_wp2_with fail
      have bk : Blk (w.alloc (.cells #[.int .i64 kd, .string k, .string v] 33)) w.heap.size 33 #[.int .i64 kd, .string k, .string v] := Blk.new _ _ _
      have B1 : Below w.heap.size w (w.alloc (.cells #[.int .i64 kd, .string k, .string v] 33)) := (Below.refl _ _).alloc (Nat.le_refl _) _
      generalize w.alloc (.cells #[.int .i64 kd, .string k, .string v] 33) = w1 at *
      refine (getN k w1).mono ?_
      rintro e w' ⟨rfl, rfl⟩
      go_wp2_with fail
      refine (newE w').mono ?_
      rintro e w2 ⟨j, T, rfl, hJ, B2, hT⟩
      have d1 : w2.cell? ⟨w.heap.size, 1, none⟩ = some (.string k) := (bk.below B2 bk.lt).cell 1
      have d2 : w2.cell? ⟨w.heap.size, 2, none⟩ = some (.string v) := (bk.below B2 bk.lt).cell 2
      have C2 := step_below B1 B2
      clear bk B1 B2 hJ hT
      go_wp2_with fail
      refine (awake10 w2).mono ?_
      rintro e w3 ⟨rfl, B3⟩
      go_wp2
      go_ret
      exact ⟨rfl, step_below C2 B3⟩
  · have g1 : ¬ (1000 : Int) < (k.size : Int) := by omega
    have g2 : ¬ (1000 : Int) < (v.size : Int) := by omega
    have hk : k.size ≤ 65536 := by omega
    have hv : v.size ≤ 65536 := by omega
    have HKV := Lib.hid (And.intro hk hv)
    clear hbig hk hv
    go_enter Try.func5, Try.ntmps5
    go_wp2_with fail
    have bk : Blk (w.alloc (.cells #[.int .i64 kd, .string k, .string v] 33)) w.heap.size 33 #[.int .i64 kd, .string k, .string v] := Blk.new _ _ _
    have B1 : Below w.heap.size w (w.alloc (.cells #[.int .i64 kd, .string k, .string v] 33)) := (Below.refl _ _).alloc (Nat.le_refl _) _
    generalize w.alloc (.cells #[.int .i64 kd, .string k, .string v] 33) = w1 at *
    refine (getN k w1).mono ?_
    rintro e w' ⟨rfl, rfl⟩
    go_wp2_with fail
    refine (newE w').mono ?_
    rintro e w2 ⟨j, T, rfl, hJ, B2, hT⟩
    have b2 := bk.below B2 bk.lt
    have d1 : w2.cell? ⟨w.heap.size, 1, none⟩ = some (.string k) := b2.cell 1
    have d2 : w2.cell? ⟨w.heap.size, 2, none⟩ = some (.string v) := b2.cell 2
    have C2 := step_below B1 B2
    have T2 : ∀ i, T i → w.heap.size ≤ i := fun i h => Nat.le_trans B1.size (hT i h)
    clear bk B1 B2 hT
    go_wp2_with fail
    refine (setNilJ k v w2).mono ?_
    rintro e w' ⟨rfl, rfl⟩
    go_wp2_with fail
    refine (delNilJ k w').mono ?_
    rintro e w2 ⟨rfl, rfl⟩
    go_wp2_with fail
    refine (beginNil w2).mono ?_
    rintro e w' ⟨rfl, rfl⟩
    go_wp2_with fail
    refine (commitNil w').mono ?_
    rintro e w2 ⟨rfl, rfl⟩
    go_wp2_with fail
    refine (rollNil w2).mono ?_
    rintro e w3 ⟨rfl, B3⟩
    have J3 := hJ.below B3
    have b3 := b2.below B3 b2.lt
    have C3 := step_below C2 B3
    clear hJ b2 C2 B3 d1 d2
    go_wp2_with fail
    refine (depthNil w3).mono ?_
    rintro e w' ⟨rfl, rfl⟩
    go_wp2_with fail
    refine (listN w').mono ?_
    rintro e w4 ⟨A4, c4, rfl, B4⟩
    have J4 := J3.below B4
    have b4 := b3.below B4 b3.lt
    have C4 := step_below C3 B4
    clear J3 b3 C3 B4
    go_wp2_with fail
    refine (copyJNil w4).mono ?_
    rintro e w' ⟨rfl, rfl⟩
    go_wp2_with fail
    refine (listE J4).mono ?_
    rintro e w5 ⟨A5, c5, rfl, B5⟩
    have J5 := J4.below B5
    have b5 := b4.below B5 b4.lt
    have C5 := step_below C4 B5
    have d1 : w5.cell? ⟨w.heap.size, 1, none⟩ = some (.string k) := b5.cell 1
    have d2 : w5.cell? ⟨w.heap.size, 2, none⟩ = some (.string v) := b5.cell 2
    clear J4 b4 C4 B5 b5
    go_wp2_with fail
    refine (jSet k v J5 HKV.out.1 HKV.out.2 (by decide)).mono ?_
    rintro e w6 ⟨rfl, M⟩
    obtain ⟨S6, J6, C6, _⟩ := M.out C5 T2
    clear J5 C5 T2 M J6 d1 d2
    go_wp2_with fail
    refine (awake10 w6).mono ?_
    rintro e w7 ⟨rfl, B7⟩
    go_wp2
    go_ret
    exact ⟨rfl, step_below C6 B7⟩
set_option maxRecDepth 100000 in
theorem lifted (os : Os) (started : os.Started) (H : Type) (enc : TypeId × Value → H) :
    ReturnsInHanded {} Try.checked os 5 .any (Rows.journalNoneSpec.pre6 enc Try.prog Try.f5 Rows.journalNoneRow.domain false) (Rows.journalNoneSpec.post enc Try.prog Try.f5 false true false false) := by
  refine returnsInHanded_of_change (C := Try.checked) own started (by kernel_rfl) Try.func5
    (ChangeSpec.witness6 (enc := enc) (C := Try.checked) false ⟨#[], #[.agg #[.int .i64 0, .string ByteArray.empty, .string ByteArray.empty]], []⟩ 8 (by kernel_rfl) (by kernel_rfl) (by kernel_rfl) (by kernel_rfl)) ?_
  intro W base args ds gs before hval0 hW hcnd _
  have hval : ∀ (j : Nat) t v, Try.f5.params[j]? = some t → args[j]? = some v → Value.okWide Try.prog W .any base t v := hval0
  have hW' := hW
  obtain ⟨p, q, hA0, hV, rfl, hfz, hnd⟩ := hW
  have hA : DataW.TrodAll enc Try.prog W 0 (fun _ => true) true Try.f5.params.toList args.toList ds p := hA0
  rw [Try.params5] at hA hval
  have hK := hA
  obtain ⟨v0, vs0, d0, ds0, p0, q0, hargs, rfl, rfl, h0, r0⟩ := trodAll_cons hA
  obtain ⟨rfl, rfl, rfl⟩ := trodAll_nil r0
  obtain rfl : args = #[v0] := by cases args; simp_all
  obtain ⟨rfl, rfl⟩ := trodVars_none hV
  obtain ⟨a0, rfl⟩ := open_deed (hval 0 33 v0 rfl rfl) h0
  clear hA0 hval0
  refine (walk W a0).mono fun e W' ⟨he, bel⟩ => ?_
  subst he
  exact ⟨_, rfl, _, _, _, [], _, [], hW', trodAll_mk1 (shut_bool Try.underlying4 _), trodAll_under laidOut bel _ _ _ _ (by kernel_rfl) hK, rfl, bel.frame _, fun h => by cases h⟩

theorem journalNone_holds : Rows.JournalNoneSaid :=
  OpenClaim.holds_of_wide 5 Try.f5 rfl rfl rfl rfl rfl rfl rfl ⟨rfl, rfl, rfl, rfl, rfl⟩ rfl rfl rfl rfl rfl (by kernel_rfl) Try.func5 (by kernel_rfl)
    (of_decide_eq_true (by kernel_rfl)) (by unfold Func.isWrapper; first | (rw [if_pos (by decide +kernel)]; kernel_rfl) | (rw [if_neg (by decide +kernel)]; exact ⟨rfl, rfl⟩))
    (fun os started H enc _ => lifted os started H enc)
#print axioms journalNone_holds
end Go.Proofs.Ytpjndgcliegloaa.W.JournalNone
