/-
  Package names: prefix, Make, Number, for every kind, number and string of at most a million bytes.
-/
import Derived.Test.YtfabifpalalhdaaDoorNLib
namespace Go.Proofs.YtfabifpalalhdaaDoor.W
open Go.RowKit

theorem wd_cases (k : Int) : k = 1 ∨ k = 2 ∨ k = 3 ∨ (wd k = [] ∧ k ≠ 1 ∧ k ≠ 2 ∧ k ≠ 3) := by
  by_cases h1 : k = 1
  · exact .inl h1
  · by_cases h2 : k = 2
    · exact .inr (.inl h2)
    · by_cases h3 : k = 3
      · exact .inr (.inr (.inl h3))
      · exact .inr (.inr (.inr ⟨by simp [wd, h1, h2, h3], h1, h2, h3⟩))
theorem wd_len (k : Int) : (wd k).length ≤ 11 := by
  rcases wd_cases k with rfl | rfl | rfl | ⟨h, _⟩
  · decide
  · decide
  · decide
  · rw [h]; decide
/-- prefix's answer -/
def preV (k : Int) : Value := .tuple #[.string (bs (wd k)), .bool (decide (wd k ≠ []))]
theorem preV_no {k : Int} (h : wd k = []) : preV k = .tuple #[.string (bs []), .bool false] := by simp [preV, h]
theorem preV_yes {k : Int} (h : wd k ≠ []) : preV k = .tuple #[.string (bs (wd k)), .bool true] := by simp [preV, h]

set_option maxHeartbeats 1000000 in
theorem pref (k : Int) (w : World) : Calls Tryd.prog 13 #[.int .i64 k] w fun e w' => e = .returned (preV k) ∧ w = w' := by
  rcases wd_cases k with rfl | rfl | rfl | ⟨h, h1, h2, h3⟩
  · go_enter Tryd.func13, Tryd.ntmps13
    go_wp2
    go_ret2
    exact ⟨rfl, rfl⟩
  · go_enter Tryd.func13, Tryd.ntmps13
    go_wp2
    go_ret2
    exact ⟨rfl, rfl⟩
  · go_enter Tryd.func13, Tryd.ntmps13
    go_wp2
    go_ret2
    exact ⟨rfl, rfl⟩
  · have HE := Lib.hid (preV_no h)
    clear h
    go_enter Tryd.func13, Tryd.ntmps13
    go_wp2
    go_ret2
    exact ⟨by rw [HE.out]; rfl, rfl⟩
theorem pref_no {k : Int} (h : wd k = []) (w : World) : Calls Tryd.prog 13 #[.int .i64 k] w fun e w' => e = .returned (.tuple #[.string (bs []), .bool false]) ∧ w = w' := by
  have := pref k w
  rw [preV_no h] at this
  exact this
theorem pref_yes {k : Int} (h : wd k ≠ []) (w : World) : Calls Tryd.prog 13 #[.int .i64 k] w fun e w' => e = .returned (.tuple #[.string (bs (wd k)), .bool true]) ∧ w = w' := by
  have := pref k w
  rw [preV_yes h] at this
  exact this

/-- Make's answer -/
def mkV (k n : Int) : Value := .tuple #[.string (bs (mkS k n)), .int .i64 (mkE k n)]
theorem mkV_arg {k : Int} (h : wd k = []) (n : Int) : mkV k n = .tuple #[.string (bs []), .int .i64 1] := by simp [mkV, mkS, mkE, h]
theorem mkV_range {k n : Int} (h : wd k ≠ []) (hn : n < 0 ∨ 1099511627776 < n) : mkV k n = .tuple #[.string (bs []), .int .i64 3] := by simp [mkV, mkS, mkE, h, hn]
theorem mkV_ok {k n : Int} (h : wd k ≠ []) (hn : ¬ (n < 0 ∨ 1099511627776 < n)) : mkV k n = .tuple #[.string (bs (wd k ++ dec n.toNat)), .int .i64 0] := by
  simp [mkV, mkS, mkE, h, hn]

set_option maxHeartbeats 1000000 in
theorem make (k n : Int) (w : World) (hL : Lay w) : Calls Tryd.prog 11 #[.int .i64 k, .int .i64 n] w fun e w' => e = .returned (mkV k n) ∧ Below w.heap.size w w' := by
  by_cases h : wd k = []
  · have HE := Lib.hid (mkV_arg h n)
    have HP := Lib.hid (pref_no h)
    clear h
    go_enter Tryd.func11, Tryd.ntmps11
    go_wp2_with fail
    refine (HP.out w).mono ?_
    rintro e w1 ⟨rfl, rfl⟩
    go_wp2
    go_ret2
    exact ⟨by rw [HE.out]; rfl, Below.refl _ _⟩
  · have HP := Lib.hid (pref_yes h)
    have hw := wd_len k
    by_cases h0 : n < 0
    · have HE := Lib.hid (mkV_range h (.inl h0))
      clear h
      go_enter Tryd.func11, Tryd.ntmps11
      go_wp2_with fail
      refine (HP.out w).mono ?_
      rintro e w1 ⟨rfl, rfl⟩
      go_wp2
      go_ret2
      exact ⟨by rw [HE.out]; rfl, Below.refl _ _⟩
    · by_cases h1 : 1099511627776 < n
      · have HE := Lib.hid (mkV_range h (.inr h1))
        clear h
        go_enter Tryd.func11, Tryd.ntmps11
        go_wp2_with fail
        refine (HP.out w).mono ?_
        rintro e w1 ⟨rfl, rfl⟩
        go_wp2
        go_ret2
        exact ⟨by rw [HE.out]; rfl, Below.refl _ _⟩
      · have HE := Lib.hid (mkV_ok (n := n) h (by omega))
        clear h
        obtain ⟨m, rfl⟩ : ∃ m : Nat, n = m := ⟨n.toNat, by omega⟩
        have hm : m ≤ 1099511627776 := by omega
        go_enter Tryd.func11, Tryd.ntmps11
        go_wp2_with fail
        refine (HP.out w).mono ?_
        rintro e w1 ⟨rfl, rfl⟩
        go_wp2_with fail
        refine (itoa m hm w hL).mono ?_
        rintro e w1 ⟨rfl, b1⟩
        have hadd := run_add w1 (wd k) (dec m) (by have := dec_len m hm; omega)
        go_wp2
        go_ret2
        exact ⟨by rw [HE.out]; rfl, b1⟩
end Go.Proofs.YtfabifpalalhdaaDoor.W
