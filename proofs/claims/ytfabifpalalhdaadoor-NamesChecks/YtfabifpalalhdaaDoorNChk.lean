/-
  Package names: allLetters, Check, for every kind and every string of at most a million bytes.
-/
import Derived.Test.YtfabifpalalhdaaDoorNNum
import Derived.WalkMore
namespace Go.Proofs.YtfabifpalalhdaaDoor.W
open Go.RowKit

theorem all_step {s : ByteArray} {k : Nat} (h : (s.data.toList.take k).all ltr = true) (hk : k < s.size) (hl : ltr s[k] = true) : (s.data.toList.take (k + 1)).all ltr = true := by
  rw [take_snoc s k hk, List.all_append, h]
  simp [hl]
theorem all_fail {s : ByteArray} {k : Nat} (hk : k < s.size) (hl : ltr s[k] = false) : s.data.toList.all ltr = false := by
  rw [List.all_eq_false]
  refine ⟨s[k], ?_, by rw [hl]; decide⟩
  exact List.mem_of_getElem (i := k) (h := by rw [size_list]; exact hk) rfl
theorem all_done {s : ByteArray} (h : (s.data.toList.take s.size).all ltr = true) : s.data.toList.all ltr = true := by
  rw [List.take_of_length_le (by rw [size_list]; exact Nat.le_refl _)] at h
  exact h

set_option maxHeartbeats 4000000 in
theorem letters (s : ByteArray) (w : World) (hs : s.size ≤ 1000000) :
    Calls Tryd.prog 17 #[.string s] w fun e w' => e = .returned (.bool (s.data.toList.all ltr)) ∧ w = w' := by
  go_enter Tryd.func17, Tryd.ntmps17
  go_wp2
  go_step3
  go_wp2
  go_step3
  go_wp2
  go_loop [3] (fun i => ∃ k : Nat, k ≤ s.size ∧ i = .int .i64 k ∧ (s.data.toList.take k).all ltr = true) (fun i => s.size - (intOf i).toNat)
  case atStart => exact ⟨0, Nat.zero_le _, rfl, rfl⟩
  case round =>
    obtain ⟨k, hk, rfl, hall⟩ := hrel
    by_cases hlt : k < s.size
    · have hb := s[k].toNat_lt
      have HS := Lib.hid (all_step hall hlt)
      have HF := Lib.hid (all_fail hlt)
      have hks : Hid (((k : Int) == (s.size : Int)) = false) := Lib.hid (by rw [beq_eq_false_iff_ne]; omega)
      clear hall
      go_wp2
      all_goals first
        | (have hl : ltr s[k] = true := by
             simp only [ltr, Bool.or_eq_true, decide_eq_true_eq]
             simp only [beq_iff_eq, beq_eq_false_iff_ne] at *
             omega
           go_round
           case rel => exact ⟨k + 1, by omega, by go_num, HS.out hl⟩
           case measure => simp [intOf]; omega)
        | (have hl : ltr s[k] = false := by
             simp only [ltr, Bool.or_eq_false_iff, decide_eq_false_iff_not]
             simp only [beq_eq_false_iff_ne] at *
             omega
           go_ret
           refine ⟨?_, rfl⟩
           show Ending.returned (Value.bool ((k : Int) == (s.size : Int))) = _
           rw [hks.out, HF.out hl])
    · obtain rfl : k = s.size := by omega
      have HE := Lib.hid (all_done hall)
      clear hall
      go_wp2
      go_ret
      exact ⟨by rw [HE.out]; rfl, rfl⟩

theorem ck_num {k : Int} (h : wd k ≠ []) (l : List UInt8) : ck k l = nmE k l := by
  unfold ck
  rw [if_neg ?_, if_neg h]
  rcases wd_cases k with rfl | rfl | rfl | ⟨e, _⟩
  · decide
  · decide
  · decide
  · exact absurd e h
theorem plain_no {s : ByteArray} (h : s.size < 1 ∨ 64 < s.size) : plain s.data.toList = false := by
  unfold plain
  rw [size_list]
  simp only [Bool.and_eq_false_iff, decide_eq_false_iff_not]
  omega
theorem plain_all {s : ByteArray} (h1 : 1 ≤ s.size) (h2 : s.size ≤ 64) : plain s.data.toList = s.data.toList.all ltr := by
  unfold plain
  rw [size_list]
  simp [h1, h2]
theorem ck_plain {k : Int} (h : k = 0 ∨ k = 4 ∨ k = 5 ∨ k = 6) (l : List UInt8) : ck k l = if plain l then 0 else 7 := by
  rcases h with rfl | rfl | rfl | rfl <;> rfl
theorem ck_arg {k : Int} (h : k < 0 ∨ 6 < k) (l : List UInt8) : ck k l = 1 := by rw [ck, if_pos h]
theorem number_this (k : Int) (s : ByteArray) (hs : s.size ≤ 1000000) (a b : Int) (h1 : nmN k s.data.toList = a) (h2 : nmE k s.data.toList = b) (w : World) (hL : Lay w) :
    Calls Tryd.prog 7 #[.int .i64 k, .string s] w fun e w' => e = .returned (.tuple #[.int .i64 a, .int .i64 b]) ∧ Below w.heap.size w w' := by
  subst h1 h2
  exact number k s w hL hs
theorem letters_this (s : ByteArray) (hs : s.size ≤ 1000000) (b : Bool) (h : s.data.toList.all ltr = b) (w : World) :
    Calls Tryd.prog 17 #[.string s] w fun e w' => e = .returned (.bool b) ∧ w = w' := by
  subst h
  exact letters s w hs

set_option maxHeartbeats 2000000 in
theorem check (k : Int) (s : ByteArray) (w : World) (hL : Lay w) (hs : s.size ≤ 1000000) :
    Calls Tryd.prog 9 #[.int .i64 k, .string s] w fun e w' => e = .returned (.int .i64 (ck k s.data.toList)) ∧ Below w.heap.size w w' := by
  by_cases h : wd k = []
  · by_cases hk : k = 0 ∨ k = 4 ∨ k = 5 ∨ k = 6
    · have HE := Lib.hid (ck_plain hk s.data.toList)
      clear h
      by_cases h1 : s.size < 1
      · have HP := Lib.hid (plain_no (.inl h1))
        rcases hk with rfl | rfl | rfl | rfl
        all_goals
          go_enter Tryd.func9, Tryd.ntmps9
          go_wp2
          go_ret
          exact ⟨by rw [HE.out, HP.out]; rfl, Below.refl _ _⟩
      · by_cases h2 : 64 < s.size
        · have HP := Lib.hid (plain_no (.inr h2))
          rcases hk with rfl | rfl | rfl | rfl
          all_goals
            go_enter Tryd.func9, Tryd.ntmps9
            go_wp2
            go_ret
            exact ⟨by rw [HE.out, HP.out]; rfl, Below.refl _ _⟩
        · have HP := Lib.hid (plain_all (s := s) (by omega) (by omega))
          cases ha : s.data.toList.all ltr with
          | false =>
            have HA := Lib.hid (letters_this s hs false ha)
            have HZ := Lib.hid ha
            clear ha
            rcases hk with rfl | rfl | rfl | rfl
            all_goals
              go_enter Tryd.func9, Tryd.ntmps9
              go_wp2_with fail
              refine (HA.out w).mono ?_
              rintro e w1 ⟨rfl, rfl⟩
              go_wp2
              go_ret
              exact ⟨by rw [HE.out, HP.out, HZ.out]; rfl, Below.refl _ _⟩
          | true =>
            have HA := Lib.hid (letters_this s hs true ha)
            have HZ := Lib.hid ha
            clear ha
            rcases hk with rfl | rfl | rfl | rfl
            all_goals
              go_enter Tryd.func9, Tryd.ntmps9
              go_wp2_with fail
              refine (HA.out w).mono ?_
              rintro e w1 ⟨rfl, rfl⟩
              go_wp2
              go_ret
              exact ⟨by rw [HE.out, HP.out, HZ.out]; rfl, Below.refl _ _⟩
    · rcases wd_cases k with rfl | rfl | rfl | ⟨-, h1, h2, h3⟩
      · exact absurd h (by decide)
      · exact absurd h (by decide)
      · exact absurd h (by decide)
      · have HE := Lib.hid (ck_arg (k := k) (by omega) s.data.toList)
        have k0 : k ≠ 0 := by omega
        have k4 : k ≠ 4 := by omega
        have k5 : k ≠ 5 := by omega
        have k6 : k ≠ 6 := by omega
        clear h hk
        go_enter Tryd.func9, Tryd.ntmps9
        go_wp2
        go_ret
        exact ⟨by rw [HE.out]; rfl, Below.refl _ _⟩
  · have HE := Lib.hid (ck_num h s.data.toList)
    have HN := Lib.hid (number_this k s hs _ _ rfl rfl)
    generalize nmN k s.data.toList = a at *
    generalize nmE k s.data.toList = b at *
    rcases wd_cases k with rfl | rfl | rfl | ⟨e, _⟩
    · clear h
      go_enter Tryd.func9, Tryd.ntmps9
      go_wp2_with fail
      refine (HN.out w hL).mono ?_
      rintro e w1 ⟨rfl, b1⟩
      go_wp2
      go_ret
      exact ⟨by rw [HE.out]; rfl, b1⟩
    · clear h
      go_enter Tryd.func9, Tryd.ntmps9
      go_wp2_with fail
      refine (HN.out w hL).mono ?_
      rintro e w1 ⟨rfl, b1⟩
      go_wp2
      go_ret
      exact ⟨by rw [HE.out]; rfl, b1⟩
    · clear h
      go_enter Tryd.func9, Tryd.ntmps9
      go_wp2_with fail
      refine (HN.out w hL).mono ?_
      rintro e w1 ⟨rfl, b1⟩
      go_wp2
      go_ret
      exact ⟨by rw [HE.out]; rfl, b1⟩
    · exact absurd e h
end Go.Proofs.YtfabifpalalhdaaDoor.W
