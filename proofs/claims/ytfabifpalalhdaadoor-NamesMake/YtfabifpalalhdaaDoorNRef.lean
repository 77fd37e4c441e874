/-
  The reference's word, Digits, Make, letter, Plain: they answer what names' do.
-/
import Derived.Test.YtfabifpalalhdaaDoorNChk
namespace Go.Proofs.YtfabifpalalhdaaDoor.W
open Go.RowKit

set_option maxHeartbeats 1000000 in
theorem rWord (k : Int) (w : World) : Calls Tryd.prog 16 #[.int .i64 k] w fun e w' => e = .returned (.string (bs (wd k))) ∧ w = w' := by
  rcases wd_cases k with rfl | rfl | rfl | ⟨h, h1, h2, h3⟩
  · go_enter Tryd.func16, Tryd.ntmps16
    go_wp2
    go_ret
    exact ⟨rfl, rfl⟩
  · go_enter Tryd.func16, Tryd.ntmps16
    go_wp2
    go_ret
    exact ⟨rfl, rfl⟩
  · go_enter Tryd.func16, Tryd.ntmps16
    go_wp2
    go_ret
    exact ⟨rfl, rfl⟩
  · have HE := Lib.hid (congrArg bs h)
    clear h
    go_enter Tryd.func16, Tryd.ntmps16
    go_wp2
    go_ret
    exact ⟨by rw [HE.out]; rfl, rfl⟩

theorem rWord_none {k : Int} (h : wd k = []) (w : World) : Calls Tryd.prog 16 #[.int .i64 k] w fun e w' => e = .returned (.string ⟨#[]⟩) ∧ w = w' := by
  have := rWord k w
  rw [h] at this
  exact this

set_option maxHeartbeats 1000000 in
theorem rDigits (n : Nat) (hn : n ≤ 1099511627776) (w : World) :
    Calls Tryd.prog 20 #[.int .i64 n] w fun e w' => e = .returned (.string (bs (dec n))) ∧ Below w.heap.size w w' := by
  have hle := dec_len n hn
  go_enter Tryd.func20, Tryd.ntmps20
  go_wp2
  go_loopw [0, 3] (fun v s wr => ∃ (j : Nat) (t : List UInt8), v = .int .i64 j ∧ s = .string (bs t) ∧ j ≤ 1099511627776 ∧ Hid (dec j ++ t = dec n) ∧ Below w.heap.size w wr) (fun v _ _ => (intOf v).toNat)
  case atStart => exact ⟨n, [], rfl, rfl, hn, by unfold Hid; simp, Below.refl _ _⟩
  case round =>
    obtain ⟨j, t, rfl, rfl, hj, hcat, hbel⟩ := hrel
    have htl : t.length ≤ 13 := by have := congrArg List.length hcat.out; rw [List.length_append] at this; omega
    have hsz := hbel.size
    by_cases hpos : 10 ≤ j
    · have hcv := run_one wr (48 + (j : Int) % 10) (by omega) (by omega)
      have e8 : (48 + (j : Int) % 10).toNat = 48 + j % 10 := by omega
      rw [e8] at hcv
      obtain ⟨c, hc⟩ : ∃ c, UInt8.ofNat (48 + j % 10) = c := ⟨_, rfl⟩
      rw [hc] at hcv
      have HC := Lib.hid hc
      have hadd := fun W => run_add W [c] t (by simp; omega)
      clear e8 hc
      go_wp2
      go_roundw
      case rel =>
        refine ⟨j / 10, c :: t, by go_num, rfl, by omega, ?_, hbel.alloc hsz _⟩
        have e := dec_big (n := j) (by omega)
        have h2 := hcat.out
        rw [e, HC.out] at h2
        unfold Hid
        rw [← h2]
        simp
      case measure => simp [intOf]; omega
    · have hcv := run_one wr (48 + (j : Int)) (by omega) (by omega)
      have e8 : (48 + (j : Int)).toNat = 48 + j := by omega
      rw [e8] at hcv
      obtain ⟨c, hc⟩ : ∃ c, UInt8.ofNat (48 + j) = c := ⟨_, rfl⟩
      rw [hc] at hcv
      have hadd := fun W => run_add W [c] t (by simp; omega)
      have HE : Hid (bs ([c] ++ t) = bs (dec n)) := Lib.hid (by
        rw [← hcat.out, dec_small (by omega), hc])
      clear e8 hc
      go_wp2
      go_ret
      exact ⟨by rw [← HE.out]; rfl, hbel.alloc hsz _⟩

theorem bs_ne {l : List UInt8} (h : l ≠ []) : bs l ≠ ⟨#[]⟩ := by
  intro e
  have := congrArg (fun x : ByteArray => x.data.toList) e
  rw [bs_data] at this
  exact h this

set_option maxHeartbeats 1000000 in
theorem rMake (k n : Int) (w : World) : Calls Tryd.prog 12 #[.int .i64 k, .int .i64 n] w fun e w' => e = .returned (mkV k n) ∧ Below w.heap.size w w' := by
  by_cases h : wd k = []
  · have HE := Lib.hid (mkV_arg h n)
    have HW := Lib.hid (rWord_none h)
    have hem := str_none
    clear h
    go_enter Tryd.func12, Tryd.ntmps12
    go_wp2_with fail
    refine (HW.out w).mono ?_
    rintro e w1 ⟨rfl, rfl⟩
    go_wp2
    go_ret2
    exact ⟨by rw [HE.out]; rfl, Below.refl _ _⟩
  · have HW := Lib.hid (rWord k)
    have hw := wd_len k
    have hem := str_some (bs_ne h)
    by_cases h0 : n < 0
    · have HE := Lib.hid (mkV_range h (.inl h0))
      clear h
      go_enter Tryd.func12, Tryd.ntmps12
      go_wp2_with fail
      refine (HW.out w).mono ?_
      rintro e w1 ⟨rfl, rfl⟩
      go_wp2
      go_ret2
      exact ⟨by rw [HE.out]; rfl, Below.refl _ _⟩
    · by_cases h1 : 1099511627776 < n
      · have HE := Lib.hid (mkV_range h (.inr h1))
        clear h
        go_enter Tryd.func12, Tryd.ntmps12
        go_wp2_with fail
        refine (HW.out w).mono ?_
        rintro e w1 ⟨rfl, rfl⟩
        go_wp2
        go_ret2
        exact ⟨by rw [HE.out]; rfl, Below.refl _ _⟩
      · have HE := Lib.hid (mkV_ok (n := n) h (by omega))
        clear h
        obtain ⟨m, rfl⟩ : ∃ m : Nat, n = m := ⟨n.toNat, by omega⟩
        have hm : m ≤ 1099511627776 := by omega
        go_enter Tryd.func12, Tryd.ntmps12
        go_wp2_with fail
        refine (HW.out w).mono ?_
        rintro e w1 ⟨rfl, rfl⟩
        go_wp2_with fail
        refine (HW.out w).mono ?_
        rintro e w1 ⟨rfl, rfl⟩
        go_wp2_with fail
        refine (rDigits m hm w).mono ?_
        rintro e w1 ⟨rfl, b1⟩
        have hadd := run_add w1 (wd k) (dec m) (by have := dec_len m hm; omega)
        go_wp2
        go_ret2
        exact ⟨by rw [HE.out]; rfl, b1⟩

set_option maxHeartbeats 2000000 in
theorem rLetter (c : UInt8) (w : World) : Calls Tryd.prog 24 #[.int .u8 c.toNat] w fun e w' => e = .returned (.bool (ltr c)) ∧ w = w' := by
  have hb := c.toNat_lt
  go_enter Tryd.func24, Tryd.ntmps24
  go_wp2
  all_goals
    go_ret
    refine ⟨?_, rfl⟩
    refine congrArg (fun b => Ending.returned (Value.bool b)) (?_ : _ = ltr c)
    first
      | (refine Eq.symm (?_ : ltr c = true)
         simp only [ltr, Bool.or_eq_true, decide_eq_true_eq]
         omega)
      | (rw [Bool.eq_iff_iff]
         simp only [ltr, Bool.or_eq_true, decide_eq_true_eq, beq_iff_eq]
         omega)

set_option maxHeartbeats 2000000 in
theorem rPlain (s : ByteArray) (w : World) (hs : s.size ≤ 1000000) :
    Calls Tryd.prog 18 #[.string s] w fun e w' => e = .returned (.bool (plain s.data.toList)) ∧ w = w' := by
  go_enter Tryd.func18, Tryd.ntmps18
  go_wp2
  go_loop [3] (fun i => ∃ k : Nat, k ≤ s.size ∧ i = .int .i64 k ∧ (s.data.toList.take k).all ltr = true) (fun i => s.size - (intOf i).toNat)
  case atStart => exact ⟨0, Nat.zero_le _, rfl, rfl⟩
  case round =>
    obtain ⟨k, hk, rfl, hall⟩ := hrel
    by_cases hlt : k < s.size
    · have hb := s[k].toNat_lt
      have HS := Lib.hid (all_step hall hlt)
      have HF := Lib.hid (all_fail hlt)
      clear hall
      go_wp2_with fail
      refine (rLetter s[k] w).mono ?_
      rintro e w1 ⟨rfl, rfl⟩
      cases hl : ltr s[k] with
      | true =>
        have HR := Lib.hid (HS.out hl)
        clear hl
        go_wp2
        go_round
        case rel => exact ⟨k + 1, by omega, by go_num, HR.out⟩
        case measure => simp [intOf]; omega
      | false =>
        have HR : Hid (plain s.data.toList = false) := Lib.hid (by unfold plain; rw [HF.out hl]; rfl)
        clear hl
        go_wp2
        go_ret
        exact ⟨by rw [HR.out]; rfl, rfl⟩
    · obtain rfl : k = s.size := by omega
      have HE := Lib.hid (all_done hall)
      clear hall
      by_cases h1 : 1 ≤ s.size
      · by_cases h2 : s.size ≤ 64
        · have HP := Lib.hid ((plain_all h1 h2).trans HE.out)
          go_wp2
          go_ret
          refine ⟨?_, rfl⟩
          show Ending.returned (Value.bool (decide ((s.size : Int) ≤ 64))) = _
          rw [HP.out, decide_eq_true (by omega)]
        · have HP := Lib.hid (plain_no (s := s) (by omega))
          go_wp2
          go_ret
          refine ⟨?_, rfl⟩
          show Ending.returned (Value.bool (decide ((s.size : Int) ≤ 64))) = _
          rw [HP.out, decide_eq_false (by omega)]
      · have HP := Lib.hid (plain_no (s := s) (by omega))
        go_wp2
        go_ret
        exact ⟨by rw [HP.out]; rfl, rfl⟩
end Go.Proofs.YtfabifpalalhdaaDoor.W
