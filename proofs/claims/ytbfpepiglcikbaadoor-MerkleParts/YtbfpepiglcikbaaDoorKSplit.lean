/-
  merkle.Split.
-/
import Derived.Test.YtbfpepiglcikbaaDoorKMath
import Derived.Test.YtbfpepiglcikbaaDoorWBits
import Derived.IntWalk
namespace Go.Proofs.YtbfpepiglcikbaaDoor.W
open Go.RowKit

set_option maxHeartbeats 1000000 in
theorem lenC (x : Int) (w : World) (h0 : 0 ≤ x) (h1 : x ≤ 18446744073709551615) :
    Calls Tryd.prog 31 #[.int .u64 x] w fun e w' => e = .returned (.int .i64 (Lib.bitLen x.toNat)) ∧ w = w' := by
  have K := Lib.hid (len64 x w h0 h1)
  go_enter Tryd.func31, Tryd.ntmps31
  go_wp2_with fail
  refine K.out.mono ?_
  rintro e w1 ⟨rfl, rfl⟩
  go_wp2
  go_ret
  exact ⟨rfl, rfl⟩

theorem wrap_pow (k s : Nat) (hk : k ≤ 62) (hs : 2 ^ k = s) : wrap64 ((2 : Int) ^ k) = (s : Int) := by
  have h1 : 2 ^ k ≤ 2 ^ 62 := Nat.pow_le_pow_right (by decide) hk
  have h2 : ((2 ^ k : Nat) : Int) = (2 : Int) ^ k := by simp
  rw [← h2, hs]
  rw [hs] at h1
  simp only [wrap64]
  omega
set_option maxHeartbeats 1000000 in
theorem split_this (n : Int) (k s : Nat) (w : World) (h0 : 2 ≤ n) (h1 : n ≤ 9223372036854775807) (hk : Lib.bitLen (n - 1).toNat = k + 1) (hk2 : k ≤ 62) (hs : 2 ^ k = s) :
    Calls Tryd.prog 17 #[.int .i64 n] w fun e w' => e = .returned (.int .i64 s) ∧ w = w' := by
  have K0 := lenC (n - 1) w (by omega) (by omega)
  rw [hk] at K0
  have K := Lib.hid K0
  have hp := wrap_pow k s hk2 hs
  clear K0 hk hs
  go_enter Tryd.func17, Tryd.ntmps17
  go_wp2_with fail
  refine K.out.mono ?_
  rintro e w1 ⟨rfl, rfl⟩
  go_wp2
  go_ret
  exact ⟨congrArg Ending.returned (congrArg (Value.int IntKind.i64) hp), rfl⟩
theorem splitC (n : Int) (w : World) (h1 : n ≤ 9223372036854775807) :
    Calls Tryd.prog 17 #[.int .i64 n] w fun e w' => e = .returned (.int .i64 (spl n.toNat)) ∧ w = w' := by
  by_cases h0 : 2 ≤ n
  · obtain ⟨j, h2, h3⟩ := pow_of n.toNat (by omega)
    have hj : j ≤ 62 := by
      by_cases h : j ≤ 62
      · exact h
      · have := Nat.pow_le_pow_right (n := 2) (by decide) (show 63 ≤ j by omega)
        omega
    refine split_this n j _ w h0 h1 ?_ hj (spl_is j n.toNat h2 h3 (by omega)).symm
    rw [show (n - 1).toNat = n.toNat - 1 by omega]
    exact bitLen_two j _ (by omega) (by rw [Nat.pow_succ]; omega) (by omega)
  · rw [spl_small n.toNat (by omega)]
    go_enter Tryd.func17, Tryd.ntmps17
    go_wp2
    go_ret
    exact ⟨rfl, rfl⟩

/-! the reference's -/
theorem pow_two_le {j n : Nat} (h : 2 ^ j < n) (hn : n ≤ 1099511627776) : j ≤ 40 := by
  by_cases hj : j ≤ 40
  · exact hj
  · have := Nat.pow_le_pow_right (n := 2) (by decide) (show 41 ≤ j by omega)
    omega
set_option maxHeartbeats 1000000 in
theorem rSplitC (n : Int) (w : World) (h1 : n ≤ 1099511627776) :
    Calls Tryd.prog 18 #[.int .i64 n] w fun e w' => e = .returned (.int .i64 (spl n.toNat)) ∧ Below w.heap.size w w' := by
  by_cases h0 : 2 ≤ n
  · obtain ⟨m, rfl⟩ := Int.eq_ofNat_of_zero_le (show 0 ≤ n by omega)
    rw [Int.toNat_natCast]
    obtain ⟨r, hr⟩ : ∃ r, spl m = r := ⟨_, rfl⟩
    rw [hr]
    have HR := Lib.hid hr
    clear hr
    go_enter Tryd.func18, Tryd.ntmps18
    go_wp2
    go_loopw [3] (fun v wr => ∃ s : Nat, v = .int .i64 s ∧ Hid (∃ j, s = 2 ^ j) ∧ 1 ≤ s ∧ s < m ∧ Below w.heap.size w wr) (fun v _ => m - (intOf v).toNat)
    case atStart => exact ⟨1, rfl, Lib.hid ⟨0, rfl⟩, by omega, by omega, Below.refl _ _⟩
    case round =>
      obtain ⟨s, rfl, HJ, hs1, hs2, hbel⟩ := hrel
      by_cases hlt : s + s < m
      · go_wp2
        go_roundw
        case rel => exact ⟨2 * s, by go_num, Lib.hid (by obtain ⟨j, rfl⟩ := HJ.out; exact ⟨j + 1, by rw [Nat.pow_succ, Nat.mul_comm]⟩), by omega, by omega, hbel⟩
        case measure => simp [intOf]; omega
      · have hx : s = r := by
          obtain ⟨j, rfl⟩ := HJ.out
          rw [← HR.out, spl_is j m hs2 (by omega) (by omega)]
        subst hx
        go_wp2
        go_ret
        exact ⟨rfl, hbel⟩
  · rw [spl_small n.toNat (by omega)]
    go_enter Tryd.func18, Tryd.ntmps18
    go_wp2
    go_ret
    exact ⟨rfl, Below.refl _ _⟩
end Go.Proofs.YtbfpepiglcikbaaDoor.W
