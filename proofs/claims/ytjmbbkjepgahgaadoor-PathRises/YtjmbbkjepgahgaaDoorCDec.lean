/-
  Decimal numerals as plain functions.
-/
import Derived.Test.YtjmbbkjepgahgaaDoorCMath
import Derived.Lib.ItoaNum
namespace Go.Proofs.YtjmbbkjepgahgaaDoor.W

def dec (n : Nat) : List UInt8 := Lib.decDigits n
theorem dec_small {n : Nat} (h : n < 10) : dec n = [UInt8.ofNat (48 + n)] := Lib.decDigits_one h
theorem dec_big {n : Nat} (h : ¬ n < 10) : dec n = dec (n / 10) ++ [UInt8.ofNat (48 + n % 10)] := by
  unfold dec
  rw [Lib.decDigits, dif_neg h]
theorem dec_len_le : ∀ (k n : Nat), n < 10 ^ (k + 1) → (dec n).length ≤ k + 1
  | 0, n, h => by rw [dec_small (by simpa using h)]; simp
  | k + 1, n, h => by
    by_cases h1 : n < 10
    · rw [dec_small h1]; simp
    · have := dec_len_le k (n / 10) (Nat.div_lt_of_lt_mul (by rw [Nat.pow_succ] at h; omega))
      rw [dec_big h1]
      simp only [List.length_append, List.length_singleton]
      omega
/-- the last k digits -/
def lowd : Nat → Nat → List UInt8
  | 0, _ => []
  | k + 1, m => lowd k (m / 10) ++ [UInt8.ofNat (48 + m % 10)]
theorem lowd_len : ∀ k m, (lowd k m).length = k
  | 0, _ => rfl
  | k + 1, m => by rw [lowd, List.length_append, lowd_len k]; rfl
theorem lowd_cons : ∀ k m, lowd (k + 1) m = UInt8.ofNat (48 + m / 10 ^ k % 10) :: lowd k m
  | 0, m => by simp [lowd]
  | k + 1, m => by
    rw [lowd, lowd_cons k (m / 10), Nat.div_div_eq_div_mul, show 10 * 10 ^ k = 10 ^ (k + 1) by rw [Nat.pow_succ, Nat.mul_comm]]
    rfl
theorem lowd_zero : ∀ k, lowd k 0 = List.replicate k 48
  | 0 => rfl
  | k + 1 => by rw [lowd_cons, lowd_zero k]; simp [List.replicate_succ]
theorem lowd_dec : ∀ (k m : Nat), m < 10 ^ (k + 1) → List.replicate (k + 1 - (dec m).length) 48 ++ dec m = lowd (k + 1) m
  | 0, m, h => by
    have h1 : m < 10 := by simpa using h
    rw [dec_small h1, lowd, lowd, Nat.mod_eq_of_lt h1]
    rfl
  | k + 1, m, h => by
    by_cases h1 : m < 10
    · rw [dec_small h1, lowd, Nat.mod_eq_of_lt h1, Nat.div_eq_of_lt h1, lowd_zero]
      rfl
    · have ih := lowd_dec k (m / 10) (Nat.div_lt_of_lt_mul (by rw [Nat.pow_succ] at h; omega))
      rw [dec_big h1, lowd, ← ih, List.length_append, List.length_singleton, ← List.append_assoc]
      congr 3
      omega
end Go.Proofs.YtjmbbkjepgahgaaDoor.W
