/-
  Decimal numerals and names as plain functions.
-/
import Derived.Test.YtfabifpalalhdaaDoorCMath
import Derived.Lib.ItoaMem
import Derived.Lib.AtoiTie
namespace Go.Proofs.YtfabifpalalhdaaDoor.W

def dec (n : Nat) : List UInt8 := Lib.decDigits n
theorem dec_small {n : Nat} (h : n < 10) : dec n = [UInt8.ofNat (48 + n)] := Lib.decDigits_one h
theorem dec_big {n : Nat} (h : ¬ n < 10) : dec n = dec (n / 10) ++ [UInt8.ofNat (48 + n % 10)] := by
  unfold dec
  rw [Lib.decDigits, dif_neg h]
theorem digitVal_of (d : Nat) (h : d < 10) : Lib.digitVal (UInt8.ofNat (48 + d)) = some d := by
  have e : (UInt8.ofNat (48 + d)).toNat = 48 + d := by rw [UInt8.toNat_ofNat']; omega
  unfold Lib.digitVal
  rw [e, if_pos (by omega)]
  congr 1
  omega
theorem decFrom_append : ∀ (a b : List UInt8) (acc : Nat), Lib.decFrom acc (a ++ b) = (Lib.decFrom acc a).bind fun m => Lib.decFrom m b
  | [], b, acc => rfl
  | x :: r, b, acc => by
    simp only [List.cons_append, Lib.decFrom]
    cases Lib.digitVal x with
    | none => rfl
    | some d => exact decFrom_append r b _
theorem decFrom_dec (n : Nat) : Lib.decFrom 0 (dec n) = some n := by
  induction n using Nat.strongRecOn with
  | ind n ih =>
    by_cases h : n < 10
    · rw [dec_small h]
      simp only [Lib.decFrom, digitVal_of n h]
      simp
    · rw [dec_big h, decFrom_append, ih (n / 10) (by omega)]
      simp only [Option.bind_some, Lib.decFrom, digitVal_of (n % 10) (by omega)]
      congr 1
      omega
theorem dec_digit (n : Nat) : ∀ b ∈ dec n, 48 ≤ b.toNat ∧ b.toNat ≤ 57 := by
  induction n using Nat.strongRecOn with
  | ind n ih =>
    intro b hb
    by_cases h : n < 10
    · rw [dec_small h] at hb
      simp only [List.mem_singleton] at hb
      subst hb
      rw [UInt8.toNat_ofNat']
      omega
    · rw [dec_big h] at hb
      rcases List.mem_append.mp hb with hb | hb
      · exact ih (n / 10) (by omega) b hb
      · simp only [List.mem_singleton] at hb
        subst hb
        rw [UInt8.toNat_ofNat']
        omega
theorem dec_len_le : ∀ (k n : Nat), n < 10 ^ (k + 1) → (dec n).length ≤ k + 1
  | 0, n, h => by rw [dec_small (by simpa using h)]; simp
  | k + 1, n, h => by
    by_cases h1 : n < 10
    · rw [dec_small h1]; simp
    · have := dec_len_le k (n / 10) (Nat.div_lt_of_lt_mul (by rw [Nat.pow_succ] at h; omega))
      rw [dec_big h1]
      simp only [List.length_append, List.length_singleton]
      omega
theorem dec_len (n : Nat) (h : n ≤ 1099511627776) : (dec n).length ≤ 13 := dec_len_le 12 n (by omega)
theorem dec_cons (n : Nat) : ∃ c r, dec n = c :: r ∧ 48 ≤ c.toNat ∧ c.toNat ≤ 57 := by
  cases h : dec n with
  | nil =>
    have := decFrom_dec n
    by_cases h1 : n < 10
    · rw [dec_small h1] at h; cases h
    · rw [dec_big h1] at h; simp at h
  | cons c r => exact ⟨c, r, rfl, dec_digit n c (by rw [h]; simp)⟩
theorem dec_pos (n : Nat) : 1 ≤ (dec n).length := by
  obtain ⟨c, r, h, _⟩ := dec_cons n
  rw [h]
  simp
theorem atoi_dec (n : Nat) (h : n ≤ 1099511627776) : Lib.atoiAll (dec n) = .ok (n : Int) := by
  obtain ⟨c, r, e, h1, h2⟩ := dec_cons n
  have hl := dec_len n h
  have hf := decFrom_dec n
  rw [e] at hl hf ⊢
  rw [Lib.atoiAll_plain c r (by omega) (by omega), Lib.signless_short (by omega)]
  have : Lib.decNat (c :: r) = some n := by simp [Lib.decNat, hf]
  rw [this]
  rfl

/-- what the numbered names of a kind begin with -/
def wd (k : Int) : List UInt8 :=
  if k = 1 then [99, 104, 97, 110, 110, 101, 108, 45] else if k = 2 then [99, 111, 110, 110, 101, 99, 116, 105, 111, 110, 45] else if k = 3 then [99, 108, 105, 101, 110, 116, 45] else []
def mkE (k n : Int) : Int := if wd k = [] then 1 else if n < 0 ∨ 1099511627776 < n then 3 else 0
def mkS (k n : Int) : List UInt8 := if mkE k n = 0 then wd k ++ dec n.toNat else []
def numOf (k : Int) (l : List UInt8) : Option Int :=
  match Lib.decFrom 0 (l.drop (wd k).length) with
  | some n => if mkE k n = 0 ∧ mkS k n = l then some (n : Int) else none
  | none => none
theorem mk_ok {k n : Int} (h : mkE k n = 0) : wd k ≠ [] ∧ 0 ≤ n ∧ n ≤ 1099511627776 := by
  unfold mkE at h
  split at h
  · cases h
  · rename_i h1
    split at h
    · cases h
    · exact ⟨h1, by omega, by omega⟩
theorem numOf_some (k : Int) (l : List UInt8) (n : Int) : numOf k l = some n ↔ mkE k n = 0 ∧ mkS k n = l := by
  constructor
  · intro h
    unfold numOf at h
    split at h
    · split at h
      · rename_i hh
        injection h with h
        subst h
        exact hh
      · cases h
    · cases h
  · rintro ⟨h1, h2⟩
    obtain ⟨hw, h0, hn⟩ := mk_ok h1
    have e : l = wd k ++ dec n.toNat := by rw [← h2, mkS, if_pos h1]
    have hc : ((n.toNat : Nat) : Int) = n := by omega
    unfold numOf
    rw [e, List.drop_left, decFrom_dec]
    simp only [hc]
    rw [if_pos ⟨h1, by rw [mkS, if_pos h1]⟩]
def nmN (k : Int) (l : List UInt8) : Int := (numOf k l).getD 0
def nmE (k : Int) (l : List UInt8) : Int := if wd k = [] then 1 else if (numOf k l).isSome then 0 else 7
theorem nm_none {k : Int} (h : wd k = []) (l : List UInt8) : nmN k l = 0 ∧ nmE k l = 1 := by
  refine ⟨?_, by rw [nmE, if_pos h]⟩
  unfold nmN
  cases e : numOf k l with
  | none => rfl
  | some n => exact absurd h (mk_ok ((numOf_some k l n).mp e).1).1
theorem nm_yes {k n : Int} {l : List UInt8} (h1 : mkE k n = 0) (h2 : mkS k n = l) : nmN k l = n ∧ nmE k l = 0 := by
  have e := (numOf_some k l n).mpr ⟨h1, h2⟩
  exact ⟨by rw [nmN, e]; rfl, by rw [nmE, if_neg (mk_ok h1).1, e]; rfl⟩
theorem nm_no {k : Int} {l : List UInt8} (hw : wd k ≠ []) (h : ∀ n, mkE k n = 0 → mkS k n ≠ l) : nmN k l = 0 ∧ nmE k l = 7 := by
  have e : numOf k l = none := by
    cases e : numOf k l with
    | none => rfl
    | some n => exact absurd ((numOf_some k l n).mp e).2 (h n ((numOf_some k l n).mp e).1)
  exact ⟨by rw [nmN, e]; rfl, by rw [nmE, if_neg hw, e]; rfl⟩
/-- a name of a number, whole -/
theorem mk_is {k n : Int} {l : List UInt8} (h1 : mkE k n = 0) (h2 : mkS k n = l) : l = wd k ++ dec n.toNat ∧ 0 ≤ n ∧ n ≤ 1099511627776 := by
  obtain ⟨_, h0, hn⟩ := mk_ok h1
  exact ⟨by rw [← h2, mkS, if_pos h1], h0, hn⟩

/-- a letter -/
def ltr (c : UInt8) : Bool :=
  decide (97 ≤ c.toNat ∧ c.toNat ≤ 122) || decide (65 ≤ c.toNat ∧ c.toNat ≤ 90) || decide (48 ≤ c.toNat ∧ c.toNat ≤ 57) || decide (c.toNat = 46) || decide (c.toNat = 95) || decide (c.toNat = 45)
def plain (l : List UInt8) : Bool := l.all ltr && decide (1 ≤ l.length) && decide (l.length ≤ 64)
def ck (k : Int) (l : List UInt8) : Int :=
  if k < 0 ∨ 6 < k then 1 else if wd k = [] then (if plain l then 0 else 7) else nmE k l

theorem wd_clean (k : Int) : ∀ b ∈ wd k, b.toNat ≠ 47 ∧ b.toNat ≠ 37 := by
  unfold wd
  split
  · decide
  · split
    · decide
    · split
      · decide
      · simp
theorem ck_clean {k : Int} {l : List UInt8} (h : ck k l = 0) : ∀ b ∈ l, b.toNat ≠ 47 ∧ b.toNat ≠ 37 := by
  intro b hb
  unfold ck at h
  split at h
  · cases h
  · split at h
    · split at h
      · rename_i hp
        unfold plain at hp
        simp only [Bool.and_eq_true, List.all_eq_true] at hp
        have := hp.1.1 b hb
        unfold ltr at this
        simp only [Bool.or_eq_true, decide_eq_true_eq] at this
        omega
      · cases h
    · rename_i hw
      unfold nmE at h
      rw [if_neg hw] at h
      split at h
      · rename_i hs
        obtain ⟨n, hn⟩ := Option.isSome_iff_exists.mp hs
        obtain ⟨h1, h2⟩ := (numOf_some k l n).mp hn
        rw [(mk_is h1 h2).1] at hb
        rcases List.mem_append.mp hb with hb | hb
        · exact wd_clean k b hb
        · have := dec_digit _ b hb
          omega
      · cases h
end Go.Proofs.YtfabifpalalhdaaDoor.W
