/-
  Plain mathematics of package wire: the bytes of a number, of a text, of a list of texts, and what a reader makes of bytes. No program is named here.
-/
import Derived.Test.YtbfpepiglcikbaaDoorCMath
namespace Go.Proofs.YtbfpepiglcikbaaDoor.W

theorem head_app {α : Type} {a b : List α} (h : a ≠ []) : (a ++ b).head? = a.head? := by
  cases a with
  | nil => exact absurd rfl h
  | cons x r => rfl

/-- n in base 256, the greatest first, no zero in front. -/
def be (n : Nat) : List UInt8 := if _h : n = 0 then [] else be (n / 256) ++ [UInt8.ofNat (n % 256)]
termination_by n
decreasing_by omega
theorem be_zero : be 0 = [] := by rw [be]; simp
theorem be_pos {n : Nat} (h : n ≠ 0) : be n = be (n / 256) ++ [UInt8.ofNat (n % 256)] := by rw [be]; simp [h]

/-- what a list of bytes is worth -/
def val (l : List UInt8) : Nat := l.foldl (fun n b => n * 256 + b.toNat) 0
theorem val_nil : val [] = 0 := rfl
theorem val_snoc (l : List UInt8) (b : UInt8) : val (l ++ [b]) = val l * 256 + b.toNat := by simp [val]
theorem val_lt (l : List UInt8) : val l < 256 ^ l.length := by
  induction l using snocInd with
  | h0 => simp [val]
  | h1 l b ih =>
    rw [val_snoc, List.length_append, List.length_singleton, Nat.pow_succ]
    have := b.toNat_lt
    omega
theorem val_be (n : Nat) : val (be n) = n := by
  induction n using Nat.strongRecOn with
  | _ n ih =>
    by_cases h : n = 0
    · subst h; rw [be_zero]; rfl
    · rw [be_pos h, val_snoc, ih (n / 256) (by omega), toNat_ofNat (by omega)]; omega

/-- how many bytes n has -/
theorem be_len_le (n k : Nat) (h : n < 256 ^ k) : (be n).length ≤ k := by
  induction k generalizing n with
  | zero => have : n = 0 := by simpa using h
            subst this; rw [be_zero]; simp
  | succ k ih =>
    by_cases hn : n = 0
    · subst hn; rw [be_zero]; simp
    · rw [be_pos hn, List.length_append, List.length_singleton]
      have := ih (n / 256) (by rw [Nat.pow_succ] at h; omega)
      omega
theorem be_head (n : Nat) : (be n).head? ≠ some 0 := by
  induction n using Nat.strongRecOn with
  | _ n ih =>
    by_cases h : n = 0
    · subst h; rw [be_zero]; simp
    · rw [be_pos h]
      by_cases hq : n / 256 = 0
      · rw [hq, be_zero]
        simp only [List.nil_append, List.head?_cons, ne_eq, Option.some.injEq]
        intro he
        have := congrArg UInt8.toNat he
        rw [toNat_ofNat (by omega)] at this
        simp at this
        omega
      · have hne : be (n / 256) ≠ [] := by
          intro he
          have := val_be (n / 256)
          rw [he, val_nil] at this
          omega
        rw [head_app hne]
        exact ih (n / 256) (by omega)
/-- bytes without a zero in front are those of what they are worth -/
theorem be_val (l : List UInt8) (h : l.head? ≠ some 0) : be (val l) = l := by
  induction l using snocInd with
  | h0 => rw [val_nil, be_zero]
  | h1 l b ih =>
    rw [val_snoc]
    have hb := b.toNat_lt
    by_cases hl : l = []
    · subst hl
      rw [val_nil]
      have hb0 : b ≠ 0 := by simpa using h
      have hbn : b.toNat ≠ 0 := fun e => hb0 (UInt8.toNat_inj.1 (by simpa using e))
      rw [be_pos (by omega), show (0 * 256 + b.toNat) / 256 = 0 by omega, be_zero, show (0 * 256 + b.toNat) % 256 = b.toNat by omega]
      simp
    · rw [head_app hl] at h
      have hv : val l ≠ 0 := by
        intro e
        have := ih h
        rw [e, be_zero] at this
        exact hl this.symm
      rw [be_pos (by omega), show (val l * 256 + b.toNat) / 256 = val l by omega, show (val l * 256 + b.toNat) % 256 = b.toNat by omega, ih h]
      simp

/-- the encodings -/
def num (n : Nat) : List UInt8 := UInt8.ofNat (be n).length :: be n
def text (s : List UInt8) : List UInt8 := num s.length ++ s
def join (l : List (List UInt8)) : List UInt8 := num l.length ++ (l.map text).flatten

/-- the i-th byte from the end -/
theorem be_at (n i : Nat) (h : i < (be n).length) : (be n)[(be n).length - 1 - i]'(by omega) = UInt8.ofNat (n / 256 ^ i % 256) := by
  induction i generalizing n with
  | zero =>
    have h0 : n ≠ 0 := by intro e; subst e; rw [be_zero] at h; simp at h
    have e := be_pos h0
    simp only [e, List.length_append, List.length_singleton, Nat.add_sub_cancel, Nat.sub_zero, Nat.pow_zero, Nat.div_one]
    simp
  | succ i ih =>
    have h0 : n ≠ 0 := by intro e; subst e; rw [be_zero] at h; simp at h
    have e := be_pos h0
    have hl : i < (be (n / 256)).length := by rw [e] at h; simp at h; omega
    have h2 := ih (n / 256) hl
    have hd : n / 256 / 256 ^ i = n / 256 ^ (i + 1) := by rw [Nat.div_div_eq_div_mul, Nat.pow_succ, Nat.mul_comm]
    rw [hd] at h2
    rw [← h2]
    simp only [e, List.length_append, List.length_singleton]
    rw [List.getElem_append_left (by omega)]
    congr 1
    omega
theorem be_take (n j : Nat) (h : j < (be n).length) : (be n).take (j + 1) = (be n).take j ++ [UInt8.ofNat (n / 256 ^ ((be n).length - 1 - j) % 256)] := by
  rw [List.take_succ_eq_append_getElem h, ← be_at n ((be n).length - 1 - j) (by omega)]
  congr 2
  congr 1
  omega
theorem num_len (n : Nat) : (num n).length = (be n).length + 1 := rfl

end Go.Proofs.YtbfpepiglcikbaaDoor.W
