/-
  SHA-256 by certificates: a list of words and a list of states are the schedule and the rounds if each follows from those before it.
-/
import Derived.Test.YtbfpepiglcikbaaDoorSMath
namespace Go.Proofs.YtbfpepiglcikbaaDoor.W

/-! A list of words, a list of states: if each follows from those before it, they are the schedule and the rounds. -/
theorem arr_of (l : List UInt8) (ws : List Nat) (h : ∀ t, t < 64 → nth ws t = wordNo l ws t) : ∀ t, t ≤ 64 → ∀ i, i < t → nth (arr l t) i = nth ws i := by
  intro t
  induction t with
  | zero => intro _ i hi; omega
  | succ t ih =>
    intro ht i hi
    have ih' := ih (by omega)
    show nth ((arr l t).set t (wordNo l (arr l t) t)) i = nth ws i
    by_cases e : t = i
    · subst e
      rw [nth_set_same _ _ _ (by rw [arr_len]; omega), h t (by omega)]
      unfold wordNo
      by_cases hlt : t < 16
      · rw [if_pos hlt, if_pos hlt]
      · rw [if_neg hlt, if_neg hlt]
        unfold nextW
        rw [ih' (t - 2) (by omega), ih' (t - 7) (by omega), ih' (t - 15) (by omega), ih' (t - 16) (by omega)]
    · rw [nth_set_other _ _ _ _ e, ih' i (by omega)]
theorem arr_is (l : List UInt8) (ws : List Nat) (hl : ws.length = 64) (h : ∀ t, t < 64 → nth ws t = wordNo l ws t) : arr l 64 = ws :=
  nth_ext (by rw [arr_len, hl]) fun i hi => arr_of l ws h 64 (Nat.le_refl _) i (by rw [arr_len] at hi; exact hi)
def stAt (ss : List Reg) (t : Nat) : Reg := ss.getD t ⟨0, 0, 0, 0, 0, 0, 0, 0⟩
theorem rds_is (ws : List Nat) (r : Reg) (ss : List Reg) (h0 : stAt ss 0 = r) (h : ∀ t, t < 64 → stAt ss (t + 1) = rnd (nth kk t) (nth ws t) (stAt ss t)) : ∀ t, t ≤ 64 → rds ws r t = stAt ss t := by
  intro t
  induction t with
  | zero => intro _; exact h0.symm
  | succ t ih =>
    intro ht
    show rnd (nth kk t) (nth ws t) (rds ws r t) = _
    rw [ih (by omega), h t (by omega)]
theorem blk_is {l : List UInt8} {h : List Nat} {ws : List Nat} {ss : List Reg} (hl : ws.length = 64) (hw : ∀ t, t < 64 → nth ws t = wordNo l ws t) (h0 : stAt ss 0 = regOf h) (hs : ∀ t, t < 64 → stAt ss (t + 1) = rnd (nth kk t) (nth ws t) (stAt ss t)) : blk h l = addTo h (stAt ss 64).list 8 := by
  unfold blk
  rw [arr_is l ws hl hw, rds_is ws _ ss h0 hs 64 (Nat.le_refl _)]
theorem sha_one (l : List UInt8) (h : (padded l).length = 64) : shaOf l = outTo (blk regs0 (padded l)) 8 := by
  unfold shaOf
  rw [h]
  show outTo (blk regs0 (((padded l).drop 0).take 64)) 8 = _
  rw [List.drop_zero, List.take_of_length_le (by omega)]
theorem sha_two (l : List UInt8) (b1 b2 : List UInt8) (h1 h2 : List Nat) (hl : (padded l).length = 128) (e1 : (padded l).take 64 = b1) (e2 : (padded l).drop 64 = b2) (k1 : blk regs0 b1 = h1) (k2 : blk h1 b2 = h2) : shaOf l = outTo h2 8 := by
  unfold shaOf
  rw [hl]
  show outTo (blk (blk regs0 (((padded l).drop 0).take 64)) (((padded l).drop 64).take 64)) 8 = _
  rw [List.drop_zero, e1, k1, e2, List.take_of_length_le (by rw [← e2, List.length_drop, hl]; omega), k2]
end Go.Proofs.YtbfpepiglcikbaaDoor.W
