import Derived.Lib.Bytealg
import Derived.Lib.Strings
import Derived.Maps.OwnIn
import Derived.Maps.AppendAt
import Derived.Laws.AppendOwn
import Derived.Lib.Hide
import Derived.WalkKit
import Derived.IntWalk
import Derived.Deep.LoopGhost
import Derived.Test.YtkejaepmoabikaaGreatDoorShelf
import Derived.OwnWalk
import Derived.Deep.RegionHeld3
import Derived.StillTactics
import Derived.Test.YtkejaepmoabikaaGreatDoorZ0a
namespace Go.Proofs.YtkejaepmoabikaaGreatDoor.W
open Lib (compareBytes)
theorem cb_cases : ∀ a b : List UInt8, compareBytes a b = -1 ∨ compareBytes a b = 0 ∨ compareBytes a b = 1
 | [], [] => by simp [compareBytes]
 | [], _ :: _ => by simp [compareBytes]
 | _ :: _, [] => by simp [compareBytes]
 | a :: ar, b :: bs => by
  unfold compareBytes
  split
  ·simp
  ·split
   ·simp
   ·exact cb_cases ar bs
theorem u8_lt_ne {a b : UInt8} (h : a < b) : ¬ b < a := fun h2 => by
 rw [UInt8.lt_iff_toNat_lt] at h h2; omega
theorem u8_eq {a b : UInt8} (h : ¬ a < b) (h2 : ¬ b < a) : a = b := by
 rw [UInt8.lt_iff_toNat_lt] at h h2; exact UInt8.toNat_inj.1 (by omega)
theorem cb_flip : ∀ a b : List UInt8, compareBytes b a = - compareBytes a b
 | [], [] => by simp [compareBytes]
 | [], _ :: _ => by simp [compareBytes]
 | _ :: _, [] => by simp [compareBytes]
 | a :: ar, b :: bs => by
  unfold compareBytes
  by_cases h : a < b
  ·simp [h, u8_lt_ne h]
  ·by_cases h2 : b < a
   ·simp [h2, u8_lt_ne h2]
   ·simp [h, h2, cb_flip ar bs]
theorem cb_self : ∀ a : List UInt8, compareBytes a a = 0
 | [] => by simp [compareBytes]
 | a :: ar => by unfold compareBytes; simp [UInt8.lt_irrefl, cb_self ar]
theorem cb_zero : ∀ {a b : List UInt8}, compareBytes a b = 0 → a = b
 | [], [], _ => rfl
 | [], _ :: _, h => by simp [compareBytes] at h
 | _ :: _, [], h => by simp [compareBytes] at h
 | a :: ar, b :: bs, h => by
  unfold compareBytes at h
  by_cases h1 : a < b
  ·simp [h1] at h
  ·by_cases h2 : b < a
   ·simp [h1, h2] at h
   ·simp only [h1, h2, if_false] at h
    rw [u8_eq h1 h2, cb_zero h]
theorem cb_trans : ∀ {a b c : List UInt8}, compareBytes a b = -1 → compareBytes b c = -1 → compareBytes a c = -1
 | [], _ :: _, _ :: _, _, _ => by simp [compareBytes]
 | [], [], _, h, _ => by simp [compareBytes] at h
 | _, _ :: _, [], _, h => by simp [compareBytes] at h
 | _ :: _, [], _, h, _ => by simp [compareBytes] at h
 | a :: ar, b :: bs, c :: cs, h, k => by
  unfold compareBytes at h k ⊢
  by_cases h1 : a < b
  ·by_cases k1 : b < c
   ·have : a < c := by rw [UInt8.lt_iff_toNat_lt] at *; omega
    simp [this]
   ·by_cases k2 : c < b
    ·simp [k1, k2] at k
    ·have e := u8_eq k1 k2
     subst e
     simp [h1]
  ·by_cases h2 : b < a
   ·simp [h1, h2] at h
   ·have e := u8_eq h1 h2
    subst e
    simp only [h1, if_false] at h
    by_cases k1 : a < c
    ·simp [k1]
    ·by_cases k2 : c < a
     ·simp [k1, k2] at k
     ·simp only [k1, k2, if_false] at k ⊢
      exact cb_trans h k
theorem cb_prefix : ∀ {p a : List UInt8}, p.isPrefixOf a = true → compareBytes a p ≠ -1
 | [], [], _ => by simp [compareBytes]
 | [], _ :: _, _ => by simp [compareBytes]
 | _ :: _, [], h => by simp at h
 | p :: ps, a :: ar, h => by
  simp only [List.isPrefixOf_cons_cons, Bool.and_eq_true, beq_iff_eq] at h
  obtain ⟨rfl, h⟩ := h
  unfold compareBytes
  simp only [UInt8.lt_irrefl, if_false]
  exact cb_prefix h
theorem cb_between : ∀ {p a b : List UInt8}, compareBytes a p ≠ -1 → compareBytes a b = -1 → p.isPrefixOf b = true → p.isPrefixOf a = true
 | [], _, _, _, _, _ => by simp
 | _ :: _, _, [], _, _, h => by simp at h
 | _ :: _, [], _, h, _, _ => by simp [compareBytes] at h
 | p :: ps, a :: ar, b :: bs, h, k, hb => by
  simp only [List.isPrefixOf_cons_cons, Bool.and_eq_true, beq_iff_eq] at hb ⊢
  obtain ⟨rfl, hb⟩ := hb
  unfold compareBytes at h k
  by_cases h1 : a < p
  ·simp [h1] at h
  ·by_cases h2 : p < a
   ·simp [h1, h2] at k
   ·have e := u8_eq h1 h2
    subst e
    simp only [h1, if_false] at h k
    exact ⟨rfl, cb_between h k hb⟩
def kc (a b : ByteArray) : Int := compareBytes a.data.toList b.data.toList
theorem kc_cases (a b : ByteArray) : kc a b = -1 ∨ kc a b = 0 ∨ kc a b = 1 := cb_cases _ _
theorem kc_flip (a b : ByteArray) : kc b a = - kc a b := cb_flip _ _
theorem kc_self (a : ByteArray) : kc a a = 0 := cb_self _
theorem kc_zero {a b : ByteArray} (h : kc a b = 0) : a = b := by
 rw [← bs_of a, ← bs_of b, cb_zero h]
theorem kc_trans {a b c : ByteArray} (h : kc a b = -1) (k : kc b c = -1) : kc a c = -1 := cb_trans h k
theorem kc_ne {a b : ByteArray} (h : kc a b = -1) : a ≠ b := fun e => by rw [e, kc_self] at h; cases h
theorem kc_gt {a b : ByteArray} (h : kc a b = -1) : kc b a = 1 := by rw [kc_flip, h]; rfl
theorem kc_lt {a b : ByteArray} (h : kc a b = 1) : kc b a = -1 := by rw [kc_flip, h]
def pfx (p k : ByteArray) : Bool := p.data.toList.isPrefixOf k.data.toList
abbrev KV := ByteArray × ByteArray
def Up (l : List KV) : Prop := l.Pairwise fun x y => kc x.1 y.1 = -1
def lget (l : List KV) (k : ByteArray) : Option ByteArray := (l.find? fun x => decide (x.1 = k)).map Prod.snd
def ldel (l : List KV) (k : ByteArray) : List KV := l.filter fun x => decide (x.1 ≠ k)
def lset : List KV → ByteArray → ByteArray → List KV
 | [], k, v => [(k, v)]
 | x :: r, k, v => if kc k x.1 = -1 then (k, v) :: x :: r else if kc k x.1 = 0 then (k, v) :: r else x :: lset r k v
def lall (l : List KV) (p : ByteArray) : List KV := l.filter fun x => pfx p x.1
def lfrom (l : List KV) (low : ByteArray) : List KV := l.filter fun x => decide (kc x.1 low ≠ -1)
section
variable {A B : List KV} {x : KV} {k v : ByteArray}
theorem up_mid (h : Up (A ++ x :: B)) : Up A ∧ Up B ∧ (∀ a ∈ A, kc a.1 x.1 = -1) ∧ (∀ b ∈ B, kc x.1 b.1 = -1) ∧ ∀ a ∈ A, ∀ b ∈ B, kc a.1 b.1 = -1 := by
 unfold Up at *
 rw [List.pairwise_append, List.pairwise_cons] at h
 obtain ⟨h1, ⟨h2, h3⟩, h4⟩ := h
 exact ⟨h1, h3, fun a ha => h4 a ha x (by simp), h2, fun a ha b hb => h4 a ha b (by simp [hb])⟩
theorem lset_left (h : kc k x.1 = -1) : lset (A ++ x :: B) k v = lset A k v ++ x :: B := by
 induction A with
 | nil => simp [lset, h]
 | cons a A ih =>
  simp only [List.cons_append, lset]
  split
  ·rfl
  ·split
   ·rfl
   ·rw [ih]; rfl
theorem lset_skip (h : ∀ a ∈ A, kc k a.1 = 1) (l : List KV) : lset (A ++ l) k v = A ++ lset l k v := by
 induction A with
 | nil => rfl
 | cons a A ih =>
  have h1 := h a (by simp)
  simp only [List.cons_append, lset]
  rw [if_neg (by rw [h1]; decide), if_neg (by rw [h1]; decide), ih (fun b hb => h b (by simp [hb]))]
theorem lset_right (hu : Up (A ++ x :: B)) (h : kc k x.1 = 1) : lset (A ++ x :: B) k v = A ++ x :: lset B k v := by
 obtain ⟨_, _, h1, _, _⟩ := up_mid hu
 rw [lset_skip (fun a ha => kc_gt (kc_trans (h1 a ha) (kc_lt h)))]
 simp only [lset]
 rw [if_neg (by rw [h]; decide), if_neg (by rw [h]; decide)]
theorem lset_here (hu : Up (A ++ x :: B)) (h : kc k x.1 = 0) : lset (A ++ x :: B) k v = A ++ (k, v) :: B := by
 obtain ⟨_, _, h1, _, _⟩ := up_mid hu
 have e := kc_zero h
 rw [lset_skip (fun a ha => by rw [e]; exact kc_gt (h1 a ha))]
 simp only [lset]
 rw [if_neg (by rw [h]; decide), if_pos h]
theorem lset_mem {l : List KV} {y : KV} (h : y ∈ lset l k v) : y = (k, v) ∨ y ∈ l := by
 induction l with
 | nil => simpa [lset] using h
 | cons a r ih =>
  simp only [lset] at h
  split at h
  ·simpa using h
  ·split at h
   ·simp at h
    rcases h with h | h
    ·exact .inl h
    ·exact .inr (by simp [h])
   ·simp at h
    rcases h with h | h
    ·exact .inr (by simp [h])
    ·rcases ih h with h | h
     ·exact .inl h
     ·exact .inr (by simp [h])
theorem lset_up {l : List KV} (hu : Up l) : Up (lset l k v) := by
 unfold Up at *
 induction l with
 | nil => simp [lset]
 | cons a r ih =>
  rw [List.pairwise_cons] at hu
  simp only [lset]
  split
  ·rename_i h
   rw [List.pairwise_cons, List.pairwise_cons]
   refine ⟨fun y hy => ?_, hu⟩
   simp at hy
   rcases hy with rfl | hy
   ·exact h
   ·exact kc_trans h (hu.1 y hy)
  ·rename_i h1
   split
   ·rename_i h
    rw [List.pairwise_cons]
    have e := kc_zero h
    exact ⟨fun y hy => by rw [e]; exact hu.1 y hy, hu.2⟩
   ·rename_i h2
    rw [List.pairwise_cons]
    refine ⟨fun y hy => ?_, ih hu.2⟩
    have h3 : kc k a.1 = 1 := by rcases kc_cases k a.1 with h | h | h <;> simp_all
    rcases lset_mem hy with rfl | hy
    ·exact kc_lt h3
    ·exact hu.1 y hy
theorem lset_len (l : List KV) : (lset l k v).length ≤ l.length + 1 := by
 induction l with
 | nil => simp [lset]
 | cons a r ih =>
  simp only [lset]
  split
  ·simp
  ·split
   ·simp
   ·simp only [List.length_cons]; omega
theorem lget_append (l m : List KV) : lget (l ++ m) k = (lget l k).or (lget m k) := by
 unfold lget
 rw [List.find?_append]
 cases l.find? (fun x => decide (x.1 = k)) <;> simp
theorem lget_none {l : List KV} (h : ∀ y ∈ l, y.1 ≠ k) : lget l k = none := by
 unfold lget
 rw [List.find?_eq_none.2 (fun y hy => by simpa using h y hy)]
 rfl
theorem lget_cons_ne (h : x.1 ≠ k) (B : List KV) : lget (x :: B) k = lget B k := by
 unfold lget
 rw [List.find?_cons_of_neg (by simpa using h)]
theorem lget_cons_eq (h : x.1 = k) (B : List KV) : lget (x :: B) k = some x.2 := by
 unfold lget
 rw [List.find?_cons_of_pos (by simpa using h)]
 rfl
theorem lget_left (hu : Up (A ++ x :: B)) (h : kc k x.1 = -1) : lget (A ++ x :: B) k = lget A k := by
 obtain ⟨_, _, _, h2, _⟩ := up_mid hu
 rw [lget_append, lget_none (l := x :: B)]
 ·cases lget A k <;> rfl
 ·intro y hy
  simp at hy
  rcases hy with rfl | hy
  ·exact (kc_ne h).symm
  ·exact (kc_ne (kc_trans h (h2 y hy))).symm
theorem lget_right (hu : Up (A ++ x :: B)) (h : kc k x.1 = 1) : lget (A ++ x :: B) k = lget B k := by
 obtain ⟨_, _, h1, _, _⟩ := up_mid hu
 rw [lget_append, lget_none (l := A) (fun y hy => kc_ne (kc_trans (h1 y hy) (kc_lt h))), lget_cons_ne (kc_ne (kc_lt h))]
 rfl
theorem lget_here (hu : Up (A ++ x :: B)) (h : kc k x.1 = 0) : lget (A ++ x :: B) k = some x.2 := by
 obtain ⟨_, _, h1, _, _⟩ := up_mid hu
 have e := kc_zero h
 rw [lget_append, lget_none (l := A) (fun y hy => by rw [e]; exact kc_ne (h1 y hy)), lget_cons_eq e.symm]
 rfl
theorem ldel_same {l : List KV} (h : ∀ y ∈ l, y.1 ≠ k) : ldel l k = l := by
 unfold ldel
 rw [List.filter_eq_self]
 intro y hy
 simpa using h y hy
theorem ldel_cons_ne (h : x.1 ≠ k) (B : List KV) : ldel (x :: B) k = x :: ldel B k := List.filter_cons_of_pos (by simpa using h)
theorem ldel_cons_eq (h : x.1 = k) (B : List KV) : ldel (x :: B) k = ldel B k := List.filter_cons_of_neg (by simpa using h)
end
theorem lset_size {l : List KV} (hu : Up l) (k v : ByteArray) : (lset l k v).length = if (lget l k).isSome then l.length else l.length + 1 := by
 induction l with
 | nil => simp [lset, lget]
 | cons a r ih =>
  have hu' := hu
  unfold Up at hu
  rw [List.pairwise_cons] at hu
  simp only [lset]
  rcases kc_cases k a.1 with h | h | h
  ·rw [if_pos h, lget_none]
   ·simp
   ·intro y hy
    simp at hy
    rcases hy with rfl | hy
    ·exact (kc_ne h).symm
    ·exact (kc_ne (kc_trans h (hu.1 y hy))).symm
  ·rw [if_neg (by rw [h]; decide), if_pos h, lget_cons_eq (kc_zero h).symm]
   simp
  ·rw [if_neg (by rw [h]; decide), if_neg (by rw [h]; decide), lget_cons_ne (kc_ne (kc_lt h))]
   simp only [List.length_cons, ih hu.2]
   split <;> simp
theorem ldel_absent {l : List KV} {k : ByteArray} (h : lget l k = none) : ldel l k = l := by
 refine ldel_same fun y hy e => ?_
 unfold lget at h
 rw [Option.map_eq_none_iff, List.find?_eq_none] at h
 exact h y hy (by simpa using e)
theorem lfrom_low {A B : List KV} {x : KV} {low : ByteArray} (hu : Up (A ++ x :: B)) (h : kc x.1 low = -1) : lfrom (A ++ x :: B) low = lfrom B low := by
 obtain ⟨_, _, h1, _, _⟩ := up_mid hu
 unfold lfrom
 rw [List.filter_append, List.filter_cons_of_neg (by simp [h]), List.filter_eq_nil_iff.2 (fun a ha => by simp [kc_trans (h1 a ha) h])]
 rfl
theorem lfrom_high {A B : List KV} {x : KV} {low : ByteArray} (h : kc x.1 low ≠ -1) : lfrom (A ++ x :: B) low = lfrom A low ++ x :: lfrom B low := by
 unfold lfrom
 rw [List.filter_append, List.filter_cons_of_pos (by simp [h])]
theorem pfx_from {p k : ByteArray} (h : pfx p k = true) : kc k p ≠ -1 := cb_prefix h
theorem pfx_between {p a b : ByteArray} (h : kc a p ≠ -1) (k : kc a b = -1) (hb : pfx p b = true) : pfx p a = true := cb_between h k hb
theorem take_pfx {l : List KV} {p : ByteArray} (hu : Up l) (h : ∀ x ∈ l, kc x.1 p ≠ -1) : l.takeWhile (fun x => pfx p x.1) = l.filter (fun x => pfx p x.1) := by
 induction l with
 | nil => rfl
 | cons a r ih =>
  unfold Up at hu
  rw [List.pairwise_cons] at hu
  rw [List.takeWhile_cons, List.filter_cons]
  split
  ·rw [ih hu.2 (fun x hx => h x (by simp [hx]))]
  ·rename_i ha
   symm
   rw [List.filter_eq_nil_iff]
   intro x hx hp
   exact ha (pfx_between (h a (by simp)) (hu.1 x hx) hp)
theorem lall_is {l : List KV} {p : ByteArray} (hu : Up l) : (lfrom l p).takeWhile (fun x => pfx p x.1) = lall l p := by
 have hu2 : Up (lfrom l p) := List.Pairwise.filter _ hu
 rw [take_pfx hu2 (fun x hx => by simpa using (List.mem_filter.1 hx).2)]
 unfold lfrom lall
 rw [List.filter_filter]
 congr 1
 funext x
 cases h : pfx p x.1
 ·simp
 ·simp [pfx_from h]
end Go.Proofs.YtkejaepmoabikaaGreatDoor.W
namespace Go.Proofs.YtkejaepmoabikaaGreatDoor.W
def spl (n : Nat) : Nat := if n < 2 then 0 else 2 ^ (Lib.bitLen (n - 1) - 1)
theorem bitLen_two : ∀ (j x : Nat), 2 ^ j ≤ x → x < 2 ^ (j + 1) → x < 2 ^ 64 → Lib.bitLen x = j + 1
 | 0, x, h1, h2, _ => by
  obtain rfl : x = 1 := by omega
  decide +kernel
 | j + 1, x, h1, h2, h3 => by
  have h0 : x ≠ 0 := by have := Nat.two_pow_pos (j + 1); omega
  rw [Nat.pow_succ] at h1 h2
  rw [Lib.bitLen_half x h0 h3, bitLen_two j (x / 2) (by omega) (by rw [Nat.pow_succ] at *; omega) (by omega)]
  omega
theorem spl_small (n : Nat) (h : n < 2) : spl n = 0 := by unfold spl; rw [if_pos h]
theorem spl_is (j n : Nat) (h1 : 2 ^ j < n) (h2 : n ≤ 2 * 2 ^ j) (h3 : n < 2 ^ 64) : spl n = 2 ^ j := by
 have h0 := Nat.two_pow_pos j
 unfold spl
 rw [if_neg (by omega), bitLen_two j (n - 1) (by omega) (by rw [Nat.pow_succ]; omega) (by omega), Nat.add_sub_cancel]
theorem pow_of : ∀ n : Nat, 2 ≤ n → ∃ j, 2 ^ j < n ∧ n ≤ 2 * 2 ^ j := by
 intro n
 induction n using Nat.strongRecOn with
 | _ n ih =>
  intro h
  by_cases h2 : n = 2
  ·subst h2; exact ⟨0, by decide, by decide⟩
  ·by_cases h3 : n = 3
   ·subst h3; exact ⟨1, by decide, by decide⟩
   ·obtain ⟨j, h4, h5⟩ := ih ((n + 1) / 2) (by omega) (by omega)
    exact ⟨j + 1, by rw [Nat.pow_succ]; omega, by rw [Nat.pow_succ]; omega⟩
theorem spl_pos {n : Nat} (h : 2 ≤ n) (h3 : n < 2 ^ 64) : 1 ≤ spl n ∧ spl n < n ∧ n - spl n ≤ spl n := by
 obtain ⟨j, h1, h2⟩ := pow_of n h
 have h0 := Nat.two_pow_pos j
 rw [spl_is j n h1 h2 h3]
 omega
def leafOf (p : KV) : List UInt8 := 0 :: ((encText p.1).1 ++ (encText p.2).1)
def nodeOf (a b : List UInt8) : List UInt8 := 1 :: (a ++ b)
def topOf (n : Int) (t : List UInt8) : List UInt8 := 2 :: ((encNum n).1 ++ t)
def treeF : Nat → List KV → List UInt8
 | 0, _ => []
 | f + 1, l => match l with
  | [] => []
  | [p] => shaOf (leafOf p)
  | p :: q :: r => shaOf (nodeOf (treeF f ((p :: q :: r).take (spl (r.length + 2)))) (treeF f ((p :: q :: r).drop (spl (r.length + 2)))))
def tree (l : List KV) : List UInt8 := treeF l.length l
theorem treeF_more : ∀ (f : Nat) (l : List KV), l.length ≤ f → l.length < 2 ^ 64 → ∀ g, l.length ≤ g → treeF f l = treeF g l := by
 intro f
 induction f with
 | zero =>
  intro l h _ g _
  obtain rfl : l = [] := List.eq_nil_of_length_eq_zero (by omega)
  cases g <;> rfl
 | succ f ih =>
  intro l h h64 g hg
  match l, g with
  | [], 0 => rfl
  | [], g + 1 => rfl
  | [p], g + 1 => rfl
  | p :: q :: r, g + 1 =>
   simp only [List.length_cons] at h hg h64
   obtain ⟨s1, s2, s3⟩ := spl_pos (n := r.length + 2) (by omega) (by omega)
   have e1 : ((p :: q :: r).take (spl (r.length + 2))).length = spl (r.length + 2) := by rw [List.length_take]; simp only [List.length_cons]; omega
   have e2 : ((p :: q :: r).drop (spl (r.length + 2))).length = r.length + 2 - spl (r.length + 2) := by rw [List.length_drop]; simp only [List.length_cons]
   show shaOf _ = shaOf _
   rw [ih _ (by rw [e1]; omega) (by rw [e1]; omega) g (by rw [e1]; omega), ih _ (by rw [e2]; omega) (by rw [e2]; omega) g (by rw [e2]; omega)]
theorem tree_nil : tree [] = [] := rfl
theorem tree_one (p : KV) : tree [p] = shaOf (leafOf p) := rfl
theorem tree_two (l : List KV) (h : 2 ≤ l.length) (h64 : l.length < 2 ^ 64) : tree l = shaOf (nodeOf (tree (l.take (spl l.length))) (tree (l.drop (spl l.length)))) := by
 match l, h with
 | p :: q :: r, _ =>
  simp only [List.length_cons] at h64
  obtain ⟨s1, s2, s3⟩ := spl_pos (n := r.length + 2) (by omega) (by omega)
  have e1 : ((p :: q :: r).take (spl (r.length + 2))).length = spl (r.length + 2) := by rw [List.length_take]; simp only [List.length_cons]; omega
  have e2 : ((p :: q :: r).drop (spl (r.length + 2))).length = r.length + 2 - spl (r.length + 2) := by rw [List.length_drop]; simp only [List.length_cons]
  show shaOf (nodeOf (treeF (r.length + 1) ((p :: q :: r).take (spl (r.length + 2)))) (treeF (r.length + 1) ((p :: q :: r).drop (spl (r.length + 2))))) = shaOf (nodeOf (tree ((p :: q :: r).take (spl (r.length + 2)))) (tree ((p :: q :: r).drop (spl (r.length + 2)))))
  unfold tree
  rw [treeF_more (r.length + 1) _ (by rw [e1]; omega) (by rw [e1]; omega) _ (Nat.le_refl _), treeF_more (r.length + 1) _ (by rw [e2]; omega) (by rw [e2]; omega) _ (Nat.le_refl _)]
theorem tree_len (l : List KV) (h : l ≠ []) (h64 : l.length < 2 ^ 64) : (tree l).length = 32 := by
 match l, h with
 | [p], _ => rw [tree_one, shaOf_len]
 | p :: q :: r, _ => rw [tree_two _ (by simp) h64, shaOf_len]
theorem tree_le (l : List KV) (h64 : l.length < 2 ^ 64) : (tree l).length ≤ 32 := by
 by_cases h : l = []
 ·subst h; rw [tree_nil]; simp
 ·rw [tree_len l h h64]; omega
def textsF : Nat → List KV → List (List UInt8)
 | 0, _ => []
 | f + 1, l => match l with
  | [] => []
  | [p] => [leafOf p]
  | p :: q :: r => textsF f ((p :: q :: r).take (spl (r.length + 2))) ++ textsF f ((p :: q :: r).drop (spl (r.length + 2))) ++ [nodeOf (tree ((p :: q :: r).take (spl (r.length + 2)))) (tree ((p :: q :: r).drop (spl (r.length + 2))))]
def texts (l : List KV) : List (List UInt8) := textsF l.length l
theorem textsF_more : ∀ (f : Nat) (l : List KV), l.length ≤ f → l.length < 2 ^ 64 → ∀ g, l.length ≤ g → textsF f l = textsF g l := by
 intro f
 induction f with
 | zero =>
  intro l h _ g _
  obtain rfl : l = [] := List.eq_nil_of_length_eq_zero (by omega)
  cases g <;> rfl
 | succ f ih =>
  intro l h h64 g hg
  match l, g with
  | [], 0 => rfl
  | [], g + 1 => rfl
  | [p], g + 1 => rfl
  | p :: q :: r, g + 1 =>
   simp only [List.length_cons] at h hg h64
   obtain ⟨s1, s2, s3⟩ := spl_pos (n := r.length + 2) (by omega) (by omega)
   have e1 : ((p :: q :: r).take (spl (r.length + 2))).length = spl (r.length + 2) := by rw [List.length_take]; simp only [List.length_cons]; omega
   have e2 : ((p :: q :: r).drop (spl (r.length + 2))).length = r.length + 2 - spl (r.length + 2) := by rw [List.length_drop]; simp only [List.length_cons]
   show textsF f _ ++ textsF f _ ++ _ = textsF g _ ++ textsF g _ ++ _
   rw [ih _ (by rw [e1]; omega) (by rw [e1]; omega) g (by rw [e1]; omega), ih _ (by rw [e2]; omega) (by rw [e2]; omega) g (by rw [e2]; omega)]
theorem texts_nil : texts [] = [] := rfl
theorem texts_one (p : KV) : texts [p] = [leafOf p] := rfl
theorem texts_two (l : List KV) (h : 2 ≤ l.length) (h64 : l.length < 2 ^ 64) : texts l = texts (l.take (spl l.length)) ++ texts (l.drop (spl l.length)) ++ [nodeOf (tree (l.take (spl l.length))) (tree (l.drop (spl l.length)))] := by
 match l, h with
 | p :: q :: r, _ =>
  simp only [List.length_cons] at h64
  obtain ⟨s1, s2, s3⟩ := spl_pos (n := r.length + 2) (by omega) (by omega)
  have e1 : ((p :: q :: r).take (spl (r.length + 2))).length = spl (r.length + 2) := by rw [List.length_take]; simp only [List.length_cons]; omega
  have e2 : ((p :: q :: r).drop (spl (r.length + 2))).length = r.length + 2 - spl (r.length + 2) := by rw [List.length_drop]; simp only [List.length_cons]
  show textsF (r.length + 1) ((p :: q :: r).take (spl (r.length + 2))) ++ textsF (r.length + 1) ((p :: q :: r).drop (spl (r.length + 2))) ++ [nodeOf (tree ((p :: q :: r).take (spl (r.length + 2)))) (tree ((p :: q :: r).drop (spl (r.length + 2))))] = textsF _ ((p :: q :: r).take (spl (r.length + 2))) ++ textsF _ ((p :: q :: r).drop (spl (r.length + 2))) ++ [nodeOf (tree ((p :: q :: r).take (spl (r.length + 2)))) (tree ((p :: q :: r).drop (spl (r.length + 2))))]
  rw [textsF_more (r.length + 1) _ (by rw [e1]; omega) (by rw [e1]; omega) _ (Nat.le_refl _), textsF_more (r.length + 1) _ (by rw [e2]; omega) (by rw [e2]; omega) _ (Nat.le_refl _)]
  rfl
def rootOf (l : List KV) : List UInt8 := shaOf (topOf l.length (tree l))
def allOf (l : List KV) : List (List UInt8) := texts l ++ [topOf l.length (tree l)]
theorem leafOf_len (p : KV) : (leafOf p).length ≤ 131089 := by
 have h1 := encText_len p.1
 have h2 := encText_len p.2
 unfold leafOf
 rw [List.length_cons, List.length_append]
 omega
theorem nodeOf_len (a b : List UInt8) : (nodeOf a b).length = a.length + b.length + 1 := by simp [nodeOf]
theorem topOf_len (n : Int) (t : List UInt8) : (topOf n t).length ≤ t.length + 9 := by
 have := encNum_len n
 unfold topOf
 rw [List.length_cons, List.length_append]
 omega
theorem texts_len (l : List KV) (h64 : l.length < 2 ^ 64) : (texts l).length ≤ 2 * l.length := by
 have key : ∀ n (l : List KV), l.length = n → l.length < 2 ^ 64 → (texts l).length ≤ 2 * l.length - 1 := by
  intro n
  induction n using Nat.strongRecOn with
  | _ n ih =>
   intro l hl h64
   by_cases h2 : 2 ≤ l.length
   ·obtain ⟨s1, s2, s3⟩ := spl_pos h2 h64
    have e1 : (l.take (spl l.length)).length = spl l.length := by rw [List.length_take]; omega
    have e2 : (l.drop (spl l.length)).length = l.length - spl l.length := List.length_drop
    have i1 := ih _ (by omega) (l.take (spl l.length)) e1 (by omega)
    have i2 := ih _ (by omega) (l.drop (spl l.length)) e2 (by omega)
    rw [texts_two l h2 h64, List.length_append, List.length_append, List.length_singleton]
    omega
   ·match l with
    | [] => simp [texts_nil]
    | [p] => simp [texts_one]
    | p :: q :: r => simp at h2
 have := key _ l rfl h64
 omega
def pth (l : List KV) (i : Nat) : List (List UInt8) :=
 if _h : 2 ≤ l.length ∧ l.length < 2 ^ 64 then
  if i < spl l.length then pth (l.take (spl l.length)) i ++ [tree (l.drop (spl l.length))]
  else pth (l.drop (spl l.length)) (i - spl l.length) ++ [tree (l.take (spl l.length))]
 else []
termination_by l.length
decreasing_by
 all_goals
  obtain ⟨_, s2, _⟩ := spl_pos _h.1 _h.2
  simp only [List.length_take, List.length_drop]
  omega
theorem pth_small {l : List KV} (h : l.length < 2) (i : Nat) : pth l i = [] := by rw [pth, dif_neg (by omega)]
theorem pth_left {l : List KV} (h : 2 ≤ l.length) (h64 : l.length < 2 ^ 64) {i : Nat} (hi : i < spl l.length) : pth l i = pth (l.take (spl l.length)) i ++ [tree (l.drop (spl l.length))] := by
 rw [pth, dif_pos ⟨h, h64⟩, if_pos hi]
theorem pth_right {l : List KV} (h : 2 ≤ l.length) (h64 : l.length < 2 ^ 64) {i : Nat} (hi : ¬ i < spl l.length) : pth l i = pth (l.drop (spl l.length)) (i - spl l.length) ++ [tree (l.take (spl l.length))] := by
 rw [pth, dif_pos ⟨h, h64⟩, if_neg hi]
theorem pth_len : ∀ (n : Nat) (l : List KV) (i : Nat), l.length = n → l.length < 2 ^ 64 → (pth l i).length ≤ l.length ∧ ∀ x ∈ pth l i, x.length ≤ 32 := by
 intro n
 induction n using Nat.strongRecOn with
 | _ n ih =>
  intro l i hl h64
  by_cases h2 : 2 ≤ l.length
  ·obtain ⟨s1, s2, s3⟩ := spl_pos h2 h64
   have e1 : (l.take (spl l.length)).length = spl l.length := by rw [List.length_take]; omega
   have e2 : (l.drop (spl l.length)).length = l.length - spl l.length := List.length_drop
   have t1 := tree_le (l.take (spl l.length)) (by omega)
   have t2 := tree_le (l.drop (spl l.length)) (by omega)
   by_cases hi : i < spl l.length
   ·obtain ⟨i1, i2⟩ := ih _ (by omega) (l.take (spl l.length)) i e1 (by omega)
    rw [pth_left h2 h64 hi]
    refine ⟨by rw [List.length_append, List.length_singleton]; omega, fun x hx => ?_⟩
    rw [List.mem_append, List.mem_singleton] at hx
    rcases hx with hx | rfl
    ·exact i2 x hx
    ·exact t2
   ·obtain ⟨i1, i2⟩ := ih _ (by omega) (l.drop (spl l.length)) (i - spl l.length) e2 (by omega)
    rw [pth_right h2 h64 hi]
    refine ⟨by rw [List.length_append, List.length_singleton]; omega, fun x hx => ?_⟩
    rw [List.mem_append, List.mem_singleton] at hx
    rcases hx with hx | rfl
    ·exact i2 x hx
    ·exact t1
  ·rw [pth_small (by omega)]
   exact ⟨Nat.zero_le _, fun x hx => by cases hx⟩
def leadR (leaf : List UInt8) : List (List UInt8) → Int → Int → Option (List UInt8 × List (List UInt8))
 | [], i, n => if 0 ≤ i ∧ i < n ∧ n = 1 then some (leaf, []) else none
 | last :: r, i, n =>
  if 0 ≤ i ∧ i < n ∧ n ≠ 1 then
   (if i < (spl n.toNat : Nat) then (leadR leaf r i (spl n.toNat : Nat)).map fun t => (shaOf (nodeOf t.1 last), t.2 ++ [nodeOf t.1 last])
   else (leadR leaf r (i - (spl n.toNat : Nat)) (n - (spl n.toNat : Nat))).map fun t => (shaOf (nodeOf last t.1), t.2 ++ [nodeOf last t.1]))
  else none
def lead (leaf : List UInt8) (p : List (List UInt8)) (i n : Int) : Option (List UInt8 × List (List UInt8)) := leadR leaf p.reverse i n
theorem lead_nil (leaf : List UInt8) (i n : Int) : lead leaf [] i n = if 0 ≤ i ∧ i < n ∧ n = 1 then some (leaf, []) else none := rfl
theorem lead_snoc (leaf : List UInt8) (p : List (List UInt8)) (x : List UInt8) (i n : Int) : lead leaf (p ++ [x]) i n =
  if 0 ≤ i ∧ i < n ∧ n ≠ 1 then
   (if i < (spl n.toNat : Nat) then (lead leaf p i (spl n.toNat : Nat)).map fun t => (shaOf (nodeOf t.1 x), t.2 ++ [nodeOf t.1 x])
   else (lead leaf p (i - (spl n.toNat : Nat)) (n - (spl n.toNat : Nat))).map fun t => (shaOf (nodeOf x t.1), t.2 ++ [nodeOf x t.1]))
  else none := by
 unfold lead
 rw [List.reverse_append]
 rfl
theorem lead_out {leaf : List UInt8} {p : List (List UInt8)} {i n : Int} (h : ¬ (0 ≤ i ∧ i < n)) : lead leaf p i n = none := by
 unfold lead
 cases p.reverse with
 | nil => exact if_neg fun e => h ⟨e.1, e.2.1⟩
 | cons x r => exact if_neg fun e => h ⟨e.1, e.2.1⟩
theorem lead_pth (p : KV) : ∀ (n : Nat) (l : List KV) (i : Nat), l[i]? = some p → l.length = n → n < 2 ^ 63 → (lead (shaOf (leafOf p)) (pth l i) i n).map Prod.fst = some (tree l) := by
 intro n
 induction n using Nat.strongRecOn with
 | _ n ih =>
  intro l i hp hl h63
  have hi : i < l.length := (List.getElem?_eq_some_iff.1 hp).1
  by_cases h2 : 2 ≤ n
  ·obtain ⟨s1, s2, s3⟩ := spl_pos h2 (by omega)
   have e1 : (l.take (spl n)).length = spl n := by rw [List.length_take]; omega
   have e2 : (l.drop (spl n)).length = n - spl n := by rw [List.length_drop, hl]
   have ht := tree_two l (by omega) (by omega)
   rw [hl] at ht
   by_cases hlt : i < spl n
   ·have i1 := ih _ s2 (l.take (spl n)) i (by rw [List.getElem?_take_of_lt hlt]; exact hp) e1 (by omega)
    have hq := pth_left (l := l) (by omega) (by omega) (i := i) (by rw [hl]; exact hlt)
    rw [hl] at hq
    rw [hq, lead_snoc, if_pos ⟨by omega, by omega, by omega⟩, Int.toNat_natCast, if_pos (by omega), Option.map_map]
    rw [Option.map_eq_some_iff] at i1 ⊢
    obtain ⟨t, h1, h3⟩ := i1
    exact ⟨t, h1, by show shaOf (nodeOf t.1 _) = _; rw [h3, ht]⟩
   ·have i1 := ih _ (by omega) (l.drop (spl n)) (i - spl n) (by rw [List.getElem?_drop]; rw [show spl n + (i - spl n) = i by omega]; exact hp) e2 (by omega)
    have hq := pth_right (l := l) (by omega) (by omega) (i := i) (by rw [hl]; exact hlt)
    rw [hl] at hq
    rw [hq, lead_snoc, if_pos ⟨by omega, by omega, by omega⟩, Int.toNat_natCast, if_neg (by omega), Option.map_map]
    rw [show ((i - spl n : Nat) : Int) = (i : Int) - (spl n : Nat) by omega, show ((n - spl n : Nat) : Int) = (n : Int) - (spl n : Nat) by omega] at i1
    rw [Option.map_eq_some_iff] at i1 ⊢
    obtain ⟨t, h1, h3⟩ := i1
    exact ⟨t, h1, by show shaOf (nodeOf _ t.1) = _; rw [h3, ht]⟩
  ·match l, hp with
   | [p0], hp =>
    obtain rfl : i = 0 := by simpa using hi
    obtain rfl : n = 1 := by simpa using hl.symm
    obtain rfl : p0 = p := by simpa using hp
    rw [pth_small (by simp), lead_nil, if_pos (by simp)]
    rfl
   | p0 :: q :: r, _ => simp at hl; omega
   | [], hp => simp at hp
def reach (root : List UInt8) (p : KV) (q : List (List UInt8)) (i n : Int) : Bool :=
 match lead (shaOf (leafOf p)) q i n with
 | some t => decide (shaOf (topOf n t.1) = root)
 | none => false
theorem reach_some {root : List UInt8} {p : KV} {q : List (List UInt8)} {i n : Int} {t : List UInt8 × List (List UInt8)} (h : lead (shaOf (leafOf p)) q i n = some t) : reach root p q i n = decide (shaOf (topOf n t.1) = root) := by unfold reach; rw [h]
theorem reach_none {root : List UInt8} {p : KV} {q : List (List UInt8)} {i n : Int} (h : lead (shaOf (leafOf p)) q i n = none) : reach root p q i n = false := by unfold reach; rw [h]
theorem reach_pth {l : List KV} {i : Nat} {p : KV} (hp : l[i]? = some p) (h63 : l.length < 2 ^ 63) : reach (rootOf l) p (pth l i) i l.length = true := by
 have h := lead_pth p _ l i hp rfl h63
 rw [Option.map_eq_some_iff] at h
 obtain ⟨t, h1, h2⟩ := h
 rw [reach_some h1, h2]
 exact decide_eq_true rfl
end Go.Proofs.YtkejaepmoabikaaGreatDoor.W
namespace Go.Proofs.YtkejaepmoabikaaGreatDoor.W
open Go.RowKit
def jpart (ss : List ByteArray) (k : Nat) : List UInt8 := num ss.length ++ ((ss.take k).map fun s => text s.data.toList).flatten
def Good (ss : List ByteArray) (k : Nat) : Prop := ∀ i (h : i < ss.length), i < k → ss[i].size ≤ 65536
theorem jpart_zero (ss : List ByteArray) : jpart ss 0 = num ss.length := by simp [jpart]
theorem jpart_succ (ss : List ByteArray) (k : Nat) (h : k < ss.length) : jpart ss (k + 1) = jpart ss k ++ text ss[k].data.toList := by
 unfold jpart
 rw [List.take_succ_eq_append_getElem h, List.map_append, List.flatten_append, List.append_assoc]
 simp
theorem text_len (s : ByteArray) (h : s.size ≤ 65536) : (text s.data.toList).length ≤ 65600 := by
 unfold text
 rw [List.length_append, num_len, size_list]
 have := be_len_le s.size 7 (by omega)
 omega
theorem jpart_len (ss : List ByteArray) (hl : ss.length ≤ 256) : ∀ k, k ≤ ss.length → Good ss k → (jpart ss k).length ≤ 8 + 65600 * k := by
 intro k
 induction k with
 | zero =>
  intro _ _
  rw [jpart_zero, num_len]
  have := be_len_le ss.length 7 (by omega)
  omega
 | succ k ih =>
  intro hk hg
  have h1 := ih (by omega) (fun i h hi => hg i h (by omega))
  have h2 := text_len ss[k] (hg k (by omega) (by omega))
  rw [jpart_succ ss k (by omega), List.length_append]
  omega
theorem Good.succ {ss : List ByteArray} {k : Nat} (hg : Good ss k) (h : k < ss.length) (hs : ss[k].size ≤ 65536) : Good ss (k + 1) := by
 intro i hi hlt
 by_cases e : i = k
 ·subst e; exact hs
 ·exact hg i hi (by omega)
theorem encJoin_bad {ss : List ByteArray} {k : Nat} (h : k < ss.length) (hs : ¬ ss[k].size ≤ 65536) : encJoin ss = ([], 4) := by
 unfold encJoin
 rw [if_neg]
 rintro ⟨_, ha⟩
 exact hs (ha _ (List.getElem_mem h))
theorem encJoin_ok {ss : List ByteArray} (hl : ss.length ≤ 256) (hg : Good ss ss.length) : encJoin ss = (jpart ss ss.length, 0) := by
 unfold encJoin
 rw [if_pos]
 ·simp [jpart, join, Function.comp_def]
 ·refine ⟨hl, fun s hs => ?_⟩
  obtain ⟨i, hi, rfl⟩ := List.getElem_of_mem hs
  exact hg i hi hi
end Go.Proofs.YtkejaepmoabikaaGreatDoor.W
namespace Go.Proofs.YtkejaepmoabikaaGreatDoor.W
def cat (l : List ByteArray) : List UInt8 := (l.map fun s => text s.data.toList).flatten
theorem cat_cons (x : ByteArray) (l : List ByteArray) : cat (x :: l) = text x.data.toList ++ cat l := by simp [cat]
theorem join_cat (l : List ByteArray) : join (l.map fun s => s.data.toList) = num l.length ++ cat l := by
 unfold join cat
 rw [List.length_map, List.map_map]
 rfl
theorem listFrom_back (l : List ByteArray) (hl : ∀ s ∈ l, s.size ≤ 65536) (t : List UInt8) : ∀ acc, listFrom l.length (bs (cat l ++ t)) acc = ((bs t, 0), acc ++ l) := by
 induction l with
 | nil => intro acc; simp [listFrom, cat]
 | cons x l ih =>
  intro acc
  have hx := stText_back x.data.toList (by rw [size_list]; exact hl x (by simp)) (cat l ++ t)
  rw [cat_cons, List.append_assoc, List.length_cons, listFrom, hx]
  simp only [ne_eq, not_true_eq_false, if_false]
  rw [ih (fun s hs => hl s (by simp [hs])) (acc ++ [bs x.data.toList]), bs_of]
  simp
theorem stList_back (l : List ByteArray) (hn : l.length ≤ 256) (hl : ∀ s ∈ l, s.size ≤ 65536) (t : List UInt8) : stList (bs (num l.length ++ cat l ++ t)) 0 = ((bs t, 0), l) := by
 have h1 : stNum (bs (num l.length ++ cat l ++ t)) 0 = ((bs (cat l ++ t), 0), l.length) := by
  rw [List.append_assoc]
  exact stNum_back l.length (by omega) (cat l ++ t)
 have h2 : stLen (bs (num l.length ++ cat l ++ t)) 0 256 = ((bs (cat l ++ t), 0), l.length) := by
  unfold stLen
  rw [h1, if_neg (by simp only; omega)]
 unfold stList
 simp only [h2, ne_eq, not_true_eq_false, if_false]
 rw [listFrom_back l hl t []]
 simp
end Go.Proofs.YtkejaepmoabikaaGreatDoor.W
namespace Go.Proofs.YtkejaepmoabikaaGreatDoor.W
open Go.RowKit
open List renaming getElem_cons_succ → qB, getElem_cons_zero → qC
open Lib renaming hid → qH
open _root_.Go.Proofs.Tryz renaming prog → qP
set_option maxHeartbeats 2000000
set_option maxRecDepth 100000
theorem infoPair : (qP.info? 36).map (fun i => (i.zero, i.size, i.bytes)) = some (some (.agg #[.string .empty, .string .empty]), 2, 32) := by kernel_rfl
def prVals (l : List KV) : List Value := l.flatMap fun x => [.string x.1, .string x.2]
theorem prVals_len : ∀ l : List KV, (prVals l).length = l.length * 2
 | [] => rfl
 | x :: l => by simp only [prVals, List.flatMap_cons, List.length_append, List.length_cons, List.length_nil]; have := prVals_len l; simp only [prVals] at this; omega
theorem prVals_append (l m : List KV) : prVals (l ++ m) = prVals l ++ prVals m := by simp [prVals]
theorem prVals_at : ∀ (l : List KV) (i : Nat) (h : i < l.length), (prVals l)[i * 2]? = some (.string l[i].1) ∧ (prVals l)[i * 2 + 1]? = some (.string l[i].2)
 | x :: l, 0, _ => by simp [prVals]
 | x :: l, i + 1, h => by
  have := prVals_at l i (by simpa using h)
  simp only [prVals, List.flatMap_cons] at this ⊢
  rw [show (i + 1) * 2 = i * 2 + 1 + 1 by omega]
  simpa using this
theorem prVals_one {l : List KV} : ∀ u ∈ prVals l, u.oneCell' = true := by
 intro u hu
 simp only [prVals, List.mem_flatMap] at hu
 obtain ⟨x, _, hx⟩ := hu
 simp at hx
 rcases hx with rfl | rfl <;> rfl
def Prs (w : World) (v : Value) (l : List KV) : Prop :=
 ∃ A cap, v = .slice A l.length cap ∧ l.length ≤ cap ∧ ∀ i (h : i < l.length), ∃ b off, A = some ⟨b, off, none⟩ ∧ w.cell? ⟨b, off + i * 2, none⟩ = some (.string l[i].1) ∧ w.cell? ⟨b, off + i * 2 + 1, none⟩ = some (.string l[i].2)
section
variable {w w' : World} {v : Value} {l : List KV}
theorem Prs.moved (h : Prs w v l) (hb : ∀ g, v.ownBlock = some g → w'.heap[g]? = w.heap[g]?) : Prs w' v l := by
 obtain ⟨A, cap, rfl, hl, hc⟩ := h
 refine ⟨A, cap, rfl, hl, fun i hi => ?_⟩
 obtain ⟨b, off, rfl, h1, h2⟩ := hc i hi
 exact ⟨b, off, rfl, (World.cell?_of_block (w := w) (hb b rfl)).trans h1, (World.cell?_of_block (w := w) (hb b rfl)).trans h2⟩
theorem Prs.kept (h : Prs w v l) (hb : ∀ p u, w.cell? p = some u → some p.block = v.ownBlock → w'.cell? p = some u) : Prs w' v l := by
 obtain ⟨A, cap, rfl, hl, hc⟩ := h
 refine ⟨A, cap, rfl, hl, fun i hi => ?_⟩
 obtain ⟨b, off, rfl, h1, h2⟩ := hc i hi
 exact ⟨b, off, rfl, hb _ _ h1 rfl, hb _ _ h2 rfl⟩
theorem Prs.below (h : Prs w v l) (hb : Below w.heap.size w w') : Prs w' v l := h.kept fun _ _ hc _ => (since_of hb).cell hc
theorem Prs.lt (h : Prs w v l) (hl : l ≠ []) : ∀ g, v.ownBlock = some g → g < w.heap.size := by
 obtain ⟨A, cap, rfl, _, hc⟩ := h
 obtain ⟨b, off, rfl, h1, _⟩ := hc 0 (by cases l <;> simp_all)
 intro g hg
 cases hg
 exact World.block_lt_of_cell? w _ h1
theorem Prs.nil (w : World) (A : Option Addr) (cap : Nat) : Prs w (.slice A 0 cap) [] := ⟨A, cap, rfl, Nat.zero_le _, fun i h => absurd h (by simp)⟩
theorem Prs.of_own {base : Nat} (h : w.ownsRow base 36 2 v l.length (prVals l)) : Prs w v l := by
 rcases h.2 with ⟨rfl, hn⟩ | ⟨g, cap, cur, rfl, hb, hg, hc, _⟩
 ·obtain rfl : l = [] := List.eq_nil_of_length_eq_zero hn
  exact Prs.nil _ _ _
 ·refine ⟨some ⟨g, 0, none⟩, cap, rfl, hc, fun i hi => ⟨g, 0, rfl, ?_, ?_⟩⟩
  ·have := h.cells (g := g) rfl (i * 2) _ (prVals_at l i hi).1
   rwa [show (⟨g, 0, none⟩ : Addr).add (i * 2) = ⟨g, 0 + i * 2, none⟩ by unfold Addr.add; split <;> simp_all] at this
  ·have := h.cells (g := g) rfl (i * 2 + 1) _ (prVals_at l i hi).2
   rwa [show (⟨g, 0, none⟩ : Addr).add (i * 2 + 1) = ⟨g, 0 + i * 2 + 1, none⟩ by unfold Addr.add; split <;> simp_all] at this
end
theorem add_far (b off j : Nat) : (⟨b, off, none⟩ : Addr).add j = ⟨b, off + j, none⟩ := by unfold Addr.add; split <;> simp_all
theorem Prs.cells {w : World} {b off cap : Nat} {l : List KV} (h : Prs w (.slice (some ⟨b, off, none⟩) l.length cap) l) : ∀ j u, (prVals l)[j]? = some u → w.cell? ((⟨b, off, none⟩ : Addr).add j) = some u := by
 intro j u hj
 obtain ⟨A, cap', e, _, hc⟩ := h
 cases e
 have hlt : j < l.length * 2 := by rw [← prVals_len]; exact (List.getElem?_eq_some_iff.1 hj).1
 obtain ⟨b', off', e, h1, h2⟩ := hc (j / 2) (by omega)
 cases e
 have hp := prVals_at l (j / 2) (by omega)
 rw [add_far]
 rcases Nat.mod_two_eq_zero_or_one j with hm | hm
 ·have e : j / 2 * 2 = j := by omega
  rw [e] at hp h1
  rw [hp.1] at hj
  cases hj
  exact h1
 ·have e : j / 2 * 2 + 1 = j := by omega
  rw [Nat.add_assoc, e] at h2
  rw [e] at hp
  rw [hp.2] at hj
  cases hj
  exact h2
theorem run_append_none (P : Program) (w : World) (t ty e : TypeId) (i : TypeInfo) (ht : P.underlying t = some (.slice e)) (hi : P.info? e = some i) (A : Option Addr) (n cap c : Nat) (hn : n ≤ cap) :
  (Builtin.append_ #[t, t] ty #[.slice A n cap, .slice none 0 c]).run P w = .ok (.slice A n cap) w := by
 cases A <;> simp [Builtin.append_, run_underlying ht, go_sem, run_sizeOf w hi, hn]
theorem run_append_prs (w : World) (B : Nat) (T ty : TypeId) (hT : qP.underlying T = some (.slice 36)) (v y : Value) (l m : List KV) (hown : w.ownsRow B 36 2 v l.length (prVals l)) (hP : Prs w y m) (hB : B ≤ w.heap.size) (hlen : l.length + m.length ≤ 1000000000) :
  ∃ v' w', (Builtin.append_ #[T, T] ty #[v, y]).run qP w = .ok v' w' ∧ w'.ownsRow B 36 2 v' (l ++ m).length (prVals (l ++ m)) ∧ w.grownBy w' v.ownBlock ∧ (v'.ownBlock = v.ownBlock ∨ v'.ownBlock = some w.heap.size) := by
 obtain ⟨i0, hi, hz0, hz1, hz2⟩ := info_parts infoPair
 have hP' := hP
 obtain ⟨A, cap, rfl, hcap, hc⟩ := hP'
 match A, hc with
 | none, hc =>
  have hm : m = [] := by
   cases m with
   | nil => rfl
   | cons x m => obtain ⟨b, off, e, _⟩ := hc 0 (by simp); cases e
  subst hm
  rw [List.append_nil]
  have hv : ∃ A' n c, v = .slice A' n c ∧ n ≤ c := by
   rcases hown.2 with ⟨rfl, _⟩ | ⟨g, cap, cur, rfl, _, _, h1, _⟩
   ·exact ⟨none, 0, 0, rfl, Nat.le_refl _⟩
   ·exact ⟨_, _, _, rfl, h1⟩
  obtain ⟨A', n, c, rfl, hn⟩ := hv
  exact ⟨_, w, run_append_none qP w T ty _ i0 hT hi A' n c cap hn, hown, only_refl _ _, .inl rfl⟩
 | some ad, hc =>
  by_cases hm : m = []
  ·subst hm
   obtain ⟨v', w', hr, h2, h3, _, h5⟩ := run_append_own_at (P := qP) w B T ty 36 i0 _ 2 32 hT hi hz0 hz1 hz2 rfl (by decide) v l.length (prVals l) hown ad 0 cap [] rfl (fun j u h => by simp at h) (fun u h => by cases h) (by unfold maxLen; simp only [List.length_nil] at hlen; omega) (by simp only [List.length_nil] at hlen; omega) hB
   exact ⟨v', w', hr, by simpa using h2, h3, h5⟩
  ·obtain ⟨b, off, e, _⟩ := hc 0 (by cases m <;> simp_all)
   cases e
   obtain ⟨v', w', hr, h2, h3, _, h5⟩ := run_append_own_at (P := qP) w B T ty 36 i0 _ 2 32 hT hi hz0 hz1 hz2 rfl (by decide) v l.length (prVals l) hown ⟨b, off, none⟩ m.length cap (prVals m) (prVals_len m) hP.cells prVals_one (by unfold maxLen; omega) (by omega) hB
   exact ⟨v', w', hr, by rw [List.length_append, prVals_append]; exact h2, h3, h5⟩
theorem wpList_append_prs {ops : Array Oper} {rest : List Oper} {o : Oper} {a : Act} {Q : Exit → Act → World → Prop} (w : World) (hgd : o.guard = none) (s x : Operand) (T : TypeId) (hT : qP.underlying T = some (.slice 36))
  (ho : o.op = .call { callee := .builtin .append, args := #[s, x], argTypes := #[T, T] }) (B : Nat) (v y : Value) (l m : List KV) (hs : a.eval s = v) (hx : a.eval x = y)
  (hown : w.ownsRow B 36 2 v l.length (prVals l)) (hP : Prs w y m) (hB : B ≤ w.heap.size) (hlen : l.length + m.length ≤ 1000000000)
  (h : ∀ v' w', w'.ownsRow B 36 2 v' (l ++ m).length (prVals (l ++ m)) → w.grownBy w' v.ownBlock → (v'.ownBlock = v.ownBlock ∨ v'.ownBlock = some w.heap.size) → wpList qP ops Q rest (a.put o.dst v') w') : wpList qP ops Q (o :: rest) a w := by
 refine wpList_plain hgd fun K hK => ?_
 obtain ⟨v', w', hr, h2, h3, h4⟩ := run_append_prs w B T o.type hT v y l m hown hP hB hlen
 simp [Oper.wp, Oper.upon, execOp, ho, resolve, invoke, builtin, hs, hx, hr, Result.andThen]
 exact hK _ _ (h v' w' h2 h3 h4)
theorem wpListIn_append_prs {F : Fence} {nF : Nat} {ops : Array Oper} {rest : List Oper} {o : Oper} {a : Act} {Q : Exit → Act → World → Prop} (w : World) (hgd : o.guard = none) (s x : Operand) (T : TypeId) (hT : qP.underlying T = some (.slice 36))
  (ho : o.op = .call { callee := .builtin .append, args := #[s, x], argTypes := #[T, T] }) (B : Nat) (v y : Value) (l m : List KV) (hs : a.eval s = v) (hx : a.eval x = y)
  (hown : w.ownsRow B 36 2 v l.length (prVals l)) (hP : Prs w y m) (hB : B ≤ w.heap.size) (hlen : l.length + m.length ≤ 1000000000)
  (h : ∀ v' w', w'.ownsRow B 36 2 v' (l ++ m).length (prVals (l ++ m)) → w.grownBy w' v.ownBlock → (v'.ownBlock = v.ownBlock ∨ v'.ownBlock = some w.heap.size) → wpListIn F nF qP ops Q rest (a.put o.dst v') w') : wpListIn F nF qP ops Q (o :: rest) a w := by
 refine wpListIn_plain hgd fun K hK => ?_
 obtain ⟨v', w', hr, h2, h3, h4⟩ := run_append_prs w B T o.type hT v y l m hown hP hB hlen
 unfold Oper.wpIn
 refine ⟨by simp [Oper.about, ho, resolve, Target.leads, Sem.run_pure], ?_⟩
 rw [Oper.semAt_plain F _ _ (by rw [ho]; intro c hc'; cases hc')]
 simp [execOp, ho, resolve, invoke, builtin, hs, hx, hr, Result.andThen]
 exact hK _ _ (h v' w' h2 h3 h4)
theorem prs_built (W : World) (x : KV) : Prs (W.alloc (.cells #[.string x.1, .string x.2] 36)) (.slice (some ⟨W.heap.size, 0, none⟩) 1 1) [x] := by
 refine ⟨_, 1, rfl, Nat.le_refl _, fun i hi => ?_⟩
 have hb := Blk.new W 36 #[.string x.1, .string x.2]
 obtain rfl : i = 0 := by simpa using hi
 exact ⟨_, 0, rfl, hb.cell 0, hb.cell 1⟩
theorem less_is : ∀ a b : List UInt8, Op.bytesLess a b = decide (Lib.compareBytes a b = -1)
 | [], [] => by simp [Op.bytesLess, Lib.compareBytes]
 | [], _ :: _ => by simp [Op.bytesLess, Lib.compareBytes]
 | _ :: _, [] => by simp [Op.bytesLess, Lib.compareBytes]
 | a :: x, b :: y => by
  unfold Op.bytesLess Lib.compareBytes
  rw [less_is x y]
  by_cases h : a < b
  ·simp [h]
  ·by_cases h2 : b < a
   ·have : a ≠ b := fun e => by rw [e] at h2; exact absurd h2 (UInt8.lt_irrefl _)
    simp [h, h2, this]
   ·have := u8_eq h h2
    simp [this]
theorem less_str (a b : ByteArray) : Op.bytesLess a.toList b.toList = decide (kc a b = -1) := by
 rw [ByteArray.toList_eq, ByteArray.toList_eq, less_is]; rfl
def retGet (o : Option ByteArray) : Value := .tuple #[.string (o.getD ⟨#[]⟩), .bool o.isSome]
def latN (l : List KV) (k : ByteArray) : Nat := (l.takeWhile fun x => decide (kc x.1 k = -1)).length
theorem latN_le (l : List KV) (k : ByteArray) : latN l k ≤ l.length := (List.takeWhile_prefix _).length_le
theorem latN_cons (x : KV) (l : List KV) (k : ByteArray) : latN (x :: l) k = if kc x.1 k = -1 then latN l k + 1 else 0 := by
 unfold latN
 rw [List.takeWhile_cons]
 by_cases h : kc x.1 k = -1 <;> simp [h]
theorem latN_less : ∀ (l : List KV) (k : ByteArray) (i : Nat) (h : i < l.length), i < latN l k → kc l[i].1 k = -1
 | [], _, _, h, _ => by simp at h
 | x :: l, k, i, h, hi => by
  rw [latN_cons] at hi
  split at hi
  ·rename_i hx
   cases i with
   | zero => exact hx
   | succ i => exact latN_less l k i (by simpa using h) (by omega)
  ·omega
theorem latN_here : ∀ (l : List KV) (k : ByteArray) (h : latN l k < l.length), kc (l[latN l k]'h).1 k ≠ -1
 | [], _, h => by simp at h
 | x :: l, k, h => by
  have e := latN_cons x l k
  by_cases hx : kc x.1 k = -1
  ·rw [if_pos hx] at e
   have := latN_here l k (by rw [e] at h; simpa using h)
   simp only [e, qB]
   exact this
  ·rw [if_neg hx] at e
   simp only [e, qC]
   exact hx
theorem latN_parts {l : List KV} (hu : Up l) (k : ByteArray) :
  (latN l k = l.length ∧ lget l k = none ∧ (∀ v, lset l k v = l ++ [(k, v)])) ∨
  (∃ h : latN l k < l.length, (l[latN l k]'h).1 ≠ k ∧ lget l k = none ∧ (∀ v, lset l k v = l.take (latN l k) ++ [(k, v)] ++ l.drop (latN l k))) ∨
  (∃ h : latN l k < l.length, (l[latN l k]'h).1 = k ∧ lget l k = some (l[latN l k]'h).2 ∧ (∀ v, lset l k v = l.take (latN l k) ++ [(k, v)] ++ l.drop (latN l k + 1)) ∧ ldel l k = l.take (latN l k) ++ l.drop (latN l k + 1)) := by
 induction l with
 | nil => exact .inl ⟨rfl, rfl, fun _ => rfl⟩
 | cons x l ih =>
  have hu' := hu
  unfold Up at hu
  rw [List.pairwise_cons] at hu
  have e := latN_cons x l k
  rcases kc_cases x.1 k with h | h | h
  ·rw [if_pos h] at e
   have hg := kc_gt h
   have s1 : ∀ v, lset (x :: l) k v = x :: lset l k v := fun v => by simp only [lset]; rw [if_neg (by rw [hg]; decide), if_neg (by rw [hg]; decide)]
   have s2 : lget (x :: l) k = lget l k := lget_cons_ne (kc_ne h) l
   have s3 : ldel (x :: l) k = x :: ldel l k := ldel_cons_ne (kc_ne h) l
   rcases ih hu.2 with ⟨h1, h2, h3⟩ | ⟨h1, h2, h3, h4⟩ | ⟨h1, h2, h3, h4, h5⟩
   ·exact .inl ⟨by rw [e, h1]; rfl, by rw [s2, h2], fun v => by rw [s1, h3]; rfl⟩
   ·refine .inr (.inl ⟨by rw [e]; simpa using h1, ?_, by rw [s2, h3], fun v => ?_⟩)
    ·simpa only [e, qB] using h2
    ·rw [s1, h4, e]; rfl
   ·refine .inr (.inr ⟨by rw [e]; simpa using h1, ?_, ?_, fun v => ?_, ?_⟩)
    ·simpa only [e, qB] using h2
    ·simpa only [e, qB, s2] using h3
    ·rw [s1, h4, e]; rfl
    ·rw [s3, h5, e]; rfl
  ·rw [if_neg (by rw [h]; decide)] at e
   have ek := kc_zero h
   refine .inr (.inr ⟨by rw [e]; simp, ?_, ?_, fun v => ?_, ?_⟩)
   ·simpa only [e, qC] using ek
   ·simpa only [e, qC] using lget_cons_eq ek l
   ·rw [e]; simp only [lset]; rw [if_neg (by rw [← ek, kc_self]; decide), if_pos (by rw [← ek, kc_self])]; rfl
   ·rw [e, ldel_cons_eq ek, ldel_same (fun y hy => by rw [← ek]; exact (kc_ne (hu.1 y hy)).symm)]; rfl
  ·rw [if_neg (by rw [h]; decide)] at e
   have hl := kc_lt h
   refine .inr (.inl ⟨by rw [e]; simp, ?_, lget_none (fun y hy => ?_), fun v => ?_⟩)
   ·simpa only [e, qC] using (kc_ne hl).symm
   ·simp at hy
    rcases hy with rfl | hy
    ·exact (kc_ne hl).symm
    ·exact (kc_ne (kc_trans hl (hu.1 y hy))).symm
   ·rw [e]; simp only [lset]; rw [if_pos hl]; rfl
theorem rAt (s : Value) (l : List KV) (k : ByteArray) (w : World) (hP : Prs w s l) (hz : l.length ≤ 1000000000) :
  Calls qP 53 #[s, .string k] w fun e w' => e = .returned (.int .i64 (latN l k)) ∧ w' = w := by
 obtain ⟨A, cap, rfl, hcap, hc⟩ := hP
 obtain ⟨N, hN⟩ : ∃ N, N = latN l k := ⟨_, rfl⟩
 have HN := qH (And.intro (hN ▸ latN_le l k : N ≤ l.length) (And.intro (fun i (h : i < l.length) (hi : i < N) => latN_less l k i h (hN ▸ hi)) (fun (h : N < l.length) => (by subst hN; exact latN_here l k h : kc (l[N]'h).1 k ≠ -1))))
 rw [← hN]
 clear hN
 have HC := qH hc
 clear hc
 go_enter Tryz.func53, Tryz.ntmps53
 go_wp2
 go_loopg [5] N (fun g v wr => wr = w ∧ ∃ i : Nat, v = .int .i64 i ∧ Hid (g + i = N))
 case atStart => exact ⟨rfl, 0, rfl, qH rfl⟩
 case round =>
  obtain ⟨rfl, i, rfl, HI⟩ := hrel
  have hi := HI.out
  have hN := HN.out.1
  by_cases h1 : i < N
  ·obtain ⟨b, off, rfl, c1, _⟩ := HC.out i (by omega)
   have hls : Op.bytesLess (l[i]'(by omega)).1.toList k.toList = true := by rw [less_str]; simpa using HN.out.2.1 i (by omega) h1
   have hl0 : (0 : Int) ≤ i := by omega
   have hl1 : (i : Int) < l.length := by omega
   have hw : IntKind.i64.wrap ((i : Int) + 1) = (i : Int) + 1 := IntWalk.i64_in _ (by omega)
   generalize (l[i]'(by omega)).1 = x at *
   go_wp2
   go_roundg (gk - 1)
   case measure => omega
   case rel => exact ⟨rfl, i + 1, by simp, qH (by omega)⟩
  ·have e : i = N := by omega
   subst e
   by_cases h2 : i < l.length
   ·obtain ⟨b, off, rfl, c1, _⟩ := HC.out i h2
    have hls : Op.bytesLess (l[i]'h2).1.toList k.toList = false := by rw [less_str]; simpa using HN.out.2.2 h2
    have hl0 : (0 : Int) ≤ i := by omega
    have hl1 : (i : Int) < l.length := by omega
    generalize (l[i]'h2).1 = x at *
    go_wp2
    go_ret
    exact ⟨rfl, rfl⟩
   ·have hl1 : ¬ (i : Int) < l.length := by omega
    go_wp2
    go_ret
    exact ⟨rfl, rfl⟩
end Go.Proofs.YtkejaepmoabikaaGreatDoor.W
namespace Go.Proofs.YtkejaepmoabikaaGreatDoor.W
structure Pf where
 n : Int
 pos : Int
 there : Bool
 near : List KV
 paths : List (List (List UInt8))
def Pf.zero : Pf := ⟨0, 0, false, [], []⟩
def Adj (l : List KV) (k : Nat) : Prop := ∀ i (h : i + 1 < l.length), i + 1 < k → kc (l[i]'(by omega)).1 l[i + 1].1 = -1
theorem up_of_adj : ∀ l : List KV, Adj l l.length → Up l
 | [], _ => List.Pairwise.nil
 | [x], _ => List.pairwise_singleton _ _
 | x :: y :: r, h => by
  have hu : Up (y :: r) := up_of_adj (y :: r) fun i hi _ => h (i + 1) (by simp at hi ⊢; omega) (by simp at hi ⊢; omega)
  have h0 : kc x.1 y.1 = -1 := h 0 (by simp) (by simp)
  refine List.pairwise_cons.2 ⟨fun z hz => ?_, hu⟩
  rcases List.mem_cons.1 hz with rfl | hz
  ·exact h0
  ·exact kc_trans h0 ((List.pairwise_cons.1 hu).1 z hz)
theorem up_at {l : List KV} (hu : Up l) (i j : Nat) (hij : i < j) (hj : j < l.length) : kc (l[i]'(by omega)).1 l[j].1 = -1 := List.pairwise_iff_getElem.1 hu i j (by omega) hj hij
theorem adj_succ {l : List KV} {k : Nat} (h : Adj l k) (hk : 1 ≤ k) (hl : k < l.length) (hc : kc (l[k - 1]'(by omega)).1 l[k].1 = -1) : Adj l (k + 1) := by
 intro i hi hik
 by_cases e : i + 1 = k
 ·subst e; exact hc
 ·exact h i hi (by omega)
def lowOf (a : Nat) : Nat := a - 1
def highOf (a n : Nat) : Nat := if a < n then a + 1 else a
theorem low_high {a n : Nat} (h : a ≤ n) : lowOf a ≤ highOf a n ∧ highOf a n ≤ n ∧ highOf a n ≤ lowOf a + 2 ∧ a ≤ highOf a n := by unfold lowOf highOf; split <;> omega
def nearOf (l : List KV) (a : Nat) : List KV := (l.take (highOf a l.length)).drop (lowOf a)
def pathsOf (l : List KV) (lo k : Nat) : List (List (List UInt8)) := (List.range' lo k).map (pth l)
theorem nearOf_len {l : List KV} {a : Nat} (h : a ≤ l.length) : (nearOf l a).length = highOf a l.length - lowOf a := by
 have := low_high h
 unfold nearOf
 rw [List.length_drop, List.length_take]
 omega
theorem pathsOf_succ (l : List KV) (lo k : Nat) : pathsOf l lo (k + 1) = pathsOf l lo k ++ [pth l (lo + k)] := by
 unfold pathsOf
 rw [List.range'_concat, List.map_append]
 simp
theorem pathsOf_len (l : List KV) (lo k : Nat) : (pathsOf l lo k).length = k := by simp [pathsOf]
def bld (l : List KV) (key : ByteArray) : Pf :=
 match lget l key with
 | some _ => ⟨l.length, latN l key, true, [], [pth l (latN l key)]⟩
 | none => ⟨l.length, latN l key, false, nearOf l (latN l key), pathsOf l (lowOf (latN l key)) (highOf (latN l key) l.length - lowOf (latN l key))⟩
theorem bld_some {l : List KV} {key v : ByteArray} (h : lget l key = some v) : bld l key = ⟨l.length, latN l key, true, [], [pth l (latN l key)]⟩ := by unfold bld; rw [h]
theorem bld_none {l : List KV} {key : ByteArray} (h : lget l key = none) : bld l key = ⟨l.length, latN l key, false, nearOf l (latN l key), pathsOf l (lowOf (latN l key)) (highOf (latN l key) l.length - lowOf (latN l key))⟩ := by unfold bld; rw [h]
def hasP (root : List UInt8) (p : KV) (x : Pf) : Bool :=
 match x.there, x.near, x.paths with
 | true, [], [q] => reach root p q x.pos x.n
 | _, _, _ => false
def loI (x : Pf) : Int := if 0 < x.pos then x.pos - 1 else x.pos
def hiI (x : Pf) : Int := if x.pos < x.n then x.pos + 1 else x.pos
def sideOk (key : ByteArray) (pos i : Int) (p : KV) : Bool := if i < pos then decide (kc p.1 key = -1) else decide (kc key p.1 = -1)
def nearOk (root : List UInt8) (key : ByteArray) (pos n : Int) : Int → List KV → List (List (List UInt8)) → Bool
 | i, p :: ps, q :: qs => sideOk key pos i p && reach root p q i n && nearOk root key pos n (i + 1) ps qs
 | _, _, _ => true
def Fits (x : Pf) : Prop := x.there = false ∧ 0 ≤ x.pos ∧ x.pos ≤ x.n ∧ (x.near.length : Int) = hiI x - loI x ∧ (x.paths.length : Int) = hiI x - loI x
instance (x : Pf) : Decidable (Fits x) := by unfold Fits; infer_instance
def lacksP (root : List UInt8) (key : ByteArray) (x : Pf) : Bool :=
 decide (Fits x) && nearOk root key x.pos x.n (loI x) x.near x.paths && (decide (0 < x.n) || decide (root = shaOf (topOf 0 [])))
theorem lo_hi {x : Pf} (h : 0 ≤ x.pos) (h2 : x.pos ≤ x.n) : loI x ≤ hiI x ∧ hiI x ≤ x.n ∧ hiI x ≤ loI x + 2 ∧ 0 ≤ loI x := by unfold loI hiI; split <;> split <;> omega
theorem lat_some {l : List KV} (hu : Up l) {key v : ByteArray} (h : lget l key = some v) : l[latN l key]? = some (key, v) := by
 rcases latN_parts hu key with ⟨h1, h2, _⟩ | ⟨h1, h2, h3, _⟩ | ⟨h1, h2, h3, _, _⟩
 ·rw [h2] at h; cases h
 ·rw [h3] at h; cases h
 ·rw [h3] at h
  rw [List.getElem?_eq_getElem h1]
  injection h with h
  exact congrArg some (Prod.ext h2 h)
theorem has_bld {l : List KV} (hu : Up l) (h63 : l.length < 2 ^ 63) {key v : ByteArray} (h : lget l key = some v) : hasP (rootOf l) (key, v) (bld l key) = true := by
 rw [bld_some h]
 exact reach_pth (lat_some hu h) h63
theorem near_at {l : List KV} {a k : Nat} {p : KV} (h : a ≤ l.length) (hp : (nearOf l a)[k]? = some p) : l[lowOf a + k]? = some p := by
 have e := nearOf_len h
 have := low_high h
 have hk := (List.getElem?_eq_some_iff.1 hp).1
 unfold nearOf at hp
 rw [List.getElem?_drop, List.getElem?_take_of_lt (by omega)] at hp
 exact hp
theorem lat_le {l : List KV} {key : ByteArray} : latN l key ≤ l.length := latN_le l key
theorem side_bld {l : List KV} (hu : Up l) {key : ByteArray} (h : lget l key = none) {i : Nat} {p : KV} (hp : l[i]? = some p) : sideOk key (latN l key) i p = true := by
 obtain ⟨hi, rfl⟩ := List.getElem?_eq_some_iff.1 hp
 unfold sideOk
 by_cases hlt : i < latN l key
 ·rw [if_pos (by omega)]
  exact decide_eq_true (latN_less l key i hi hlt)
 ·rw [if_neg (by omega)]
  have h1 : latN l key < l.length := by omega
  have h2 := latN_here l key h1
  have h3 : (l[latN l key]'h1).1 ≠ key := by
   rcases latN_parts hu key with ⟨h4, _⟩ | ⟨_, h4, _⟩ | ⟨_, _, h4, _⟩
   ·omega
   ·exact h4
   ·rw [h4] at h; cases h
  have h4 : kc key (l[latN l key]'h1).1 = -1 := by
   rcases kc_cases (l[latN l key]'h1).1 key with h5 | h5 | h5
   ·exact absurd h5 h2
   ·exact absurd (kc_zero h5) h3
   ·exact kc_lt h5
  by_cases e : i = latN l key
  ·subst e; exact decide_eq_true h4
  ·exact decide_eq_true (kc_trans h4 (up_at hu _ i (by omega) hi))
theorem nearOk_all {root : List UInt8} {key : ByteArray} {pos n : Int} : ∀ (ps : List KV) (qs : List (List (List UInt8))) (i : Int), ps.length = qs.length → (∀ (k : Nat) p q, ps[k]? = some p → qs[k]? = some q → sideOk key pos (i + k) p = true ∧ reach root p q (i + k) n = true) → nearOk root key pos n i ps qs = true
 | [], [], _, _, _ => rfl
 | p :: ps, q :: qs, i, hl, h => by
  have h0 := h 0 p q rfl rfl
  rw [Int.natCast_zero, Int.add_zero] at h0
  unfold nearOk
  rw [h0.1, h0.2, nearOk_all ps qs (i + 1) (by simpa using hl) (fun k p' q' hp hq => by
   have := h (k + 1) p' q' (by simpa using hp) (by simpa using hq)
   rwa [show i + ((k + 1 : Nat) : Int) = i + 1 + (k : Int) by omega] at this)]
  rfl
 | [], _ :: _, _, hl, _ => by simp at hl
 | _ :: _, [], _, hl, _ => by simp at hl
theorem pathsOf_at {l : List KV} {lo c k : Nat} {q : List (List UInt8)} (h : (pathsOf l lo c)[k]? = some q) : q = pth l (lo + k) := by
 unfold pathsOf at h
 rw [List.getElem?_map, Option.map_eq_some_iff] at h
 obtain ⟨a, ha, rfl⟩ := h
 obtain ⟨hk, e⟩ := List.getElem?_eq_some_iff.1 ha
 rw [List.getElem_range'] at e
 rw [← e, Nat.one_mul]
theorem lo_bld {l : List KV} {key : ByteArray} (h : lget l key = none) : loI (bld l key) = (lowOf (latN l key) : Nat) ∧ hiI (bld l key) = (highOf (latN l key) l.length : Nat) := by
 rw [bld_none h]
 unfold loI hiI lowOf highOf
 simp only
 constructor
 ·split <;> omega
 ·split <;> split <;> omega
theorem fits_bld {l : List KV} {key : ByteArray} (h : lget l key = none) : Fits (bld l key) := by
 have hlh := lo_bld h
 have hle := lat_le (l := l) (key := key)
 have hlw := low_high hle
 unfold Fits
 rw [hlh.1, hlh.2, bld_none h]
 refine ⟨rfl, by simp only; omega, by simp only; omega, ?_, ?_⟩
 ·simp only [nearOf_len hle]; omega
 ·simp only [pathsOf_len]; omega
theorem lacks_bld {l : List KV} (hu : Up l) (h63 : l.length < 2 ^ 63) {key : ByteArray} (h : lget l key = none) : lacksP (rootOf l) key (bld l key) = true := by
 have hf := fits_bld h
 have hlh := lo_bld h
 have hle := lat_le (l := l) (key := key)
 have hlw := low_high hle
 unfold lacksP
 rw [decide_eq_true hf, Bool.true_and, hlh.1]
 rw [bld_none h]
 simp only
 rw [nearOk_all _ _ _ (by rw [nearOf_len hle, pathsOf_len]) (fun k p q hp hq => ?_), Bool.true_and]
 ·by_cases hz : l.length = 0
  ·obtain rfl : l = [] := List.eq_nil_of_length_eq_zero hz
   rw [Bool.or_eq_true]
   right
   exact decide_eq_true rfl
  ·rw [decide_eq_true (by omega)]; rfl
 ·have hp' := near_at hle hp
  have hq' := pathsOf_at hq
  rw [show (lowOf (latN l key) : Int) + (k : Int) = ((lowOf (latN l key) + k : Nat) : Int) by omega, hq']
  exact ⟨side_bld hu h hp', reach_pth hp' h63⟩
end Go.Proofs.YtkejaepmoabikaaGreatDoor.W
namespace Go.Proofs.YtkejaepmoabikaaGreatDoor.W
open Go.RowKit
def bss (L : List (List UInt8)) : List ByteArray := L.map bs
theorem bss_len (L : List (List UInt8)) : (bss L).length = L.length := by simp [bss]
theorem bss_append (L M : List (List UInt8)) : bss (L ++ M) = bss L ++ bss M := by simp [bss]
theorem bs_ne {a b : List UInt8} (h : a ≠ b) : bs a ≠ bs b := fun e => h (bs_inj e)
def TxAt (w : World) (A : Option Addr) (L : List (List UInt8)) : Prop := ∀ i (h : i < L.length), ∃ b off, A = some ⟨b, off, none⟩ ∧ w.cell? ⟨b, off + i, none⟩ = some (.string (bs L[i]))
theorem TxAt.below {w w' : World} {A : Option Addr} {L : List (List UInt8)} (h : TxAt w A L) (hb : Below w.heap.size w w') : TxAt w' A L := fun i hi => by
 obtain ⟨b, off, rfl, h1⟩ := h i hi
 exact ⟨b, off, rfl, (since_of hb).cell h1⟩
end Go.Proofs.YtkejaepmoabikaaGreatDoor.W
namespace Go.Proofs.YtkejaepmoabikaaGreatDoor.W
def nearItems (l : List KV) : List (List UInt8 × Int) := l.flatMap fun p => [encText p.1, encText p.2]
def pathItems (l : List (List (List UInt8))) : List (List UInt8 × Int) := l.map fun q => encJoin (bss q)
def headItems (x : Pf) : List (List UInt8 × Int) := [encNum x.n, encNum x.pos, encNum (if x.there then 1 else 0), encNum x.near.length]
def items (x : Pf) : List (List UInt8 × Int) := headItems x ++ nearItems x.near ++ [encNum x.paths.length] ++ pathItems x.paths
def encPf (x : Pf) : List UInt8 × Int := if x.there = true ∧ x.near ≠ [] then ([], 6) else (items x).foldl radd ([], 0)
theorem encJoin_len (l : List ByteArray) : (encJoin l).1.length ≤ 17000000 := by
 unfold encJoin
 split
 ·rename_i h
  have hg : Good l l.length := fun i hi _ => h.2 _ (List.getElem_mem hi)
  have := jpart_len l h.1 l.length (Nat.le_refl _) hg
  have e : join (l.map fun s => s.data.toList) = jpart l l.length := by simp [jpart, join, Function.comp_def]
  show (join (l.map fun s => s.data.toList)).length ≤ _
  rw [e]
  omega
 ·exact Nat.zero_le _
def nearFrom : Nat → ByteArray × Int → List KV → (ByteArray × Int) × List KV
 | 0, s, acc => (s, acc)
 | k + 1, s, acc => nearFrom k (stText (stText s.1 s.2).1.1 (stText s.1 s.2).1.2).1 (acc ++ [((stText s.1 s.2).2, (stText (stText s.1 s.2).1.1 (stText s.1 s.2).1.2).2)])
def unb (l : List ByteArray) : List (List UInt8) := l.map fun s => s.data.toList
theorem bss_unb (l : List ByteArray) : bss (unb l) = l := by
 unfold bss unb
 rw [List.map_map]
 conv => rhs; rw [← List.map_id l]
 exact List.map_congr_left fun x _ => bs_of x
def pathsFrom : Nat → ByteArray × Int → List (List (List UInt8)) → (ByteArray × Int) × List (List (List UInt8))
 | 0, s, acc => (s, acc)
 | k + 1, s, acc => pathsFrom k (stList s.1 s.2).1 (acc ++ [unb (stList s.1 s.2).2])
def rdTail (n pos there : Nat) (near : List KV) (s : ByteArray) (e : Int) : Pf × Int :=
 if (stNum s e).1.2 = 0 ∧ 2 < (stNum s e).2 then (Pf.zero, 6)
 else
  let h := pathsFrom (stNum s e).2 (stNum s e).1 []
  if stDone h.1.1 h.1.2 ≠ 0 then (Pf.zero, stDone h.1.1 h.1.2) else (⟨n, pos, decide (there = 1), near, h.2⟩, 0)
def rdPf (s : ByteArray) : Pf × Int :=
 let a := stNum s 0
 let b := stNum a.1.1 a.1.2
 let c := stNum b.1.1 b.1.2
 let d := stNum c.1.1 c.1.2
 if d.1.2 ≠ 0 then (Pf.zero, d.1.2)
 else if 1 < c.2 ∨ 2 < d.2 ∨ (c.2 = 1 ∧ 0 < d.2) then (Pf.zero, 6)
 else
  let f := nearFrom d.2 d.1 []
  rdTail a.2 b.2 c.2 f.2 f.1.1 f.1.2
structure Plain (x : Pf) : Prop where
 n0 : 0 ≤ x.n
 n1 : x.n ≤ 9007199254740992
 p0 : 0 ≤ x.pos
 p1 : x.pos ≤ 9007199254740992
 near : x.near.length ≤ 2
 there : x.there = true → x.near = []
 sizes : ∀ p ∈ x.near, p.1.size ≤ 65536 ∧ p.2.size ≤ 65536
 paths : x.paths.length ≤ 2
 path : ∀ q ∈ x.paths, q.length ≤ 256 ∧ ∀ y ∈ q, y.length ≤ 65536
def nearBytes (l : List KV) : List UInt8 := (l.map fun p => text p.1.data.toList ++ text p.2.data.toList).flatten
def pathBytes (l : List (List (List UInt8))) : List UInt8 := (l.map fun q => num q.length ++ cat (bss q)).flatten
def pfBytes (x : Pf) : List UInt8 := num x.n.toNat ++ (num x.pos.toNat ++ (num (if x.there then 1 else 0) ++ (num x.near.length ++ (nearBytes x.near ++ (num x.paths.length ++ pathBytes x.paths)))))
theorem encNum_ok {n : Int} (h0 : 0 ≤ n) (h1 : n ≤ 9007199254740992) : encNum n = (num n.toNat, 0) := by unfold encNum; rw [if_pos ⟨h0, h1⟩]
theorem encText_ok {s : ByteArray} (h : s.size ≤ 65536) : encText s = (text s.data.toList, 0) := by unfold encText; rw [if_pos h]
theorem encJoin_ok2 {q : List (List UInt8)} (h : q.length ≤ 256) (h2 : ∀ y ∈ q, y.length ≤ 65536) : encJoin (bss q) = (num q.length ++ cat (bss q), 0) := by
 unfold encJoin
 rw [if_pos ⟨by rw [bss_len]; exact h, fun s hs => by
  unfold bss at hs
  rw [List.mem_map] at hs
  obtain ⟨y, hy, rfl⟩ := hs
  rw [bs_size]
  exact h2 y hy⟩, join_cat, bss_len]
theorem enc_plain {x : Pf} (h : Plain x) : encPf x = (pfBytes x, 0) := by
 unfold encPf
 rw [if_neg (fun e => e.2 (h.there e.1)), fold_ok]
 ·unfold items headItems nearItems pathItems pfBytes
  rw [encNum_ok h.n0 h.n1, encNum_ok h.p0 h.p1, encNum_ok (n := (x.near.length : Int)) (by omega) (by have := h.near; omega), encNum_ok (n := (x.paths.length : Int)) (by omega) (by have := h.paths; omega)]
  have e1 : encNum (if x.there then 1 else 0) = (num (if x.there then 1 else 0), 0) := by cases x.there <;> rfl
  rw [e1]
  have e2 : ((x.near.flatMap fun p => [encText p.1, encText p.2]).map Prod.fst).flatten = nearBytes x.near := by
   have := h.sizes
   generalize x.near = l at this
   induction l with
   | nil => rfl
   | cons p l ih =>
    have hp := this p (by simp)
    rw [List.flatMap_cons, List.map_append, List.flatten_append, ih (fun q hq => this q (by simp [hq])), encText_ok hp.1, encText_ok hp.2]
    simp [nearBytes]
  have e3 : ((x.paths.map fun q => encJoin (bss q)).map Prod.fst).flatten = pathBytes x.paths := by
   have := h.path
   generalize x.paths = l at this
   induction l with
   | nil => rfl
   | cons p l ih =>
    have hp := this p (by simp)
    rw [List.map_cons, List.map_cons, List.flatten_cons, ih (fun q hq => this q (by simp [hq])), encJoin_ok2 hp.1 hp.2]
    simp [pathBytes]
  simp only [List.map_append, List.flatten_append, e2, e3, Int.toNat_natCast]
  simp
 ·intro p hp
  unfold items headItems nearItems pathItems at hp
  simp only [List.mem_append, List.mem_cons, List.not_mem_nil, or_false, List.mem_flatMap, List.mem_map] at hp
  rcases hp with (((rfl | rfl | rfl | rfl) | ⟨q, hq, rfl | rfl⟩) | rfl) | ⟨q, hq, rfl⟩
  ·rw [encNum_ok h.n0 h.n1]
  ·rw [encNum_ok h.p0 h.p1]
  ·cases x.there <;> rfl
  ·rw [encNum_ok (by omega) (by have := h.near; omega)]
  ·rw [encText_ok (h.sizes q hq).1]
  ·rw [encText_ok (h.sizes q hq).2]
  ·rw [encNum_ok (by omega) (by have := h.paths; omega)]
  ·rw [encJoin_ok2 (h.path q hq).1 (h.path q hq).2]
theorem nearFrom_back : ∀ (l : List KV) (t : List UInt8) (acc : List KV), (∀ p ∈ l, p.1.size ≤ 65536 ∧ p.2.size ≤ 65536) → nearFrom l.length (bs (nearBytes l ++ t), 0) acc = ((bs t, 0), acc ++ l)
 | [], t, acc, _ => by simp [nearFrom, nearBytes]
 | p :: l, t, acc, h => by
  have hp := h p (by simp)
  have e : nearBytes (p :: l) ++ t = text p.1.data.toList ++ (text p.2.data.toList ++ (nearBytes l ++ t)) := by simp [nearBytes]
  have b1 := stText_back p.1.data.toList (by rw [size_list]; exact hp.1) (text p.2.data.toList ++ (nearBytes l ++ t))
  have b2 := stText_back p.2.data.toList (by rw [size_list]; exact hp.2) (nearBytes l ++ t)
  rw [List.length_cons, nearFrom, e]
  simp only [b1, b2]
  rw [nearFrom_back l t _ (fun q hq => h q (by simp [hq])), bs_of, bs_of]
  simp
theorem pathsFrom_back : ∀ (l : List (List (List UInt8))) (t : List UInt8) (acc : List (List (List UInt8))), (∀ q ∈ l, q.length ≤ 256 ∧ ∀ y ∈ q, y.length ≤ 65536) → pathsFrom l.length (bs (pathBytes l ++ t), 0) acc = ((bs t, 0), acc ++ l)
 | [], t, acc, _ => by simp [pathsFrom, pathBytes]
 | q :: l, t, acc, h => by
  have hq := h q (by simp)
  have e : pathBytes (q :: l) ++ t = num (bss q).length ++ cat (bss q) ++ (pathBytes l ++ t) := by simp [pathBytes, bss_len]
  have b1 := stList_back (bss q) (by rw [bss_len]; exact hq.1) (fun s hs => by
   unfold bss at hs
   rw [List.mem_map] at hs
   obtain ⟨y, hy, rfl⟩ := hs
   rw [bs_size]
   exact hq.2 y hy) (pathBytes l ++ t)
  have e2 : unb (bss q) = q := by
   unfold unb bss
   rw [List.map_map]
   conv => rhs; rw [← List.map_id q]
   exact List.map_congr_left fun x _ => bs_data x
  rw [List.length_cons, pathsFrom, e]
  simp only [b1, e2]
  rw [pathsFrom_back l t _ (fun q hq => h q (by simp [hq]))]
  simp
theorem rd_back {x : Pf} (h : Plain x) (t : List UInt8) : rdPf (bs (pfBytes x ++ t)) = if t = [] then (x, 0) else (Pf.zero, 6) := by
 have hn := h.near
 have hp := h.paths
 have b1 := stNum_back x.n.toNat (by have := h.n1; omega) (num x.pos.toNat ++ (num (if x.there then 1 else 0) ++ (num x.near.length ++ (nearBytes x.near ++ (num x.paths.length ++ (pathBytes x.paths ++ t))))))
 have b2 := stNum_back x.pos.toNat (by have := h.p1; omega) (num (if x.there then 1 else 0) ++ (num x.near.length ++ (nearBytes x.near ++ (num x.paths.length ++ (pathBytes x.paths ++ t)))))
 have b3 := stNum_back (if x.there then 1 else 0) (by split <;> omega) (num x.near.length ++ (nearBytes x.near ++ (num x.paths.length ++ (pathBytes x.paths ++ t))))
 have b4 := stNum_back x.near.length (by omega) (nearBytes x.near ++ (num x.paths.length ++ (pathBytes x.paths ++ t)))
 have b5 := nearFrom_back x.near (num x.paths.length ++ (pathBytes x.paths ++ t)) [] h.sizes
 have b6 := stNum_back x.paths.length (by omega) (pathBytes x.paths ++ t)
 have b7 := pathsFrom_back x.paths t [] h.path
 have e : pfBytes x ++ t = num x.n.toNat ++ (num x.pos.toNat ++ (num (if x.there then 1 else 0) ++ (num x.near.length ++ (nearBytes x.near ++ (num x.paths.length ++ (pathBytes x.paths ++ t)))))) := by simp [pfBytes]
 unfold rdPf
 rw [e]
 simp only [b1, b2, b3, b4, b5, List.nil_append]
 rw [if_neg (by simp), if_neg (by
  rintro (h1 | h1 | ⟨h1, h2⟩)
  ·split at h1 <;> omega
  ·omega
  ·cases ht : x.there with
   | false => rw [ht] at h1; simp at h1
   | true => rw [h.there ht] at h2; simp at h2)]
 unfold rdTail
 simp only [b6, b7, List.nil_append]
 rw [if_neg (by omega)]
 by_cases ht : t = []
 ·subst ht
  rw [if_neg (by simp [stDone, bs_size]), if_pos rfl]
  have e1 : decide ((if x.there = true then 1 else 0) = 1) = x.there := by cases x.there <;> rfl
  rw [e1, Int.toNat_of_nonneg h.n0, Int.toNat_of_nonneg h.p0]
 ·have hd : stDone (bs t) 0 = 6 := by
   unfold stDone
   rw [if_neg (by simp), if_neg (by rw [bs_size]; intro e; exact ht (List.eq_nil_of_length_eq_zero e))]
  rw [hd, if_pos (by decide), if_neg ht]
def wNext : ByteArray := ⟨#[110, 101, 120, 116]⟩
def wClt : ByteArray := ⟨#[99, 108, 105, 101, 110, 116]⟩
def wSeen : ByteArray := ⟨#[115, 101, 101, 110]⟩
def nTx (n : Int) : ByteArray := bs (lowd 14 (clamp n))
def kNext : ByteArray := bs (pkOf wNext [wClt])
def kClt (id : ByteArray) : ByteArray := bs (pkOf wClt [id])
def kSeen (id : ByteArray) (n : Int) : ByteArray := bs (pkOf wSeen [id, nTx n])
structure Clt where
 chain : ByteArray
 key : ByteArray
 height : Int
 frozen : Bool
deriving DecidableEq
def Clt.zero : Clt := ⟨⟨#[]⟩, ⟨#[]⟩, 0, false⟩
structure Sn where
 time : Int
 root : ByteArray
deriving DecidableEq
def Sn.zero : Sn := ⟨0, ⟨#[]⟩⟩
def cltV (c : Clt) : Value := .agg #[.string c.chain, .string c.key, .int .i64 c.height, .bool c.frozen]
def snV (x : Sn) : Value := .agg #[.int .i64 x.time, .string x.root]
def fz (b : Bool) : Int := if b then 1 else 0
def cltTx (c : Clt) : List UInt8 := (((encText c.chain).1 ++ (encText c.key).1) ++ (encNum c.height).1) ++ (encNum (fz c.frozen)).1
def snTx (time : Int) (root : ByteArray) : List UInt8 := (encNum time).1 ++ (encText root).1
def rdCnt (v : ByteArray) : Nat := if stDone (stNum v 0).1.1 (stNum v 0).1.2 ≠ 0 then 0 else (stNum v 0).2
def rdClt (v : ByteArray) : Option Clt :=
 let a := stText v 0
 let b := stText a.1.1 a.1.2
 let c := stNum b.1.1 b.1.2
 let d := stNum c.1.1 c.1.2
 if stDone d.1.1 d.1.2 ≠ 0 ∨ 1 < d.2 then none else some ⟨a.2, b.2, c.2, decide (d.2 = 1)⟩
def rdSn (v : ByteArray) : Option Sn :=
 let a := stNum v 0
 let b := stText a.1.1 a.1.2
 if stDone b.1.1 b.1.2 ≠ 0 then none else some ⟨a.2, b.2⟩
section
variable (L : List KV)
def cCount : Nat := rdCnt ((lget L kNext).getD ⟨#[]⟩)
def cGet (id : ByteArray) : Clt × Int := match (lget L (kClt id)).bind rdClt with
 | none => (Clt.zero, 8)
 | some c => (c, 0)
def cSee (id : ByteArray) (h : Int) : Sn × Int :=
 if (cGet L id).2 ≠ 0 then (Sn.zero, (cGet L id).2) else if h < 1 ∨ 1099511627776 < h then (Sn.zero, 13) else match (lget L (kSeen id h)).bind rdSn with
 | none => (Sn.zero, 13)
 | some x => (x, 0)
def cHead (c : Clt) (raw : ByteArray) : Hdr × Int :=
 if c.frozen = true then (Hdr.zero, 12) else if (rdHd raw).2 ≠ 0 then (Hdr.zero, (rdHd raw).2) else if (rdHd raw).1.chain ≠ c.chain ∨ goodOf c.key (rdHd raw).1 = false then (Hdr.zero, 24) else if (rdHd raw).1.height < 1 ∨ 1099511627776 < (rdHd raw).1.height then (Hdr.zero, 13) else ((rdHd raw).1, 0)
def cTake (id : ByteArray) (c : Clt) (h : Hdr) : List KV × Int :=
 if (cSee L id h.height).2 = 0 then
  if (cSee L id h.height).1.time = h.time ∧ (cSee L id h.height).1.root = h.root then (L, 9) else (lset L (kClt id) (bs (cltTx ⟨c.chain, c.key, c.height, true⟩)), 0)
 else (lset (lset L (kSeen id h.height) (bs (snTx h.time h.root))) (kClt id) (bs (cltTx ⟨c.chain, c.key, max c.height h.height, c.frozen⟩)), 0)
def cUpd (id raw : ByteArray) : List KV × Int :=
 if (cGet L id).2 ≠ 0 then (L, (cGet L id).2) else if (cHead (cGet L id).1 raw).2 ≠ 0 then (L, (cHead (cGet L id).1 raw).2) else cTake L id (cGet L id).1 (cHead (cGet L id).1 raw).1
def cOpen (id : ByteArray) (h : Int) (pr : ByteArray) : (Pf × ByteArray) × Int :=
 if (cGet L id).2 ≠ 0 then ((Pf.zero, ⟨#[]⟩), (cGet L id).2) else if (cGet L id).1.frozen = true then ((Pf.zero, ⟨#[]⟩), 12) else if (cSee L id h).2 ≠ 0 then ((Pf.zero, ⟨#[]⟩), (cSee L id h).2) else if (rdPf pr).2 ≠ 0 then ((Pf.zero, ⟨#[]⟩), 11) else (((rdPf pr).1, (cSee L id h).1.root), 0)
noncomputable def cHas (id : ByteArray) (h : Int) (pr : ByteArray) (p : KV) : Int :=
 if (cOpen L id h pr).2 ≠ 0 then (cOpen L id h pr).2 else if hasP (cOpen L id h pr).1.2.data.toList p (cOpen L id h pr).1.1 = true then 0 else 11
noncomputable def cLacks (id : ByteArray) (h : Int) (pr key : ByteArray) : Int :=
 if (cOpen L id h pr).2 ≠ 0 then (cOpen L id h pr).2 else if lacksP (cOpen L id h pr).1.2.data.toList key (cOpen L id h pr).1.1 = true then 0 else 11
def cNew (chain key : ByteArray) : (List KV × ByteArray) × Int :=
 if ck 6 chain.data.toList ≠ 0 then ((L, ⟨#[]⟩), 7) else if 65536 < key.size then ((L, ⟨#[]⟩), 4) else
 ((lset (lset L kNext (bs (encNum ((cCount L : Int) + 1)).1)) (kClt (bs (mkS 3 (cCount L)))) (bs (cltTx ⟨chain, key, 0, false⟩)), bs (mkS 3 (cCount L))), 0)
end
end Go.Proofs.YtkejaepmoabikaaGreatDoor.W
namespace Go.Proofs.YtkejaepmoabikaaGreatDoor.W
open Go.RowKit
open Lib renaming hid → qH
open _root_.Go.Proofs.Tryz renaming prog → qP
set_option maxHeartbeats 1000000
set_option maxRecDepth 100000
theorem Since.txs {w0 W : World} (h : Since w0 W) {v : Value} {ss : List ByteArray} (hT : Txs w0 w0.heap.size v ss) : Txs W W.heap.size v ss := (hT.below h.below).more h.2.2.2.1
theorem Txs.tail {w : World} {b off c : Nat} {p : ByteArray} {r : List ByteArray} (h : Txs w w.heap.size (.slice (some ⟨b, off, none⟩) (r.length + 1) c) (p :: r)) :
  w.cell? ⟨b, off, none⟩ = some (.string p) ∧ ∀ k, Txs w w.heap.size (.slice (some ⟨b, off + 1, none⟩) r.length k) r := by
 obtain ⟨A, c', e, hc⟩ := h
 simp only [Value.slice.injEq] at e
 obtain ⟨rfl, -, rfl⟩ := e
 obtain ⟨b0, o0, e0, hb0, h0⟩ := hc 0 (by simp)
 cases e0
 refine ⟨by simpa using h0, fun k => ⟨_, k, rfl, fun i hi => ⟨b, off + 1, rfl, hb0, ?_⟩⟩⟩
 obtain ⟨b', o', e', -, hcell⟩ := hc (i + 1) (by simp; omega)
 cases e'
 rw [show off + 1 + i = off + (i + 1) by omega, hcell]
 simp
theorem put5 {W : World} {b : Nat} {t : TypeId} {a0 a1 a2 a3 a4 : Value} (h : Blk W b t #[a0, a1, a2, a3, a4]) (v0 v1 v2 v3 v4 : Value) :
  Blk (((((W.setCell ⟨b, 0, none⟩ v0).setCell ⟨b, 1, none⟩ v1).setCell ⟨b, 2, none⟩ v2).setCell ⟨b, 3, none⟩ v3).setCell ⟨b, 4, none⟩ v4) b t #[v0, v1, v2, v3, v4] :=
 ((((h.set_ 0 v0).set_ 1 v1).set_ 2 v2).set_ 3 v3).set_ 4 v4
theorem since_put {w W : World} (h : Since w W) {p : Addr} (hb : w.heap.size ≤ p.block) (v : Value) : Since w (W.setCell p v) := since_of (h.below.setCell hb v)
theorem since_put5 {w W : World} {b : Nat} (h : Since w W) (hb : w.heap.size ≤ b) (v0 v1 v2 v3 v4 : Value) :
  Since w (((((W.setCell ⟨b, 0, none⟩ v0).setCell ⟨b, 1, none⟩ v1).setCell ⟨b, 2, none⟩ v2).setCell ⟨b, 3, none⟩ v3).setCell ⟨b, 4, none⟩ v4) :=
 since_put (since_put (since_put (since_put (since_put h (p := ⟨b, 0, none⟩) hb v0) (p := ⟨b, 1, none⟩) hb v1) (p := ⟨b, 2, none⟩) hb v2) (p := ⟨b, 3, none⟩) hb v3) (p := ⟨b, 4, none⟩) hb v4
theorem heap_put5 (W : World) {b g : Nat} (hg : g ≠ b) (v0 v1 v2 v3 v4 : Value) :
  (((((W.setCell ⟨b, 0, none⟩ v0).setCell ⟨b, 1, none⟩ v1).setCell ⟨b, 2, none⟩ v2).setCell ⟨b, 3, none⟩ v3).setCell ⟨b, 4, none⟩ v4).heap[g]? = W.heap[g]? :=
 ((((Below.heap_setCell _ ⟨b, 4, none⟩ v4 g hg).trans (Below.heap_setCell _ ⟨b, 3, none⟩ v3 g hg)).trans (Below.heap_setCell _ ⟨b, 2, none⟩ v2 g hg)).trans (Below.heap_setCell _ ⟨b, 1, none⟩ v1 g hg)).trans (Below.heap_setCell _ ⟨b, 0, none⟩ v0 g hg)
theorem blk_put5 {W : World} {b g : Nat} {t : TypeId} {cs : Array Value} (h : Blk W g t cs) (hg : g ≠ b) (v0 v1 v2 v3 v4 : Value) :
  Blk (((((W.setCell ⟨b, 0, none⟩ v0).setCell ⟨b, 1, none⟩ v1).setCell ⟨b, 2, none⟩ v2).setCell ⟨b, 3, none⟩ v3).setCell ⟨b, 4, none⟩ v4) g t cs := (heap_put5 W hg v0 v1 v2 v3 v4).trans h
theorem Blk.c {W : World} {b : Nat} {t : TypeId} {cs : Array Value} (h : Blk W b t cs) (i : Nat) {v : Value} (e : cs[i]? = some v) : W.cell? ⟨b, i, none⟩ = some v := (h.cell i).trans e
theorem since_alloc {w W : World} (h : Since w W) (ob : Obj) : Since w (W.alloc ob) := since_of (h.below.alloc h.below.size _)
theorem since_two {V W w' : World} (h1 : Since V W) (h2 : Since W w') : Since V w' := since_of (step_below h1.below h2.below)
theorem txsA1 {w : World} {b : Nat} {x : ByteArray} (h : Blk w b 9 #[.string x]) : Txs w w.heap.size (.slice (some ⟨b, 0, none⟩) 1 1) [x] :=
 ⟨_, 1, rfl, fun i hi => by
  have : i = 0 := by simpa using hi
  subst this
  exact ⟨b, 0, rfl, h.lt, (h.cell 0).trans rfl⟩⟩
theorem txsA2 {w : World} {b : Nat} {x y : ByteArray} (h : Blk w b 9 #[.string x, .string y]) : Txs w w.heap.size (.slice (some ⟨b, 0, none⟩) 2 2) [x, y] :=
 ⟨_, 2, rfl, fun i hi => by
  match i, hi with
  | 0, _ => exact ⟨b, 0, rfl, h.lt, (h.cell 0).trans rfl⟩
  | 1, _ => exact ⟨b, 0, rfl, h.lt, (h.cell 1).trans rfl⟩⟩
theorem join1 (wd x : ByteArray) (b : Nat) (w : World) (hL : PLay w) (h : Blk w b 9 #[.string x]) (h1 : wd.size ≤ 1000000) (h2 : x.size ≤ 1000000) :
  Calls qP 85 #[.string wd, .slice (some ⟨b, 0, none⟩) 1 1] w fun e w' => e = .returned (.string (bs (pkOf wd [x]))) ∧ Since w w' :=
 (pJoin wd _ [x] w hL (txsA1 h) (by simp [tot]; omega)).mono fun _ _ ⟨he, hb⟩ => ⟨he, since_of hb⟩
theorem join2 (wd x y : ByteArray) (b : Nat) (w : World) (hL : PLay w) (h : Blk w b 9 #[.string x, .string y]) (h1 : wd.size ≤ 1000000) (h2 : x.size ≤ 1000000) (h3 : y.size ≤ 1000000) :
  Calls qP 85 #[.string wd, .slice (some ⟨b, 0, none⟩) 2 2] w fun e w' => e = .returned (.string (bs (pkOf wd [x, y]))) ∧ Since w w' :=
 (pJoin wd _ [x, y] w hL (txsA2 h) (by simp [tot]; omega)).mono fun _ _ ⟨he, hb⟩ => ⟨he, since_of hb⟩
theorem nextKeyC (w : World) (hL : PLay w) : Calls qP 67 #[] w fun e w' => e = .returned (.string kNext) ∧ Since w w' := by
 have B := qH (Blk.new w 9 #[.string wClt])
 have S0 := qH (since_alloc (Since.refl w) (.cells #[.string wClt] 9))
 have H := qH (join1 wNext wClt _ _ (hL.next S0.out.below) B.out (by decide) (by decide))
 obtain ⟨k, hk⟩ : ∃ k, k = kNext := ⟨_, rfl⟩
 rw [show bs (pkOf wNext [wClt]) = k from hk.symm] at H
 rw [← hk]
 clear hk
 unfold wNext wClt at H
 unfold wClt at S0
 clear B
 go_enter Tryz.func67, Tryz.ntmps67
 go_wp2_with fail
 refine H.out.mono ?_
 rintro e w1 ⟨rfl, q⟩
 go_wp2
 go_ret
 exact ⟨rfl, since_two S0.out q⟩
theorem clientKeyC (id : ByteArray) (hid : id.size ≤ 1000000) (w : World) (hL : PLay w) : Calls qP 34 #[.string id] w fun e w' => e = .returned (.string (kClt id)) ∧ Since w w' := by
 have B := qH (Blk.new w 9 #[.string id])
 have S0 := qH (since_alloc (Since.refl w) (.cells #[.string id] 9))
 have H := qH (join1 wClt id _ _ (hL.next S0.out.below) B.out (by decide) hid)
 obtain ⟨k, hk⟩ : ∃ k, k = kClt id := ⟨_, rfl⟩
 rw [show bs (pkOf wClt [id]) = k from hk.symm] at H
 rw [← hk]
 clear hk B
 unfold wClt at H
 go_enter Tryz.func34, Tryz.ntmps34
 go_wp2_with fail
 refine H.out.mono ?_
 rintro e w1 ⟨rfl, q⟩
 go_wp2
 go_ret
 exact ⟨rfl, since_two S0.out q⟩
theorem nTx_size (n : Int) : (nTx n).size ≤ 14 := by unfold nTx; rw [bs_size, lowd_len]; exact Nat.le_refl _
theorem seenKey_this (id k n : ByteArray) (h : Int) (w : World)
  (N : Hid (∀ W, Since w W → Calls qP 108 #[.int .i64 h] W fun e w' => e = .returned (.string n) ∧ Since W w'))
  (J : Hid (∀ W b, Since w W → Blk W b 9 #[.string id, .string n] → Calls qP 85 #[.string ⟨#[115, 101, 101, 110]⟩, .slice (some ⟨b, 0, none⟩) 2 2] W fun e w' => e = .returned (.string k) ∧ Since W w')) :
  Calls qP 60 #[.string id, .int .i64 h] w fun e w' => e = .returned (.string k) ∧ Since w w' := by
 go_enter Tryz.func60, Tryz.ntmps60
 go_wp2_with fail
 refine (N.out _ (Since.refl w)).mono ?_
 rintro e w1 ⟨rfl, q⟩
 have B1 := qH (Blk.new w1 9 #[.string id, .string n])
 have S1 := qH (since_alloc q (.cells #[.string id, .string n] 9))
 clear N q
 go_wp2_with fail
 refine (J.out _ _ S1.out B1.out).mono ?_
 rintro e w2 ⟨rfl, q⟩
 have S2 := qH (since_two S1.out q)
 clear J B1 S1 q
 go_wp2
 go_ret
 exact ⟨rfl, S2.out⟩
theorem seenKeyC (id : ByteArray) (hid : id.size ≤ 1000000) (h : Int) (w : World) (hL : PLay w) : Calls qP 60 #[.string id, .int .i64 h] w fun e w' => e = .returned (.string (kSeen id h)) ∧ Since w w' :=
 seenKey_this id (kSeen id h) (nTx h) h w (qH fun W hW => (pNumber h W (hL.next hW.below)).mono fun _ _ ⟨he, hb⟩ => ⟨he, since_of hb⟩) (qH fun W b hW hB => join2 wSeen id (nTx h) b W (hL.next hW.below) hB (by decide) hid (by have := nTx_size h; omega))
theorem new (s : ByteArray) (w : World) :
  Calls qP 35 #[.string s] w fun e w' => e = .returned (.pointer (some ⟨w.heap.size, 0, none⟩)) ∧ w' = w.alloc (.cells #[.string s, .int .i64 0] 149) := by
 go_enter Tryz.func35, Tryz.ntmps35
 go_wp2
 go_ret
 exact ⟨rfl, rfl⟩
theorem errAt (b : Nat) (s : ByteArray) (e : Int) (w : World) (h : RdAt w b s e) :
  Calls qP 87 #[.pointer (some ⟨b, 0, none⟩)] w fun e' w' => e' = .returned (.int .i64 e) ∧ w = w' := by
 have h1 := Blk.cell h 1
 simp only [List.getElem?_toArray, List.getElem?_cons_succ, List.getElem?_cons_zero] at h1
 go_enter Tryz.func87, Tryz.ntmps87
 go_wp2
 go_ret
 exact ⟨rfl, rfl⟩
theorem doneAt (b : Nat) (s : ByteArray) (e : Int) (w : World) (h : RdAt w b s e) :
  Calls qP 38 #[.pointer (some ⟨b, 0, none⟩)] w fun e' w' => e' = .returned (.int .i64 (stDone s e)) ∧ w = w' := by
 have h0 := Blk.cell h 0
 simp only [List.getElem?_toArray, List.getElem?_cons_zero] at h0
 have HE := qH (errAt b s e w h)
 by_cases he : e = 0
 ·subst he
  by_cases hs : s.size = 0
  ·have hE := empty_of s hs
   have HD := qH (show stDone s 0 = 0 by simp [stDone, hs])
   go_enter Tryz.func38, Tryz.ntmps38
   go_wp2_with (go_at_call 87; refine HE.out.mono ?_; rintro e w' ⟨rfl, rfl⟩)
   go_ret
   exact ⟨by rw [HD.out]; rfl, rfl⟩
  ·have hE := nonempty_of s (by omega)
   have HD := qH (show stDone s 0 = 6 by simp [stDone, hs])
   go_enter Tryz.func38, Tryz.ntmps38
   go_wp2_with (go_at_call 87; refine HE.out.mono ?_; rintro e w' ⟨rfl, rfl⟩)
   go_ret
   exact ⟨by rw [HD.out]; rfl, rfl⟩
 ·have hb : (e != 0) = true := by rw [bne_iff_ne]; exact he
  have HD := qH (show stDone s e = e by simp [stDone, he])
  go_enter Tryz.func38, Tryz.ntmps38
  go_wp2_with (go_at_call 87; refine HE.out.mono ?_; rintro e w' ⟨rfl, rfl⟩)
  go_ret
  exact ⟨by rw [HD.out]; rfl, rfl⟩
def RdPost (w : World) (b : Nat) (v : Value) (s : ByteArray) (e : Int) (en : Ending) (w' : World) : Prop := en = .returned v ∧ RdAt w' b s e ∧ w.grownBy w' (some b)
theorem numAt (b : Nat) (s : ByteArray) (e : Int) (w : World) (h : RdAt w b s e) (hm : s.size ≤ 9223372036854775807) :
  Calls qP 37 #[.pointer (some ⟨b, 0, none⟩)] w (RdPost w b (.int .i64 ((stNum s e).2 : Nat)) (stNum s e).1.1 (stNum s e).1.2) := by
 have h0 := Blk.cell h 0
 have h1 := Blk.cell h 1
 simp only [List.getElem?_toArray, List.getElem?_cons_zero, List.getElem?_cons_succ] at h0 h1
 have HE := qH (errAt b s e w h)
 by_cases he : e = 0
 ·subst he
  have hdn := decodeNum s w hm
  have hf := dec_facts s.data.toList
  rw [size_list] at hf
  obtain ⟨n, sz, er, hd⟩ : ∃ n sz er, dec s.data.toList = (n, sz, er) := ⟨_, _, _, rfl⟩
  have HS := qH (show stNum s 0 = if er ≠ 0 then ((s, er), 0) else ((s.extract sz s.size, 0), n) by simp [stNum, hd])
  rw [hd] at hdn hf
  simp only at hf
  have HDN := qH hdn
  clear hdn hd
  by_cases her : er = 0
  ·subst her
   have HS2 := qH (HS.out.trans (if_neg (by simp)))
   clear HS
   go_enter Tryz.func37, Tryz.ntmps37
   go_wp2_with (go_at_call 87; refine HE.out.mono ?_; rintro e w' ⟨rfl, rfl⟩)
   refine HDN.out.mono ?_
   rintro e w1 ⟨rfl, hb⟩
   unfold retDec
   have hR := Blk.below h hb (Blk.lt h)
   have k0 := (Blk.cell hR 0)
   have k0f := (Blk.frozen hR 0)
   simp only [List.getElem?_toArray, List.getElem?_cons_zero] at k0
   go_wp2
   go_ret
   rw [HS2.out]
   exact ⟨rfl, Blk.set_ hR 0 _, only_set (only_of_below (only_refl _ _) hb (Nat.le_refl _)) 0 _⟩
  ·have hne : (er != 0) = true := by rw [bne_iff_ne]; exact her
   have HS2 := qH (HS.out.trans (if_pos her))
   clear HS
   go_enter Tryz.func37, Tryz.ntmps37
   go_wp2_with (go_at_call 87; refine HE.out.mono ?_; rintro e w' ⟨rfl, rfl⟩)
   refine HDN.out.mono ?_
   rintro e w1 ⟨rfl, hb⟩
   unfold retDec
   have hR := Blk.below h hb (Blk.lt h)
   have k1 := (Blk.cell hR 1)
   have k1f := (Blk.frozen hR 1)
   simp only [List.getElem?_toArray, List.getElem?_cons_zero, List.getElem?_cons_succ] at k1
   go_wp2
   go_ret
   rw [HS2.out]
   exact ⟨rfl, Blk.set_ hR 1 _, only_set (only_of_below (only_refl _ _) hb (Nat.le_refl _)) 1 _⟩
 ·have hb : (e != 0) = true := by rw [bne_iff_ne]; exact he
  have HS := qH (stNum_err s he)
  go_enter Tryz.func37, Tryz.ntmps37
  go_wp2_with (go_at_call 87; refine HE.out.mono ?_; rintro e w' ⟨rfl, rfl⟩)
  go_ret
  rw [HS.out]
  exact ⟨rfl, h, only_refl _ _⟩
theorem lenAt (b : Nat) (s : ByteArray) (e : Int) (most : Nat) (w : World) (h : RdAt w b s e) (hm : s.size ≤ 9223372036854775807) :
  Calls qP 86 #[.pointer (some ⟨b, 0, none⟩), .int .i64 most] w (RdPost w b (.int .i64 ((stLen s e most).2 : Nat)) (stLen s e most).1.1 (stLen s e most).1.2) := by
 have HN := qH (numAt b s e w h hm)
 have HS := qH (show stLen s e most = if most < (stNum s e).2 then (((stNum s e).1.1, 4), 0) else stNum s e from rfl)
 obtain ⟨⟨⟨s1, e1⟩, n⟩, hd⟩ : ∃ r, stNum s e = r := ⟨_, rfl⟩
 rw [hd] at HN HS
 clear hd
 by_cases hn : most < n
 ·have HS2 := qH (HS.out.trans (if_pos hn))
  clear HS
  go_enter Tryz.func86, Tryz.ntmps86
  go_wp2_with fail
  refine HN.out.mono ?_
  rintro e w1 ⟨rfl, hR, hg⟩
  have k1 := (Blk.cell hR 1)
  have k1f := (Blk.frozen hR 1)
  simp only [List.getElem?_toArray, List.getElem?_cons_zero, List.getElem?_cons_succ] at k1
  go_wp2
  go_ret
  rw [HS2.out]
  exact ⟨rfl, Blk.set_ hR 1 _, only_set hg 1 _⟩
 ·have HS2 := qH (HS.out.trans (if_neg hn))
  clear HS
  go_enter Tryz.func86, Tryz.ntmps86
  go_wp2_with fail
  refine HN.out.mono ?_
  rintro e w1 ⟨rfl, hR, hg⟩
  go_wp2
  go_ret
  rw [HS2.out]
  exact ⟨rfl, hR, hg⟩
theorem textAt (b : Nat) (s : ByteArray) (e : Int) (w : World) (h : RdAt w b s e) (hm : s.size ≤ 9223372036854775807) :
  Calls qP 36 #[.pointer (some ⟨b, 0, none⟩)] w (RdPost w b (.string (stText s e).2) (stText s e).1.1 (stText s e).1.2) := by
 have HN := qH (lenAt b s e 65536 w h hm)
 have HS := qH (show stText s e = (if (stLen s e 65536).1.2 ≠ 0 then ((stLen s e 65536).1, .empty) else if (stLen s e 65536).1.1.size < (stLen s e 65536).2 then (((stLen s e 65536).1.1, 5), .empty) else (((stLen s e 65536).1.1.extract (stLen s e 65536).2 (stLen s e 65536).1.1.size, 0), (stLen s e 65536).1.1.extract 0 (stLen s e 65536).2)) from rfl)
 have hf := stLen_facts s e 65536
 obtain ⟨⟨⟨s1, e1⟩, n⟩, hd⟩ : ∃ r, stLen s e 65536 = r := ⟨_, rfl⟩
 rw [hd] at HN HS hf
 clear hd
 simp only at hf
 by_cases he : e1 = 0
 ·subst he
  have HS1 := qH (HS.out.trans (if_neg (by simp)))
  by_cases hn : s1.size < n
  ·have HS2 := qH (HS1.out.trans (if_pos hn))
   clear HS HS1
   go_enter Tryz.func36, Tryz.ntmps36
   go_wp2_with fail
   refine HN.out.mono ?_
   rintro e w1 ⟨rfl, hR, hg⟩
   have k0 := (Blk.cell hR 0)
   have k1 := (Blk.cell hR 1)
   have k1f := (Blk.frozen hR 1)
   simp only [List.getElem?_toArray, List.getElem?_cons_zero, List.getElem?_cons_succ] at k0 k1
   go_wp2_with fail
   refine (errAt b s1 0 w1 hR).mono ?_
   rintro e w2 ⟨rfl, rfl⟩
   go_wp2
   go_ret
   rw [HS2.out]
   exact ⟨rfl, Blk.set_ hR 1 _, only_set hg 1 _⟩
  ·have HS2 := qH (HS1.out.trans (if_neg hn))
   clear HS HS1
   go_enter Tryz.func36, Tryz.ntmps36
   go_wp2_with fail
   refine HN.out.mono ?_
   rintro e w1 ⟨rfl, hR, hg⟩
   have k0 := (Blk.cell hR 0)
   have k0f := (Blk.frozen hR 0)
   simp only [List.getElem?_toArray, List.getElem?_cons_zero] at k0
   go_wp2_with fail
   refine (errAt b s1 0 w1 hR).mono ?_
   rintro e w2 ⟨rfl, rfl⟩
   go_wp2
   go_ret
   rw [HS2.out]
   exact ⟨rfl, Blk.set_ hR 0 _, only_set hg 0 _⟩
 ·have hne : (e1 != 0) = true := by rw [bne_iff_ne]; exact he
  have HS2 := qH (HS.out.trans (if_pos he))
  clear HS
  go_enter Tryz.func36, Tryz.ntmps36
  go_wp2_with fail
  refine HN.out.mono ?_
  rintro e w1 ⟨rfl, hR, hg⟩
  go_wp2_with fail
  refine (errAt b s1 e1 w1 hR).mono ?_
  rintro e w2 ⟨rfl, rfl⟩
  go_wp2
  go_ret
  rw [HS2.out]
  exact ⟨rfl, hR, hg⟩
theorem compare (a b : ByteArray) (w : World) : Calls qP 166 #[.string a, .string b] w fun e w' => e = .returned (.int .i64 (kc a b)) ∧ w' = w := Any.strings_Compare Tryz.lays106 a b w
theorem hasPrefix (s p : ByteArray) (w : World) : Calls qP 173 #[.string s, .string p] w fun e w' => e = .returned (.bool (pfx p s)) ∧ w' = w := Any.strings_HasPrefix Tryz.lays99 s p w
inductive BT where
 | leaf
 | node (l : BT) (x : KV) (r : BT)
def BT.list : BT → List KV
 | .leaf => []
 | .node l x r => l.list ++ x :: r.list
def BT.ht : BT → Nat
 | .leaf => 0
 | .node l _ r => 1 + max l.ht r.ht
theorem BT.ht_le (t : BT) : t.ht ≤ t.list.length := by
 induction t with
 | leaf => simp [BT.ht]
 | node l x r h1 h2 => simp only [BT.ht, BT.list, List.length_append, List.length_cons]; omega
def nodeCells (pl : Option Addr) (x : KV) (pr : Option Addr) (n : Nat) : Array Value := #[.pointer pl, .string x.1, .string x.2, .pointer pr, .int .i64 n]
def IsTree (w : World) : Option Addr → BT → Prop
 | p, .leaf => p = none
 | p, .node l x r => ∃ b pl pr, p = some ⟨b, 0, none⟩ ∧ Blk w b 238 (nodeCells pl x pr (BT.node l x r).ht) ∧ IsTree w pl l ∧ IsTree w pr r
def Kept (w w' : World) : Prop := ∀ g cs, Blk w g 238 cs → Blk w' g 238 cs
theorem Kept.refl (w : World) : Kept w w := fun _ _ h => h
theorem Kept.trans {a b c : World} (h : Kept a b) (k : Kept b c) : Kept a c := fun g cs hb => k g cs (h g cs hb)
theorem kept_below {w w' : World} (h : Below w.heap.size w w') : Kept w w' := fun _ _ hb => hb.below h hb.lt
theorem IsTree.kept {w w' : World} (h : Kept w w') : ∀ {p : Option Addr} {t : BT}, IsTree w p t → IsTree w' p t
 | _, .leaf, ht => ht
 | _, .node _ _ _, ⟨b, pl, pr, hp, hb, hl, hr⟩ => ⟨b, pl, pr, hp, h _ _ hb, hl.kept h, hr.kept h⟩
theorem IsTree.below {w w' : World} (h : Below w.heap.size w w') {p : Option Addr} {t : BT} (ht : IsTree w p t) : IsTree w' p t := ht.kept (kept_below h)
theorem node_cells {w : World} {b : Nat} {pl pr : Option Addr} {x : KV} {n : Nat} (h : Blk w b 238 (nodeCells pl x pr n)) :
  w.cell? ⟨b, 0, none⟩ = some (.pointer pl) ∧ w.cell? ⟨b, 1, none⟩ = some (.string x.1) ∧ w.cell? ⟨b, 2, none⟩ = some (.string x.2) ∧ w.cell? ⟨b, 3, none⟩ = some (.pointer pr) ∧ w.cell? ⟨b, 4, none⟩ = some (.int .i64 n) :=
 ⟨h.cell 0, h.cell 1, h.cell 2, h.cell 3, h.cell 4⟩
theorem tall (t : BT) (p : Option Addr) (w : World) (ht : IsTree w p t) :
  Calls qP 244 #[.pointer p] w fun e w' => e = .returned (.int .i64 t.ht) ∧ w' = w := by
 cases t with
 | leaf =>
  obtain rfl : p = none := ht
  go_enter Tryz.func244, Tryz.ntmps244
  go_wp2
  go_ret
  exact ⟨rfl, rfl⟩
 | node l x r =>
  obtain ⟨b, pl, pr, rfl, hb, _, _⟩ := ht
  generalize (BT.node l x r).ht = n at *
  obtain ⟨_, _, _, _, c4⟩ := node_cells hb
  go_enter Tryz.func244, Tryz.ntmps244
  go_wp2
  go_ret
  exact ⟨rfl, rfl⟩
theorem joinT (l r : BT) (x : KV) (pl pr : Option Addr) (w : World) (hl : IsTree w pl l) (hr : IsTree w pr r) (hs : (BT.node l x r).list.length < 4611686018427387904) :
  Calls qP 227 #[.pointer pl, .agg #[.string x.1, .string x.2], .pointer pr] w fun e w' => ∃ b, e = .returned (.pointer (some ⟨b, 0, none⟩)) ∧ IsTree w' (some ⟨b, 0, none⟩) (.node l x r) ∧ Below w.heap.size w w' := by
 have H1 := qH (fun W (h : Since w W) => tall l pl W (hl.below h.below))
 have H2 := qH (fun W (h : Since w W) => tall r pr W (hr.below h.below))
 have hh := (BT.node l x r).ht_le
 have hn : (BT.node l x r).ht = 1 + max l.ht r.ht := rfl
 have HI := qH (show ∀ W b n, n = (BT.node l x r).ht → Blk W b 238 (nodeCells pl x pr n) → Below w.heap.size w W → IsTree W (some ⟨b, 0, none⟩) (.node l x r) from fun W b n e hb h => ⟨b, pl, pr, rfl, e ▸ hb, hl.below h, hr.below h⟩)
 obtain ⟨k, v⟩ := x
 generalize (BT.node l (k, v) r).ht = n at *
 generalize l.ht = a at *
 generalize r.ht = c at *
 simp only at *
 have hw : IntKind.i64.wrap (1 + max (a : Int) (c : Int)) = (n : Int) := by rw [IntWalk.i64_in _ (by omega)]; omega
 clear hn hh hs
 go_enter Tryz.func227, Tryz.ntmps227
 go_wp2
 have bk : Blk (w.alloc (.cells #[.string k, .string v] 36)) w.heap.size 36 #[.string k, .string v] := Blk.new _ _ _
 have s1 : Since w (w.alloc (.cells #[.string k, .string v] 36)) := since_of ((Below.refl _ _).alloc (Nat.le_refl _) _)
 generalize w.alloc (.cells #[.string k, .string v] 36) = w1 at *
 have c0 : w1.cell? ⟨w.heap.size, 0, none⟩ = some (.string k) := bk.cell 0
 have c1 : w1.cell? ⟨w.heap.size, 1, none⟩ = some (.string v) := bk.cell 1
 go_region_held3 (fun w' => w'.cell? ⟨w.heap.size, 0, none⟩ = some (.string k) ∧ w'.cell? ⟨w.heap.size, 1, none⟩ = some (.string v))
  (go_keep)
  (first
    | (go_at_call 244; refine (H1.out _ (by exact s1)).mono ?_; clear H1; rintro en wJ ⟨rfl, rfl⟩)
    | (go_at_call 244; refine (H2.out _ (by exact s1)).mono ?_; clear H2; rintro en wJ ⟨rfl, rfl⟩))
 go_wp2
 go_ret
 have hB : Below w.heap.size w ((w1.alloc (.cells #[.pointer pl, .string k, .string v, .pointer pr, .int .i64 n] 238)).drew) := (s1.below.alloc s1.2.2.2.1 _).drew
 exact ⟨_, rfl, HI.out _ _ n rfl (Blk.new w1 _ _) hB, hB⟩
def Makes (L : List KV) (w : World) (e : Ending) (w' : World) : Prop := ∃ p t, e = .returned (.pointer p) ∧ IsTree w' p t ∧ t.list = L ∧ Below w.heap.size w w'
theorem joinS (w0 : World) (l r : BT) (x : KV) (pl pr : Option Addr) (W : World) (hs : Since w0 W) (hl : IsTree W pl l) (hr : IsTree W pr r) (hz : (BT.node l x r).list.length < 4611686018427387904) :
  Calls qP 227 #[.pointer pl, .agg #[.string x.1, .string x.2], .pointer pr] W fun e w' => ∃ b, e = .returned (.pointer (some ⟨b, 0, none⟩)) ∧ IsTree w' (some ⟨b, 0, none⟩) (.node l x r) ∧ Since w0 w' :=
 (joinT l r x pl pr W hl hr hz).mono fun _ _ ⟨b, he, ht, hb⟩ => ⟨b, he, ht, since_of (step_below hs.below hb)⟩
theorem turnRight (ll lr r : BT) (y x : KV) (b : Nat) (pr : Option Addr) (w : World) (hl : IsTree w (some ⟨b, 0, none⟩) (.node ll y lr)) (hr : IsTree w pr r) (hz : (BT.node (.node ll y lr) x r).list.length < 4611686018427387904) :
  Calls qP 246 #[.pointer (some ⟨b, 0, none⟩), .agg #[.string x.1, .string x.2], .pointer pr] w fun e w' => ∃ b', e = .returned (.pointer (some ⟨b', 0, none⟩)) ∧ IsTree w' (some ⟨b', 0, none⟩) (.node ll y (.node lr x r)) ∧ Below w.heap.size w w' := by
 obtain ⟨b0, pll, plr, e0, hb, hll, hlr⟩ := hl
 cases e0
 have HZ := qH hz
 have HB := qH (node_cells hb)
 clear hz hb
 obtain ⟨xk, xv⟩ := x
 obtain ⟨yk, yv⟩ := y
 simp only at *
 go_enter Tryz.func246, Tryz.ntmps246
 go_wp2
 have bk : Blk (w.alloc (.cells #[.string xk, .string xv] 36)) w.heap.size 36 #[.string xk, .string xv] := Blk.new _ _ _
 have s1 : Since w (w.alloc (.cells #[.string xk, .string xv] 36)) := since_of ((Below.refl _ _).alloc (Nat.le_refl _) _)
 generalize w.alloc (.cells #[.string xk, .string xv] 36) = w1 at *
 have H1 := qH (fun W (h : Since w1 W) => joinS w1 lr r (xk, xv) plr pr W h (hlr.below (h.after s1)) (hr.below (h.after s1)) (by have := HZ.out; simp only [BT.list, List.length_append, List.length_cons] at this ⊢; omega))
 have H2 := qH (fun W (h : Since w1 W) c (hc : IsTree W (some ⟨c, 0, none⟩) (.node lr (xk, xv) r)) => joinS w1 ll (.node lr (xk, xv) r) (yk, yv) pll (some ⟨c, 0, none⟩) W h (hll.below (h.after s1)) hc (by have := HZ.out; simp only [BT.list, List.length_append, List.length_cons] at this ⊢; omega))
 have k0 : w1.cell? ⟨w.heap.size, 0, none⟩ = some (.string xk) := bk.cell 0
 have k1 : w1.cell? ⟨w.heap.size, 1, none⟩ = some (.string xv) := bk.cell 1
 obtain ⟨c0, c1, c2, c3, _⟩ := HB.out
 have d0 := s1.cell c0
 have d1 := s1.cell c1
 have d2 := s1.cell c2
 have d3 := s1.cell c3
 have s2 := Since.refl w1
 clear c0 c1 c2 c3 bk
 simp only at *
 go_region_held3 (fun w' => w'.cell? ⟨w.heap.size, 0, none⟩ = some (.string xk) ∧ w'.cell? ⟨w.heap.size, 1, none⟩ = some (.string xv) ∧ w'.cell? ⟨b, 0, none⟩ = some (.pointer pll) ∧ w'.cell? ⟨b, 1, none⟩ = some (.string yk) ∧ w'.cell? ⟨b, 2, none⟩ = some (.string yv) ∧ w'.cell? ⟨b, 3, none⟩ = some (.pointer plr))
  (first | go_keep | exact ⟨sJ.cell k0, sJ.cell k1, sJ.cell d0, sJ.cell d1, sJ.cell d2, sJ.cell d3⟩ | exact ⟨sK.cell k0, sK.cell k1, sK.cell d0, sK.cell d1, sK.cell d2, sK.cell d3⟩)
  (first
    | (go_at_call 227; refine (H1.out _ (by exact s2)).mono ?_; clear H1; rintro en wJ ⟨c, rfl, tJ, sJ⟩)
    | (go_at_call 227; refine (H2.out _ (by exact sJ) _ (by exact tJ)).mono ?_; clear H2; rintro en wK ⟨d, rfl, tK, sK⟩))
 go_wp2
 go_ret
 exact ⟨_, rfl, tK, sK.after s1⟩
theorem turnLeft (l rl rr : BT) (x y : KV) (b : Nat) (pl : Option Addr) (w : World) (hl : IsTree w pl l) (hr : IsTree w (some ⟨b, 0, none⟩) (.node rl y rr)) (hz : (BT.node l x (.node rl y rr)).list.length < 4611686018427387904) :
  Calls qP 245 #[.pointer pl, .agg #[.string x.1, .string x.2], .pointer (some ⟨b, 0, none⟩)] w fun e w' => ∃ b', e = .returned (.pointer (some ⟨b', 0, none⟩)) ∧ IsTree w' (some ⟨b', 0, none⟩) (.node (.node l x rl) y rr) ∧ Below w.heap.size w w' := by
 obtain ⟨b0, prl, prr, e0, hb, hrl, hrr⟩ := hr
 cases e0
 have HZ := qH hz
 have HB := qH (node_cells hb)
 clear hz hb
 obtain ⟨xk, xv⟩ := x
 obtain ⟨yk, yv⟩ := y
 simp only at *
 go_enter Tryz.func245, Tryz.ntmps245
 go_wp2
 have bk : Blk (w.alloc (.cells #[.string xk, .string xv] 36)) w.heap.size 36 #[.string xk, .string xv] := Blk.new _ _ _
 have s1 : Since w (w.alloc (.cells #[.string xk, .string xv] 36)) := since_of ((Below.refl _ _).alloc (Nat.le_refl _) _)
 generalize w.alloc (.cells #[.string xk, .string xv] 36) = w1 at *
 have H1 := qH (fun W (h : Since w1 W) => joinS w1 l rl (xk, xv) pl prl W h (hl.below (h.after s1)) (hrl.below (h.after s1)) (by have := HZ.out; simp only [BT.list, List.length_append, List.length_cons] at this ⊢; omega))
 have H2 := qH (fun W (h : Since w1 W) c (hc : IsTree W (some ⟨c, 0, none⟩) (.node l (xk, xv) rl)) => joinS w1 (.node l (xk, xv) rl) rr (yk, yv) (some ⟨c, 0, none⟩) prr W h hc (hrr.below (h.after s1)) (by have := HZ.out; simp only [BT.list, List.length_append, List.length_cons] at this ⊢; omega))
 have k0 : w1.cell? ⟨w.heap.size, 0, none⟩ = some (.string xk) := bk.cell 0
 have k1 : w1.cell? ⟨w.heap.size, 1, none⟩ = some (.string xv) := bk.cell 1
 obtain ⟨c0, c1, c2, c3, _⟩ := HB.out
 have d0 := s1.cell c0
 have d1 := s1.cell c1
 have d2 := s1.cell c2
 have d3 := s1.cell c3
 have s2 := Since.refl w1
 clear c0 c1 c2 c3 bk
 simp only at *
 go_region_held3 (fun w' => w'.cell? ⟨w.heap.size, 0, none⟩ = some (.string xk) ∧ w'.cell? ⟨w.heap.size, 1, none⟩ = some (.string xv) ∧ w'.cell? ⟨b, 0, none⟩ = some (.pointer prl) ∧ w'.cell? ⟨b, 1, none⟩ = some (.string yk) ∧ w'.cell? ⟨b, 2, none⟩ = some (.string yv) ∧ w'.cell? ⟨b, 3, none⟩ = some (.pointer prr))
  (first | go_keep | exact ⟨sJ.cell k0, sJ.cell k1, sJ.cell d0, sJ.cell d1, sJ.cell d2, sJ.cell d3⟩ | exact ⟨sK.cell k0, sK.cell k1, sK.cell d0, sK.cell d1, sK.cell d2, sK.cell d3⟩)
  (first
    | (go_at_call 227; refine (H1.out _ (by exact s2)).mono ?_; clear H1; rintro en wJ ⟨c, rfl, tJ, sJ⟩)
    | (go_at_call 227; refine (H2.out _ (by exact sJ) _ (by exact tJ)).mono ?_; clear H2; rintro en wK ⟨d, rfl, tK, sK⟩))
 go_wp2
 go_ret
 exact ⟨_, rfl, tK, sK.after s1⟩
end Go.Proofs.YtkejaepmoabikaaGreatDoor.W
