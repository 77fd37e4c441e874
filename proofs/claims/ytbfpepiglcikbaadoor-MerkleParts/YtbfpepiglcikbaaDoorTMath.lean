/-
  Pairs in the order of their keys: plain lemmas. No program is named here.
-/
import Derived.Lib.Bytealg
import Derived.Lib.Strings
import Derived.Test.YtbfpepiglcikbaaDoorCMath
namespace Go.Proofs.YtbfpepiglcikbaaDoor.W

/-! ### The order of strings -/
open Lib (compareBytes)
theorem cb_cases : ∀ a b : List UInt8, compareBytes a b = -1 ∨ compareBytes a b = 0 ∨ compareBytes a b = 1
  | [], [] => by simp [compareBytes]
  | [], _ :: _ => by simp [compareBytes]
  | _ :: _, [] => by simp [compareBytes]
  | a :: as, b :: bs => by
    unfold compareBytes
    split
    · simp
    · split
      · simp
      · exact cb_cases as bs
theorem u8_lt_ne {a b : UInt8} (h : a < b) : ¬ b < a := fun h2 => by
  rw [UInt8.lt_iff_toNat_lt] at h h2; omega
theorem u8_eq {a b : UInt8} (h : ¬ a < b) (h2 : ¬ b < a) : a = b := by
  rw [UInt8.lt_iff_toNat_lt] at h h2; exact UInt8.toNat_inj.1 (by omega)
theorem cb_flip : ∀ a b : List UInt8, compareBytes b a = - compareBytes a b
  | [], [] => by simp [compareBytes]
  | [], _ :: _ => by simp [compareBytes]
  | _ :: _, [] => by simp [compareBytes]
  | a :: as, b :: bs => by
    unfold compareBytes
    by_cases h : a < b
    · simp [h, u8_lt_ne h]
    · by_cases h2 : b < a
      · simp [h2, u8_lt_ne h2]
      · simp [h, h2, cb_flip as bs]
theorem cb_self : ∀ a : List UInt8, compareBytes a a = 0
  | [] => by simp [compareBytes]
  | a :: as => by unfold compareBytes; simp [UInt8.lt_irrefl, cb_self as]
theorem cb_zero : ∀ {a b : List UInt8}, compareBytes a b = 0 → a = b
  | [], [], _ => rfl
  | [], _ :: _, h => by simp [compareBytes] at h
  | _ :: _, [], h => by simp [compareBytes] at h
  | a :: as, b :: bs, h => by
    unfold compareBytes at h
    by_cases h1 : a < b
    · simp [h1] at h
    · by_cases h2 : b < a
      · simp [h1, h2] at h
      · simp only [h1, h2, if_false] at h
        rw [u8_eq h1 h2, cb_zero h]
theorem cb_trans : ∀ {a b c : List UInt8}, compareBytes a b = -1 → compareBytes b c = -1 → compareBytes a c = -1
  | [], _ :: _, _ :: _, _, _ => by simp [compareBytes]
  | [], [], _, h, _ => by simp [compareBytes] at h
  | _, _ :: _, [], _, h => by simp [compareBytes] at h
  | _ :: _, [], _, h, _ => by simp [compareBytes] at h
  | a :: as, b :: bs, c :: cs, h, k => by
    unfold compareBytes at h k ⊢
    by_cases h1 : a < b
    · by_cases k1 : b < c
      · have : a < c := by rw [UInt8.lt_iff_toNat_lt] at *; omega
        simp [this]
      · by_cases k2 : c < b
        · simp [k1, k2] at k
        · have e := u8_eq k1 k2
          subst e
          simp [h1]
    · by_cases h2 : b < a
      · simp [h1, h2] at h
      · have e := u8_eq h1 h2
        subst e
        simp only [h1, if_false] at h
        by_cases k1 : a < c
        · simp [k1]
        · by_cases k2 : c < a
          · simp [k1, k2] at k
          · simp only [k1, k2, if_false] at k ⊢
            exact cb_trans h k
/-- a beginning is not greater -/
theorem cb_prefix : ∀ {p a : List UInt8}, p.isPrefixOf a = true → compareBytes a p ≠ -1
  | [], [], _ => by simp [compareBytes]
  | [], _ :: _, _ => by simp [compareBytes]
  | _ :: _, [], h => by simp at h
  | p :: ps, a :: as, h => by
    simp only [List.isPrefixOf_cons_cons, Bool.and_eq_true, beq_iff_eq] at h
    obtain ⟨rfl, h⟩ := h
    unfold compareBytes
    simp only [UInt8.lt_irrefl, if_false]
    exact cb_prefix h
/-- what begins so stands together -/
theorem cb_between : ∀ {p a b : List UInt8}, compareBytes a p ≠ -1 → compareBytes a b = -1 → p.isPrefixOf b = true → p.isPrefixOf a = true
  | [], _, _, _, _, _ => by simp
  | _ :: _, _, [], _, _, h => by simp at h
  | _ :: _, [], _, h, _, _ => by simp [compareBytes] at h
  | p :: ps, a :: as, b :: bs, h, k, hb => by
    simp only [List.isPrefixOf_cons_cons, Bool.and_eq_true, beq_iff_eq] at hb ⊢
    obtain ⟨rfl, hb⟩ := hb
    unfold compareBytes at h k
    by_cases h1 : a < p
    · simp [h1] at h
    · by_cases h2 : p < a
      · simp [h1, h2] at k
      · have e := u8_eq h1 h2
        subst e
        simp only [h1, if_false] at h k
        exact ⟨rfl, cb_between h k hb⟩

/-- strings.Compare -/
def kc (a b : ByteArray) : Int := compareBytes a.data.toList b.data.toList
theorem kc_cases (a b : ByteArray) : kc a b = -1 ∨ kc a b = 0 ∨ kc a b = 1 := cb_cases _ _
theorem kc_flip (a b : ByteArray) : kc b a = - kc a b := cb_flip _ _
theorem kc_self (a : ByteArray) : kc a a = 0 := cb_self _
theorem kc_zero {a b : ByteArray} (h : kc a b = 0) : a = b := by
  rw [← bs_of a, ← bs_of b, cb_zero h]
theorem kc_trans {a b c : ByteArray} (h : kc a b = -1) (k : kc b c = -1) : kc a c = -1 := cb_trans h k
theorem kc_ne {a b : ByteArray} (h : kc a b = -1) : a ≠ b := fun e => by rw [e, kc_self] at h; cases h
theorem kc_gt {a b : ByteArray} (h : kc a b = -1) : kc b a = 1 := by rw [kc_flip, h]; rfl
theorem kc_lt {a b : ByteArray} (h : kc a b = 1) : kc b a = -1 := by rw [kc_flip, h]
/-- begins so -/
def pfx (p k : ByteArray) : Bool := p.data.toList.isPrefixOf k.data.toList

/-! ### Pairs -/
abbrev KV := ByteArray × ByteArray
/-- in rising order of the keys -/
def Up (l : List KV) : Prop := l.Pairwise fun x y => kc x.1 y.1 = -1
def lget (l : List KV) (k : ByteArray) : Option ByteArray := (l.find? fun x => decide (x.1 = k)).map Prod.snd
def ldel (l : List KV) (k : ByteArray) : List KV := l.filter fun x => decide (x.1 ≠ k)
def lset : List KV → ByteArray → ByteArray → List KV
  | [], k, v => [(k, v)]
  | x :: r, k, v => if kc k x.1 = -1 then (k, v) :: x :: r else if kc k x.1 = 0 then (k, v) :: r else x :: lset r k v
def lall (l : List KV) (p : ByteArray) : List KV := l.filter fun x => pfx p x.1
/-- not less than low -/
def lfrom (l : List KV) (low : ByteArray) : List KV := l.filter fun x => decide (kc x.1 low ≠ -1)

section
variable {A B : List KV} {x : KV} {k v : ByteArray}
theorem up_mid (h : Up (A ++ x :: B)) : Up A ∧ Up B ∧ (∀ a ∈ A, kc a.1 x.1 = -1) ∧ (∀ b ∈ B, kc x.1 b.1 = -1) ∧ ∀ a ∈ A, ∀ b ∈ B, kc a.1 b.1 = -1 := by
  unfold Up at *
  rw [List.pairwise_append, List.pairwise_cons] at h
  obtain ⟨h1, ⟨h2, h3⟩, h4⟩ := h
  exact ⟨h1, h3, fun a ha => h4 a ha x (by simp), h2, fun a ha b hb => h4 a ha b (by simp [hb])⟩
theorem lset_left (h : kc k x.1 = -1) : lset (A ++ x :: B) k v = lset A k v ++ x :: B := by
  induction A with
  | nil => simp [lset, h]
  | cons a A ih =>
    simp only [List.cons_append, lset]
    split
    · rfl
    · split
      · rfl
      · rw [ih]; rfl
theorem lset_skip (h : ∀ a ∈ A, kc k a.1 = 1) (l : List KV) : lset (A ++ l) k v = A ++ lset l k v := by
  induction A with
  | nil => rfl
  | cons a A ih =>
    have h1 := h a (by simp)
    simp only [List.cons_append, lset]
    rw [if_neg (by rw [h1]; decide), if_neg (by rw [h1]; decide), ih (fun b hb => h b (by simp [hb]))]
theorem lset_right (hu : Up (A ++ x :: B)) (h : kc k x.1 = 1) : lset (A ++ x :: B) k v = A ++ x :: lset B k v := by
  obtain ⟨_, _, h1, _, _⟩ := up_mid hu
  rw [lset_skip (fun a ha => kc_gt (kc_trans (h1 a ha) (kc_lt h)))]
  simp only [lset]
  rw [if_neg (by rw [h]; decide), if_neg (by rw [h]; decide)]
theorem lset_here (hu : Up (A ++ x :: B)) (h : kc k x.1 = 0) : lset (A ++ x :: B) k v = A ++ (k, v) :: B := by
  obtain ⟨_, _, h1, _, _⟩ := up_mid hu
  have e := kc_zero h
  rw [lset_skip (fun a ha => by rw [e]; exact kc_gt (h1 a ha))]
  simp only [lset]
  rw [if_neg (by rw [h]; decide), if_pos h]
theorem lset_mem {l : List KV} {y : KV} (h : y ∈ lset l k v) : y = (k, v) ∨ y ∈ l := by
  induction l with
  | nil => simpa [lset] using h
  | cons a r ih =>
    simp only [lset] at h
    split at h
    · simpa using h
    · split at h
      · simp at h
        rcases h with h | h
        · exact .inl h
        · exact .inr (by simp [h])
      · simp at h
        rcases h with h | h
        · exact .inr (by simp [h])
        · rcases ih h with h | h
          · exact .inl h
          · exact .inr (by simp [h])
theorem lset_up {l : List KV} (hu : Up l) : Up (lset l k v) := by
  unfold Up at *
  induction l with
  | nil => simp [lset]
  | cons a r ih =>
    rw [List.pairwise_cons] at hu
    simp only [lset]
    split
    · rename_i h
      rw [List.pairwise_cons, List.pairwise_cons]
      refine ⟨fun y hy => ?_, hu⟩
      simp at hy
      rcases hy with rfl | hy
      · exact h
      · exact kc_trans h (hu.1 y hy)
    · rename_i h1
      split
      · rename_i h
        rw [List.pairwise_cons]
        have e := kc_zero h
        exact ⟨fun y hy => by rw [e]; exact hu.1 y hy, hu.2⟩
      · rename_i h2
        rw [List.pairwise_cons]
        refine ⟨fun y hy => ?_, ih hu.2⟩
        have h3 : kc k a.1 = 1 := by rcases kc_cases k a.1 with h | h | h <;> simp_all
        rcases lset_mem hy with rfl | hy
        · exact kc_lt h3
        · exact hu.1 y hy
theorem lset_len (l : List KV) : (lset l k v).length ≤ l.length + 1 := by
  induction l with
  | nil => simp [lset]
  | cons a r ih =>
    simp only [lset]
    split
    · simp
    · split
      · simp
      · simp only [List.length_cons]; omega

theorem lget_append (l m : List KV) : lget (l ++ m) k = (lget l k).or (lget m k) := by
  unfold lget
  rw [List.find?_append]
  cases l.find? (fun x => decide (x.1 = k)) <;> simp
theorem lget_none {l : List KV} (h : ∀ y ∈ l, y.1 ≠ k) : lget l k = none := by
  unfold lget
  rw [List.find?_eq_none.2 (fun y hy => by simpa using h y hy)]
  rfl
theorem lget_cons_ne (h : x.1 ≠ k) (B : List KV) : lget (x :: B) k = lget B k := by
  unfold lget
  rw [List.find?_cons_of_neg (by simpa using h)]
theorem lget_cons_eq (h : x.1 = k) (B : List KV) : lget (x :: B) k = some x.2 := by
  unfold lget
  rw [List.find?_cons_of_pos (by simpa using h)]
  rfl
theorem lget_left (hu : Up (A ++ x :: B)) (h : kc k x.1 = -1) : lget (A ++ x :: B) k = lget A k := by
  obtain ⟨_, _, _, h2, _⟩ := up_mid hu
  rw [lget_append, lget_none (l := x :: B)]
  · cases lget A k <;> rfl
  · intro y hy
    simp at hy
    rcases hy with rfl | hy
    · exact (kc_ne h).symm
    · exact (kc_ne (kc_trans h (h2 y hy))).symm
theorem lget_right (hu : Up (A ++ x :: B)) (h : kc k x.1 = 1) : lget (A ++ x :: B) k = lget B k := by
  obtain ⟨_, _, h1, _, _⟩ := up_mid hu
  rw [lget_append, lget_none (l := A) (fun y hy => kc_ne (kc_trans (h1 y hy) (kc_lt h))), lget_cons_ne (kc_ne (kc_lt h))]
  rfl
theorem lget_here (hu : Up (A ++ x :: B)) (h : kc k x.1 = 0) : lget (A ++ x :: B) k = some x.2 := by
  obtain ⟨_, _, h1, _, _⟩ := up_mid hu
  have e := kc_zero h
  rw [lget_append, lget_none (l := A) (fun y hy => by rw [e]; exact kc_ne (h1 y hy)), lget_cons_eq e.symm]
  rfl

theorem ldel_same {l : List KV} (h : ∀ y ∈ l, y.1 ≠ k) : ldel l k = l := by
  unfold ldel
  rw [List.filter_eq_self]
  intro y hy
  simpa using h y hy
theorem ldel_append (l m : List KV) : ldel (l ++ m) k = ldel l k ++ ldel m k := List.filter_append ..
theorem ldel_cons_ne (h : x.1 ≠ k) (B : List KV) : ldel (x :: B) k = x :: ldel B k := List.filter_cons_of_pos (by simpa using h)
theorem ldel_cons_eq (h : x.1 = k) (B : List KV) : ldel (x :: B) k = ldel B k := List.filter_cons_of_neg (by simpa using h)
theorem ldel_left (hu : Up (A ++ x :: B)) (h : kc k x.1 = -1) : ldel (A ++ x :: B) k = ldel A k ++ x :: B := by
  obtain ⟨_, _, _, h2, _⟩ := up_mid hu
  rw [ldel_append, ldel_cons_ne (kc_ne h).symm, ldel_same (l := B) (fun y hy => (kc_ne (kc_trans h (h2 y hy))).symm)]
theorem ldel_right (hu : Up (A ++ x :: B)) (h : kc k x.1 = 1) : ldel (A ++ x :: B) k = A ++ x :: ldel B k := by
  obtain ⟨_, _, h1, _, _⟩ := up_mid hu
  rw [ldel_append, ldel_same (l := A) (fun y hy => kc_ne (kc_trans (h1 y hy) (kc_lt h))), ldel_cons_ne (kc_ne (kc_lt h))]
theorem ldel_here (hu : Up (A ++ x :: B)) (h : kc k x.1 = 0) : ldel (A ++ x :: B) k = A ++ B := by
  obtain ⟨_, _, h1, h2, _⟩ := up_mid hu
  have e := kc_zero h
  rw [ldel_append, ldel_same (l := A) (fun y hy => by rw [e]; exact kc_ne (h1 y hy)), ldel_cons_eq e.symm, ldel_same (l := B) (fun y hy => by rw [e]; exact (kc_ne (h2 y hy)).symm)]
theorem ldel_up {l : List KV} (hu : Up l) : Up (ldel l k) := List.Pairwise.filter _ hu
theorem ldel_len (l : List KV) : (ldel l k).length ≤ l.length := List.length_filter_le ..
end

theorem lset_size {l : List KV} (hu : Up l) (k v : ByteArray) : (lset l k v).length = if (lget l k).isSome then l.length else l.length + 1 := by
  induction l with
  | nil => simp [lset, lget]
  | cons a r ih =>
    have hu' := hu
    unfold Up at hu
    rw [List.pairwise_cons] at hu
    simp only [lset]
    rcases kc_cases k a.1 with h | h | h
    · rw [if_pos h, lget_none]
      · simp
      · intro y hy
        simp at hy
        rcases hy with rfl | hy
        · exact (kc_ne h).symm
        · exact (kc_ne (kc_trans h (hu.1 y hy))).symm
    · rw [if_neg (by rw [h]; decide), if_pos h, lget_cons_eq (kc_zero h).symm]
      simp
    · rw [if_neg (by rw [h]; decide), if_neg (by rw [h]; decide), lget_cons_ne (kc_ne (kc_lt h))]
      simp only [List.length_cons, ih hu.2]
      split <;> simp
theorem ldel_size {l : List KV} (hu : Up l) (k : ByteArray) : (ldel l k).length + (if (lget l k).isSome then 1 else 0) = l.length := by
  induction l with
  | nil => simp [ldel, lget]
  | cons a r ih =>
    unfold Up at hu
    rw [List.pairwise_cons] at hu
    by_cases h : a.1 = k
    · rw [ldel_cons_eq h, lget_cons_eq h, ldel_same (fun y hy => by rw [← h]; exact (kc_ne (hu.1 y hy)).symm)]
      simp
    · rw [ldel_cons_ne h, lget_cons_ne h, List.length_cons, List.length_cons, ← ih hu.2]
      omega
theorem ldel_absent {l : List KV} {k : ByteArray} (h : lget l k = none) : ldel l k = l := by
  refine ldel_same fun y hy e => ?_
  unfold lget at h
  rw [Option.map_eq_none_iff, List.find?_eq_none] at h
  exact h y hy (by simpa using e)

/-! ### Going over them -/
theorem lfrom_low {A B : List KV} {x : KV} {low : ByteArray} (hu : Up (A ++ x :: B)) (h : kc x.1 low = -1) : lfrom (A ++ x :: B) low = lfrom B low := by
  obtain ⟨_, _, h1, _, _⟩ := up_mid hu
  unfold lfrom
  rw [List.filter_append, List.filter_cons_of_neg (by simp [h]), List.filter_eq_nil_iff.2 (fun a ha => by simp [kc_trans (h1 a ha) h])]
  rfl
theorem lfrom_high {A B : List KV} {x : KV} {low : ByteArray} (h : kc x.1 low ≠ -1) : lfrom (A ++ x :: B) low = lfrom A low ++ x :: lfrom B low := by
  unfold lfrom
  rw [List.filter_append, List.filter_cons_of_pos (by simp [h])]
theorem pfx_from {p k : ByteArray} (h : pfx p k = true) : kc k p ≠ -1 := cb_prefix h
theorem pfx_between {p a b : ByteArray} (h : kc a p ≠ -1) (k : kc a b = -1) (hb : pfx p b = true) : pfx p a = true := cb_between h k hb
/-- behind the first that does not begin so none does -/
theorem take_pfx {l : List KV} {p : ByteArray} (hu : Up l) (h : ∀ x ∈ l, kc x.1 p ≠ -1) : l.takeWhile (fun x => pfx p x.1) = l.filter (fun x => pfx p x.1) := by
  induction l with
  | nil => rfl
  | cons a r ih =>
    unfold Up at hu
    rw [List.pairwise_cons] at hu
    rw [List.takeWhile_cons, List.filter_cons]
    split
    · rw [ih hu.2 (fun x hx => h x (by simp [hx]))]
    · rename_i ha
      symm
      rw [List.filter_eq_nil_iff]
      intro x hx hp
      exact ha (pfx_between (h a (by simp)) (hu.1 x hx) hp)
theorem lall_is {l : List KV} {p : ByteArray} (hu : Up l) : (lfrom l p).takeWhile (fun x => pfx p x.1) = lall l p := by
  have hu2 : Up (lfrom l p) := List.Pairwise.filter _ hu
  rw [take_pfx hu2 (fun x hx => by simpa using (List.mem_filter.1 hx).2)]
  unfold lfrom lall
  rw [List.filter_filter]
  congr 1
  funext x
  cases h : pfx p x.1
  · simp
  · simp [pfx_from h]
theorem lall_empty (l : List KV) : lall l ⟨#[]⟩ = l := by
  unfold lall
  rw [List.filter_eq_self]
  intro x _
  show pfx ⟨#[]⟩ x.1 = true
  unfold pfx
  exact List.isPrefixOf_nil_left ..
end Go.Proofs.YtbfpepiglcikbaaDoor.W
