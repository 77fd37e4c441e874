/-
  The Merkle tree of a list of pairs, over plain lists of bytes. Two lists whose trees are equal are equal, if no two texts that are hashed have one hash. No program is named here.
-/
import Derived.Test.YtbfpepiglcikbaaDoorWEnc
import Derived.Test.YtbfpepiglcikbaaDoorSMath
import Derived.Test.YtbfpepiglcikbaaDoorTMath
namespace Go.Proofs.YtbfpepiglcikbaaDoor.W

/-! ### The largest power of two below a number -/
def spl (n : Nat) : Nat := if n < 2 then 0 else 2 ^ (Lib.bitLen (n - 1) - 1)
theorem bitLen_two : ∀ (j x : Nat), 2 ^ j ≤ x → x < 2 ^ (j + 1) → x < 2 ^ 64 → Lib.bitLen x = j + 1
  | 0, x, h1, h2, _ => by
    obtain rfl : x = 1 := by omega
    decide +kernel
  | j + 1, x, h1, h2, h3 => by
    have h0 : x ≠ 0 := by have := Nat.two_pow_pos (j + 1); omega
    rw [Nat.pow_succ] at h1 h2
    rw [Lib.bitLen_half x h0 h3, bitLen_two j (x / 2) (by omega) (by rw [Nat.pow_succ] at *; omega) (by omega)]
    omega
theorem spl_small (n : Nat) (h : n < 2) : spl n = 0 := by unfold spl; rw [if_pos h]
theorem spl_is (j n : Nat) (h1 : 2 ^ j < n) (h2 : n ≤ 2 * 2 ^ j) (h3 : n < 2 ^ 64) : spl n = 2 ^ j := by
  have h0 := Nat.two_pow_pos j
  unfold spl
  rw [if_neg (by omega), bitLen_two j (n - 1) (by omega) (by rw [Nat.pow_succ]; omega) (by omega), Nat.add_sub_cancel]
theorem pow_of : ∀ n : Nat, 2 ≤ n → ∃ j, 2 ^ j < n ∧ n ≤ 2 * 2 ^ j := by
  intro n
  induction n using Nat.strongRecOn with
  | _ n ih =>
    intro h
    by_cases h2 : n = 2
    · subst h2; exact ⟨0, by decide, by decide⟩
    · by_cases h3 : n = 3
      · subst h3; exact ⟨1, by decide, by decide⟩
      · obtain ⟨j, h4, h5⟩ := ih ((n + 1) / 2) (by omega) (by omega)
        exact ⟨j + 1, by rw [Nat.pow_succ]; omega, by rw [Nat.pow_succ]; omega⟩
theorem spl_pos {n : Nat} (h : 2 ≤ n) (h3 : n < 2 ^ 64) : 1 ≤ spl n ∧ spl n < n ∧ n - spl n ≤ spl n := by
  obtain ⟨j, h1, h2⟩ := pow_of n h
  have h0 := Nat.two_pow_pos j
  rw [spl_is j n h1 h2 h3]
  omega

/-! ### What is hashed -/
def leafOf (p : KV) : List UInt8 := 0 :: ((encText p.1).1 ++ (encText p.2).1)
def nodeOf (a b : List UInt8) : List UInt8 := 1 :: (a ++ b)
def topOf (n : Int) (t : List UInt8) : List UInt8 := 2 :: ((encNum n).1 ++ t)
/-- the tree hash, with as much fuel as there are pairs -/
def treeF : Nat → List KV → List UInt8
  | 0, _ => []
  | f + 1, l => match l with
    | [] => []
    | [p] => shaOf (leafOf p)
    | p :: q :: r => shaOf (nodeOf (treeF f ((p :: q :: r).take (spl (r.length + 2)))) (treeF f ((p :: q :: r).drop (spl (r.length + 2)))))
def tree (l : List KV) : List UInt8 := treeF l.length l
theorem treeF_more : ∀ (f : Nat) (l : List KV), l.length ≤ f → l.length < 2 ^ 64 → ∀ g, l.length ≤ g → treeF f l = treeF g l := by
  intro f
  induction f with
  | zero =>
    intro l h _ g _
    obtain rfl : l = [] := List.eq_nil_of_length_eq_zero (by omega)
    cases g <;> rfl
  | succ f ih =>
    intro l h h64 g hg
    match l, g with
    | [], 0 => rfl
    | [], g + 1 => rfl
    | [p], g + 1 => rfl
    | p :: q :: r, g + 1 =>
      simp only [List.length_cons] at h hg h64
      obtain ⟨s1, s2, s3⟩ := spl_pos (n := r.length + 2) (by omega) (by omega)
      have e1 : ((p :: q :: r).take (spl (r.length + 2))).length = spl (r.length + 2) := by rw [List.length_take]; simp only [List.length_cons]; omega
      have e2 : ((p :: q :: r).drop (spl (r.length + 2))).length = r.length + 2 - spl (r.length + 2) := by rw [List.length_drop]; simp only [List.length_cons]
      show shaOf _ = shaOf _
      rw [ih _ (by rw [e1]; omega) (by rw [e1]; omega) g (by rw [e1]; omega), ih _ (by rw [e2]; omega) (by rw [e2]; omega) g (by rw [e2]; omega)]
theorem tree_nil : tree [] = [] := rfl
theorem tree_one (p : KV) : tree [p] = shaOf (leafOf p) := rfl
theorem tree_two (l : List KV) (h : 2 ≤ l.length) (h64 : l.length < 2 ^ 64) : tree l = shaOf (nodeOf (tree (l.take (spl l.length))) (tree (l.drop (spl l.length)))) := by
  match l, h with
  | p :: q :: r, _ =>
    simp only [List.length_cons] at h64
    obtain ⟨s1, s2, s3⟩ := spl_pos (n := r.length + 2) (by omega) (by omega)
    have e1 : ((p :: q :: r).take (spl (r.length + 2))).length = spl (r.length + 2) := by rw [List.length_take]; simp only [List.length_cons]; omega
    have e2 : ((p :: q :: r).drop (spl (r.length + 2))).length = r.length + 2 - spl (r.length + 2) := by rw [List.length_drop]; simp only [List.length_cons]
    show shaOf (nodeOf (treeF (r.length + 1) ((p :: q :: r).take (spl (r.length + 2)))) (treeF (r.length + 1) ((p :: q :: r).drop (spl (r.length + 2))))) = shaOf (nodeOf (tree ((p :: q :: r).take (spl (r.length + 2)))) (tree ((p :: q :: r).drop (spl (r.length + 2)))))
    unfold tree
    rw [treeF_more (r.length + 1) _ (by rw [e1]; omega) (by rw [e1]; omega) _ (Nat.le_refl _), treeF_more (r.length + 1) _ (by rw [e2]; omega) (by rw [e2]; omega) _ (Nat.le_refl _)]
theorem tree_len (l : List KV) (h : l ≠ []) (h64 : l.length < 2 ^ 64) : (tree l).length = 32 := by
  match l, h with
  | [p], _ => rw [tree_one, shaOf_len]
  | p :: q :: r, _ => rw [tree_two _ (by simp) h64, shaOf_len]
theorem tree_le (l : List KV) (h64 : l.length < 2 ^ 64) : (tree l).length ≤ 32 := by
  by_cases h : l = []
  · subst h; rw [tree_nil]; simp
  · rw [tree_len l h h64]; omega
/-- all that is hashed, in the order in which the reference lists it -/
def textsF : Nat → List KV → List (List UInt8)
  | 0, _ => []
  | f + 1, l => match l with
    | [] => []
    | [p] => [leafOf p]
    | p :: q :: r => textsF f ((p :: q :: r).take (spl (r.length + 2))) ++ textsF f ((p :: q :: r).drop (spl (r.length + 2))) ++ [nodeOf (tree ((p :: q :: r).take (spl (r.length + 2)))) (tree ((p :: q :: r).drop (spl (r.length + 2))))]
def texts (l : List KV) : List (List UInt8) := textsF l.length l
theorem textsF_more : ∀ (f : Nat) (l : List KV), l.length ≤ f → l.length < 2 ^ 64 → ∀ g, l.length ≤ g → textsF f l = textsF g l := by
  intro f
  induction f with
  | zero =>
    intro l h _ g _
    obtain rfl : l = [] := List.eq_nil_of_length_eq_zero (by omega)
    cases g <;> rfl
  | succ f ih =>
    intro l h h64 g hg
    match l, g with
    | [], 0 => rfl
    | [], g + 1 => rfl
    | [p], g + 1 => rfl
    | p :: q :: r, g + 1 =>
      simp only [List.length_cons] at h hg h64
      obtain ⟨s1, s2, s3⟩ := spl_pos (n := r.length + 2) (by omega) (by omega)
      have e1 : ((p :: q :: r).take (spl (r.length + 2))).length = spl (r.length + 2) := by rw [List.length_take]; simp only [List.length_cons]; omega
      have e2 : ((p :: q :: r).drop (spl (r.length + 2))).length = r.length + 2 - spl (r.length + 2) := by rw [List.length_drop]; simp only [List.length_cons]
      show textsF f _ ++ textsF f _ ++ _ = textsF g _ ++ textsF g _ ++ _
      rw [ih _ (by rw [e1]; omega) (by rw [e1]; omega) g (by rw [e1]; omega), ih _ (by rw [e2]; omega) (by rw [e2]; omega) g (by rw [e2]; omega)]
theorem texts_nil : texts [] = [] := rfl
theorem texts_one (p : KV) : texts [p] = [leafOf p] := rfl
theorem texts_two (l : List KV) (h : 2 ≤ l.length) (h64 : l.length < 2 ^ 64) : texts l = texts (l.take (spl l.length)) ++ texts (l.drop (spl l.length)) ++ [nodeOf (tree (l.take (spl l.length))) (tree (l.drop (spl l.length)))] := by
  match l, h with
  | p :: q :: r, _ =>
    simp only [List.length_cons] at h64
    obtain ⟨s1, s2, s3⟩ := spl_pos (n := r.length + 2) (by omega) (by omega)
    have e1 : ((p :: q :: r).take (spl (r.length + 2))).length = spl (r.length + 2) := by rw [List.length_take]; simp only [List.length_cons]; omega
    have e2 : ((p :: q :: r).drop (spl (r.length + 2))).length = r.length + 2 - spl (r.length + 2) := by rw [List.length_drop]; simp only [List.length_cons]
    show textsF (r.length + 1) ((p :: q :: r).take (spl (r.length + 2))) ++ textsF (r.length + 1) ((p :: q :: r).drop (spl (r.length + 2))) ++ [nodeOf (tree ((p :: q :: r).take (spl (r.length + 2)))) (tree ((p :: q :: r).drop (spl (r.length + 2))))] = textsF _ ((p :: q :: r).take (spl (r.length + 2))) ++ textsF _ ((p :: q :: r).drop (spl (r.length + 2))) ++ [nodeOf (tree ((p :: q :: r).take (spl (r.length + 2)))) (tree ((p :: q :: r).drop (spl (r.length + 2))))]
    rw [textsF_more (r.length + 1) _ (by rw [e1]; omega) (by rw [e1]; omega) _ (Nat.le_refl _), textsF_more (r.length + 1) _ (by rw [e2]; omega) (by rw [e2]; omega) _ (Nat.le_refl _)]
    rfl
def rootOf (l : List KV) : List UInt8 := shaOf (topOf l.length (tree l))
def allOf (l : List KV) : List (List UInt8) := texts l ++ [topOf l.length (tree l)]

/-! ### Sizes -/
theorem encNum_len (n : Int) : (encNum n).1.length ≤ 8 := by
  unfold encNum
  split
  · rename_i h
    have := be_len_le n.toNat 7 (by omega)
    show (num n.toNat).length ≤ 8
    rw [num_len]
    omega
  · exact Nat.zero_le _
theorem encText_len (s : ByteArray) : (encText s).1.length ≤ 65544 := by
  unfold encText
  split
  · rename_i h
    have := be_len_le s.data.toList.length 7 (by rw [size_list]; omega)
    show (num s.data.toList.length ++ s.data.toList).length ≤ 65544
    rw [List.length_append, num_len, size_list] at *
    omega
  · exact Nat.zero_le _
theorem leafOf_len (p : KV) : (leafOf p).length ≤ 131089 := by
  have h1 := encText_len p.1
  have h2 := encText_len p.2
  unfold leafOf
  rw [List.length_cons, List.length_append]
  omega
theorem nodeOf_len (a b : List UInt8) : (nodeOf a b).length = a.length + b.length + 1 := by simp [nodeOf]
theorem topOf_len (n : Int) (t : List UInt8) : (topOf n t).length ≤ t.length + 9 := by
  have := encNum_len n
  unfold topOf
  rw [List.length_cons, List.length_append]
  omega
theorem texts_len (l : List KV) (h64 : l.length < 2 ^ 64) : (texts l).length ≤ 2 * l.length := by
  have key : ∀ n (l : List KV), l.length = n → l.length < 2 ^ 64 → (texts l).length ≤ 2 * l.length - 1 := by
    intro n
    induction n using Nat.strongRecOn with
    | _ n ih =>
      intro l hl h64
      by_cases h2 : 2 ≤ l.length
      · obtain ⟨s1, s2, s3⟩ := spl_pos h2 h64
        have e1 : (l.take (spl l.length)).length = spl l.length := by rw [List.length_take]; omega
        have e2 : (l.drop (spl l.length)).length = l.length - spl l.length := List.length_drop
        have i1 := ih _ (by omega) (l.take (spl l.length)) e1 (by omega)
        have i2 := ih _ (by omega) (l.drop (spl l.length)) e2 (by omega)
        rw [texts_two l h2 h64, List.length_append, List.length_append, List.length_singleton]
        omega
      · match l with
        | [] => simp [texts_nil]
        | [p] => simp [texts_one]
        | p :: q :: r => simp at h2
  have := key _ l rfl h64
  omega

/-! ### What is laid can be told apart -/
theorem num_inj {n m : Nat} {x y : List UInt8} (hn : n ≤ 9007199254740992) (hm : m ≤ 9007199254740992) (h : num n ++ x = num m ++ y) : n = m ∧ x = y := by
  have l1 := be_len_le n 7 (by omega)
  have l2 := be_len_le m 7 (by omega)
  simp only [num, List.cons_append, List.cons.injEq] at h
  obtain ⟨h1, h2⟩ := h
  have h3 : (be n).length = (be m).length := by
    have := congrArg UInt8.toNat h1
    rwa [toNat_ofNat (by omega), toNat_ofNat (by omega)] at this
  obtain ⟨h4, h5⟩ := List.append_inj h2 h3
  exact ⟨by rw [← val_be n, ← val_be m, h4], h5⟩
theorem text_inj {a b x y : List UInt8} (ha : a.length ≤ 65536) (hb : b.length ≤ 65536) (h : text a ++ x = text b ++ y) : a = b ∧ x = y := by
  unfold text at h
  rw [List.append_assoc, List.append_assoc] at h
  obtain ⟨h1, h2⟩ := num_inj (by omega) (by omega) h
  exact List.append_inj h2 h1
theorem encText_small {s : ByteArray} (h : s.size ≤ 65536) : (encText s).1 = text s.data.toList := by simp [encText, h]
theorem leafOf_inj {p q : KV} (h1 : p.1.size ≤ 200) (h2 : p.2.size ≤ 200) (h3 : q.1.size ≤ 200) (h4 : q.2.size ≤ 200) (h : leafOf p = leafOf q) : p = q := by
  unfold leafOf at h
  rw [encText_small (by omega), encText_small (by omega), encText_small (by omega), encText_small (by omega)] at h
  simp only [List.cons.injEq, true_and] at h
  obtain ⟨a1, a2⟩ := text_inj (by rw [size_list]; omega) (by rw [size_list]; omega) h
  rw [← List.append_nil (text p.2.data.toList), ← List.append_nil (text q.2.data.toList)] at a2
  obtain ⟨a3, _⟩ := text_inj (by rw [size_list]; omega) (by rw [size_list]; omega) a2
  exact Prod.ext (by rw [← bs_of p.1, ← bs_of q.1, a1]) (by rw [← bs_of p.2, ← bs_of q.2, a3])
/-- no two texts of the list have one hash -/
def Apart (L : List (List UInt8)) : Prop := ∀ x ∈ L, ∀ y ∈ L, shaOf x = shaOf y → x = y
abbrev Short (l : List KV) : Prop := ∀ p ∈ l, p.1.size ≤ 200 ∧ p.2.size ≤ 200
theorem tree_apart (L : List (List UInt8)) (hL : Apart L) : ∀ (n : Nat) (l m : List KV), l.length = n → m.length = n → n < 2 ^ 64 → Short l → Short m → (∀ x ∈ texts l, x ∈ L) → (∀ x ∈ texts m, x ∈ L) → tree l = tree m → l = m := by
  intro n
  induction n using Nat.strongRecOn with
  | _ n ih =>
    intro l m hl hm h64 sl sm il im h
    by_cases h2 : 2 ≤ n
    · have t1 := tree_two l (by omega) (by omega)
      have t2 := tree_two m (by omega) (by omega)
      have x1 := texts_two l (by omega) (by omega)
      have x2 := texts_two m (by omega) (by omega)
      rw [hl] at t1 x1
      rw [hm] at t2 x2
      obtain ⟨s1, s2, s3⟩ := spl_pos h2 h64
      have e1 : (l.take (spl n)).length = spl n := by rw [List.length_take]; omega
      have e2 : (l.drop (spl n)).length = n - spl n := by rw [List.length_drop, hl]
      have e3 : (m.take (spl n)).length = spl n := by rw [List.length_take]; omega
      have e4 : (m.drop (spl n)).length = n - spl n := by rw [List.length_drop, hm]
      rw [t1, t2] at h
      have hx := hL _ (il _ (by rw [x1]; simp)) _ (im _ (by rw [x2]; simp)) h
      simp only [nodeOf, List.cons.injEq, true_and] at hx
      have l1 : (tree (l.take (spl n))).length = 32 := tree_len _ (by intro e; rw [e] at e1; simp at e1; omega) (by omega)
      have l2 : (tree (m.take (spl n))).length = 32 := tree_len _ (by intro e; rw [e] at e3; simp at e3; omega) (by omega)
      obtain ⟨y1, y2⟩ := List.append_inj hx (by rw [l1, l2])
      have r1 := ih (spl n) (by omega) _ _ e1 e3 (by omega) (fun p hp => sl p (List.mem_of_mem_take hp)) (fun p hp => sm p (List.mem_of_mem_take hp)) (fun x hx => il x (by rw [x1]; simp [hx])) (fun x hx => im x (by rw [x2]; simp [hx])) y1
      have r2 := ih (n - spl n) (by omega) _ _ e2 e4 (by omega) (fun p hp => sl p (List.mem_of_mem_drop hp)) (fun p hp => sm p (List.mem_of_mem_drop hp)) (fun x hx => il x (by rw [x1]; simp [hx])) (fun x hx => im x (by rw [x2]; simp [hx])) y2
      rw [← List.take_append_drop (spl n) l, ← List.take_append_drop (spl n) m, r1, r2]
    · match l, m with
      | [], [] => rfl
      | [p], [q] =>
        rw [tree_one, tree_one] at h
        have hx := hL _ (il _ (by rw [texts_one]; simp)) _ (im _ (by rw [texts_one]; simp)) h
        have k1 := sl p (by simp)
        have k2 := sm q (by simp)
        rw [leafOf_inj k1.1 k1.2 k2.1 k2.2 hx]
      | [], _ :: _ => simp at hl hm; omega
      | _ :: _, [] => simp at hl hm; omega
      | [_], _ :: _ :: _ => simp at hl hm; omega
      | _ :: _ :: _, _ => simp at hl; omega
theorem root_apart (l m : List KV) (hl : l.length ≤ 9007199254740992) (hm : m.length ≤ 9007199254740992) (sl : Short l) (sm : Short m) (hL : Apart (allOf l ++ allOf m)) (h : rootOf l = rootOf m) : l = m := by
  have hx := hL _ (by simp [allOf]) _ (by simp [allOf]) h
  simp only [topOf, List.cons.injEq, true_and] at hx
  have e : ∀ n : Nat, n ≤ 9007199254740992 → (encNum n).1 = num n := fun n hn => by
    unfold encNum
    rw [if_pos ⟨by omega, by omega⟩, Int.toNat_natCast]
  rw [e _ hl, e _ hm] at hx
  obtain ⟨h1, h2⟩ := num_inj hl hm hx
  exact tree_apart _ hL l.length l m rfl h1.symm (by omega) sl sm (fun x hx => by simp [allOf, hx]) (fun x hx => by simp [allOf, hx]) h2
end Go.Proofs.YtbfpepiglcikbaaDoor.W
