/-
  Reading undoes laying, and laying undoes reading: plain mathematics.
-/
import Derived.Test.YtdjljpkoodonjaaWState
import Derived.Test.YtdjljpkoodonjaaWJoin
namespace Go.Proofs.Ytdjljpkoodonjaa.W

theorem dec_num (n : Nat) (hn : n ≤ 9007199254740992) (t : List UInt8) : dec (num n ++ t) = (n, (num n).length, 0) := by
  have hl := be_len_le n 7 (by omega)
  have hk : (UInt8.ofNat (be n).length).toNat = (be n).length := toNat_ofNat (by omega)
  show dec (UInt8.ofNat (be n).length :: (be n ++ t)) = _
  rw [dec, hk, if_neg (by omega), if_neg, if_neg (by rw [List.length_append]; omega), List.take_left, val_be, if_neg (by omega), num_len, Nat.add_comm]
  rintro ⟨hp, hh⟩
  have hne : be n ≠ [] := by intro e; rw [e] at hp; simp at hp
  rw [head_app hne] at hh
  exact be_head n hh
theorem num_of_dec (l : List UInt8) (h : (dec l).2.2 = 0) : l = num (dec l).1 ++ l.drop (dec l).2.1 ∧ (dec l).1 ≤ 9007199254740992 ∧ (dec l).2.1 = (num (dec l).1).length := by
  cases l with
  | nil => simp [dec] at h
  | cons k d =>
    rw [dec] at h ⊢
    by_cases h1 : 7 < k.toNat
    · rw [if_pos h1] at h; simp at h
    · rw [if_neg h1] at h ⊢
      by_cases h2 : 0 < k.toNat ∧ d.head? = some 0
      · rw [if_pos h2] at h; simp at h
      · rw [if_neg h2] at h ⊢
        by_cases h3 : d.length < k.toNat
        · rw [if_pos h3] at h; simp at h
        · rw [if_neg h3] at h ⊢
          by_cases h4 : 9007199254740992 < val (d.take k.toNat)
          · rw [if_pos h4] at h; simp at h
          · rw [if_neg h4]
            simp only
            have hh : (d.take k.toNat).head? ≠ some 0 := by
              intro e
              apply h2
              cases d with
              | nil => simp at e
              | cons x r =>
                cases hk : k.toNat with
                | zero => rw [hk] at e; simp at e
                | succ j => rw [hk] at e; exact ⟨by omega, by simpa using e⟩
            have hb := be_val _ hh
            have hlen : (d.take k.toNat).length = k.toNat := by rw [List.length_take]; omega
            refine ⟨?_, by omega, ?_⟩
            · unfold num
              rw [hb, hlen, UInt8.ofNat_toNat, show 1 + k.toNat = k.toNat + 1 by omega, List.drop_succ_cons, List.cons_append, List.take_append_drop]
            · rw [num_len, hb, hlen]; omega

theorem drop_all (s : ByteArray) (k : Nat) : (s.extract k s.size).data.toList = s.data.toList.drop k := by
  rw [ex_list, List.take_of_length_le (by rw [List.length_drop, size_list]; omega)]

/-- a number is read back -/
theorem stNum_back (n : Nat) (hn : n ≤ 9007199254740992) (t : List UInt8) : stNum (bs (num n ++ t)) 0 = ((bs t, 0), n) := by
  have hd := dec_num n hn t
  have e : (bs (num n ++ t)).extract (num n).length (bs (num n ++ t)).size = bs t := by
    rw [← bs_of ((bs (num n ++ t)).extract _ _), drop_all, bs_data, List.drop_left]
  simp [stNum, bs_data, hd, e]
theorem num_of_st (s : ByteArray) (h : (stNum s 0).1.2 = 0) : s.data.toList = num (stNum s 0).2 ++ (stNum s 0).1.1.data.toList ∧ (stNum s 0).2 ≤ 9007199254740992 := by
  unfold stNum at h ⊢
  simp only [ne_eq, not_true_eq_false, if_false] at h ⊢
  by_cases hd : (dec s.data.toList).2.2 = 0
  · simp only [hd, not_true_eq_false, if_false] at h ⊢
    obtain ⟨h1, h2, _⟩ := num_of_dec s.data.toList hd
    rw [drop_all]
    exact ⟨h1, h2⟩
  · simp only [hd, not_false_eq_true, if_true] at h

theorem stText_back (x : List UInt8) (hx : x.length ≤ 65536) (t : List UInt8) : stText (bs (text x ++ t)) 0 = ((bs t, 0), bs x) := by
  have hn : stNum (bs (text x ++ t)) 0 = ((bs (x ++ t), 0), x.length) := by
    unfold text
    rw [List.append_assoc]
    exact stNum_back x.length (by omega) (x ++ t)
  have hl : stLen (bs (text x ++ t)) 0 65536 = ((bs (x ++ t), 0), x.length) := by
    unfold stLen
    rw [hn, if_neg (by simp only; omega)]
  have e1 : (bs (x ++ t)).extract x.length (bs (x ++ t)).size = bs t := by
    rw [← bs_of ((bs (x ++ t)).extract _ _), drop_all, bs_data, List.drop_left]
  have e2 : (bs (x ++ t)).extract 0 x.length = bs x := by
    rw [← bs_of ((bs (x ++ t)).extract _ _), take_of, bs_data, List.take_left]
  unfold stText
  simp only [hl, ne_eq, not_true_eq_false, if_false]
  rw [if_neg (by rw [bs_size, List.length_append]; omega), e1, e2]
theorem text_of_st (s : ByteArray) (h : (stText s 0).1.2 = 0) : s.data.toList = text (stText s 0).2.data.toList ++ (stText s 0).1.1.data.toList ∧ (stText s 0).2.size ≤ 65536 := by
  have hf := stText_facts s 0
  refine ⟨?_, hf.2⟩
  unfold stText at h ⊢
  simp only at h ⊢
  by_cases h1 : (stLen s 0 65536).1.2 = 0
  · simp only [h1, ne_eq, not_true_eq_false, if_false] at h ⊢
    by_cases h2 : (stLen s 0 65536).1.1.size < (stLen s 0 65536).2
    · rw [if_pos h2] at h; simp at h
    · rw [if_neg h2]
      simp only
      have hL : stLen s 0 65536 = stNum s 0 := by
        unfold stLen at h1 ⊢
        by_cases hm : 65536 < (stNum s 0).2
        · rw [if_pos hm] at h1; simp at h1
        · rw [if_neg hm]
      rw [hL] at h1 h2 ⊢
      obtain ⟨e, hb⟩ := num_of_st s h1
      unfold text
      rw [take_of, drop_all, List.length_take, size_list, Nat.min_eq_left (by omega), List.append_assoc, List.take_append_drop]
      exact e
  · simp only [h1, ne_eq, not_false_eq_true, if_true] at h

theorem stDone_zero (s : ByteArray) (h : stDone s 0 = 0) : s = bs [] := by
  unfold stDone at h
  simp only [ne_eq, not_true_eq_false, if_false] at h
  by_cases hs : s.size = 0
  · rw [← bs_of s, List.eq_nil_of_length_eq_zero (show s.data.toList.length = 0 by rw [size_list]; exact hs)]
  · rw [if_neg hs] at h; simp at h

/-- the texts of a list, one behind the other -/
def cat (l : List ByteArray) : List UInt8 := (l.map fun s => text s.data.toList).flatten
theorem cat_cons (x : ByteArray) (l : List ByteArray) : cat (x :: l) = text x.data.toList ++ cat l := by simp [cat]
theorem join_cat (l : List ByteArray) : join (l.map fun s => s.data.toList) = num l.length ++ cat l := by
  unfold join cat
  rw [List.length_map, List.map_map]
  rfl
theorem listFrom_back (l : List ByteArray) (hl : ∀ s ∈ l, s.size ≤ 65536) (t : List UInt8) : ∀ acc, listFrom l.length (bs (cat l ++ t)) acc = ((bs t, 0), acc ++ l) := by
  induction l with
  | nil => intro acc; simp [listFrom, cat]
  | cons x l ih =>
    intro acc
    have hx := stText_back x.data.toList (by rw [size_list]; exact hl x (by simp)) (cat l ++ t)
    rw [cat_cons, List.append_assoc, List.length_cons, listFrom, hx]
    simp only [ne_eq, not_true_eq_false, if_false]
    rw [ih (fun s hs => hl s (by simp [hs])) (acc ++ [bs x.data.toList]), bs_of]
    simp
theorem cat_of_from : ∀ (k : Nat) (s : ByteArray) (acc : List ByteArray), (listFrom k s acc).1.2 = 0 → ∃ l : List ByteArray, (listFrom k s acc).2 = acc ++ l ∧ l.length = k ∧ (∀ x ∈ l, x.size ≤ 65536) ∧ s.data.toList = cat l ++ (listFrom k s acc).1.1.data.toList
  | 0, s, acc, _ => ⟨[], by simp [listFrom], rfl, by simp, by simp [listFrom, cat]⟩
  | k + 1, s, acc, h => by
    rw [listFrom] at h ⊢
    by_cases he : (stText s 0).1.2 = 0
    · simp only [he, ne_eq, not_true_eq_false, if_false] at h ⊢
      obtain ⟨e, hx⟩ := text_of_st s he
      obtain ⟨l, h1, h2, h3, h4⟩ := cat_of_from k _ _ h
      refine ⟨(stText s 0).2 :: l, by rw [h1]; simp, by simp [h2], ?_, ?_⟩
      · intro x hm
        cases List.mem_cons.1 hm with
        | inl e' => rw [e']; exact hx
        | inr e' => exact h3 x e'
      · rw [cat_cons, List.append_assoc, ← h4]
        exact e
    · simp only [he, ne_eq, not_false_eq_true, if_true] at h
theorem stList_back (l : List ByteArray) (hn : l.length ≤ 256) (hl : ∀ s ∈ l, s.size ≤ 65536) (t : List UInt8) : stList (bs (num l.length ++ cat l ++ t)) 0 = ((bs t, 0), l) := by
  have h1 : stNum (bs (num l.length ++ cat l ++ t)) 0 = ((bs (cat l ++ t), 0), l.length) := by
    rw [List.append_assoc]
    exact stNum_back l.length (by omega) (cat l ++ t)
  have h2 : stLen (bs (num l.length ++ cat l ++ t)) 0 256 = ((bs (cat l ++ t), 0), l.length) := by
    unfold stLen
    rw [h1, if_neg (by simp only; omega)]
  unfold stList
  simp only [h2, ne_eq, not_true_eq_false, if_false]
  rw [listFrom_back l hl t []]
  simp
theorem stLen_ok (s : ByteArray) (m : Nat) (h : (stLen s 0 m).1.2 = 0) : stLen s 0 m = stNum s 0 ∧ (stNum s 0).2 ≤ m := by
  unfold stLen at h ⊢
  by_cases hm : m < (stNum s 0).2
  · rw [if_pos hm] at h; simp at h
  · rw [if_neg hm]; exact ⟨rfl, by omega⟩
theorem list_of_st (s : ByteArray) (h : (stList s 0).1.2 = 0) : s.data.toList = num (stList s 0).2.length ++ cat (stList s 0).2 ++ (stList s 0).1.1.data.toList ∧ (stList s 0).2.length ≤ 256 ∧ ∀ x ∈ (stList s 0).2, x.size ≤ 65536 := by
  unfold stList at h ⊢
  simp only at h ⊢
  by_cases h1 : (stLen s 0 256).1.2 = 0
  · obtain ⟨hL, hm⟩ := stLen_ok s 256 h1
    rw [hL] at h1 h ⊢
    simp only [h1, ne_eq, not_true_eq_false, if_false] at h ⊢
    obtain ⟨e, _⟩ := num_of_st s h1
    obtain ⟨l, h2, h3, h4, h5⟩ := cat_of_from _ _ _ h
    rw [h2, List.nil_append, h3]
    refine ⟨?_, by omega, h4⟩
    rw [List.append_assoc, ← h5]
    exact e
  · simp only [h1, ne_eq, not_false_eq_true, if_true] at h
/-- the list's length, whatever the bytes -/
theorem listFrom_len : ∀ (k : Nat) (s : ByteArray) (acc : List ByteArray), (listFrom k s acc).2.length ≤ acc.length + k
  | 0, s, acc => by simp [listFrom]
  | k + 1, s, acc => by
    rw [listFrom]
    split
    · simp
    · have := listFrom_len k (stText s 0).1.1 (acc ++ [(stText s 0).2])
      rw [List.length_append, List.length_singleton] at this
      omega
theorem stList_len (s : ByteArray) (e : Int) : (stList s e).2.length ≤ 256 := by
  unfold stList
  simp only
  split
  · simp
  · have h1 := listFrom_len (stLen s e 256).2 (stLen s e 256).1.1 []
    have h2 := stLen_facts s e 256
    simp only [List.length_nil] at h1
    omega
end Go.Proofs.Ytdjljpkoodonjaa.W
