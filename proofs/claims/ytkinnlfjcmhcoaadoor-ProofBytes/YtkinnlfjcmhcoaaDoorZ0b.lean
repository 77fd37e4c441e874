/-
  Texts of one level, merged: WJoin, WBack, TPrs, CLess, TRef, XPf.
-/
import Derived.Maps.OwnIn
import Derived.Maps.AppendAt
import Derived.Laws.AppendOwn
import Derived.Lib.Hide
import Derived.WalkKit
import Derived.IntWalk
import Derived.Deep.LoopGhost
import Derived.Test.YtkinnlfjcmhcoaaDoorZ0a
/-
  wire.Join: what it answers, for every list of strings; nothing that was there has turned.
-/
namespace Go.Proofs.YtkinnlfjcmhcoaaDoor.W
open Go.RowKit

/-- what is laid behind k rounds -/
def jpart (ss : List ByteArray) (k : Nat) : List UInt8 := num ss.length ++ ((ss.take k).map fun s => text s.data.toList).flatten
def Good (ss : List ByteArray) (k : Nat) : Prop := ∀ i (h : i < ss.length), i < k → ss[i].size ≤ 65536
theorem jpart_zero (ss : List ByteArray) : jpart ss 0 = num ss.length := by simp [jpart]
theorem jpart_succ (ss : List ByteArray) (k : Nat) (h : k < ss.length) : jpart ss (k + 1) = jpart ss k ++ text ss[k].data.toList := by
  unfold jpart
  rw [List.take_succ_eq_append_getElem h, List.map_append, List.flatten_append, List.append_assoc]
  simp
theorem text_len (s : ByteArray) (h : s.size ≤ 65536) : (text s.data.toList).length ≤ 65600 := by
  unfold text
  rw [List.length_append, num_len, size_list]
  have := be_len_le s.size 7 (by omega)
  omega
theorem jpart_len (ss : List ByteArray) (hl : ss.length ≤ 256) : ∀ k, k ≤ ss.length → Good ss k → (jpart ss k).length ≤ 8 + 65600 * k := by
  intro k
  induction k with
  | zero =>
    intro _ _
    rw [jpart_zero, num_len]
    have := be_len_le ss.length 7 (by omega)
    omega
  | succ k ih =>
    intro hk hg
    have h1 := ih (by omega) (fun i h hi => hg i h (by omega))
    have h2 := text_len ss[k] (hg k (by omega) (by omega))
    rw [jpart_succ ss k (by omega), List.length_append]
    omega
theorem Good.succ {ss : List ByteArray} {k : Nat} (hg : Good ss k) (h : k < ss.length) (hs : ss[k].size ≤ 65536) : Good ss (k + 1) := by
  intro i hi hlt
  by_cases e : i = k
  · subst e; exact hs
  · exact hg i hi (by omega)
theorem encJoin_bad {ss : List ByteArray} {k : Nat} (h : k < ss.length) (hs : ¬ ss[k].size ≤ 65536) : encJoin ss = ([], 4) := by
  unfold encJoin
  rw [if_neg]
  rintro ⟨_, ha⟩
  exact hs (ha _ (List.getElem_mem h))
theorem encJoin_ok {ss : List ByteArray} (hl : ss.length ≤ 256) (hg : Good ss ss.length) : encJoin ss = (jpart ss ss.length, 0) := by
  unfold encJoin
  rw [if_pos]
  · simp [jpart, join, Function.comp_def]
  · refine ⟨hl, fun s hs => ?_⟩
    obtain ⟨i, hi, rfl⟩ := List.getElem_of_mem hs
    exact hg i hi hi

theorem own_start {B : Nat} {e : TypeId} {v : Value} {ss : List ByteArray} {W0 w : World} (h : Lib.OwnBuf B e v (0 + (num ss.length).length) ([] ++ cells (num ss.length)) W0 w) :
    Lib.OwnBuf B e v (jpart ss 0).length (cells (jpart ss 0)) W0 w := by
  rw [jpart_zero]
  simpa using h
theorem own_step {B k : Nat} {e : TypeId} {v : Value} {ss : List ByteArray} {W0 w : World} (hk : k < ss.length)
    (h : Lib.OwnBuf B e v ((jpart ss k).length + (text ss[k].data.toList).length) (cells (jpart ss k) ++ cells (text ss[k].data.toList)) W0 w) :
    Lib.OwnBuf B e v (jpart ss (k + 1)).length (cells (jpart ss (k + 1))) W0 w := by
  rw [jpart_succ ss k hk, List.length_append, cells_append]
  exact h

set_option maxHeartbeats 1000000 in
set_option maxRecDepth 100000 in
theorem wJoin (v : Value) (ss : List ByteArray) (w : World) (hv : Txs w w.heap.size v ss) (hm : ss.length ≤ 9223372036854775807) :
    Calls Tryd.prog 45 #[v] w fun e w' => e = .returned (retSE (encJoin ss)) ∧ Below w.heap.size w w' := by
  obtain ⟨A, cap, rfl, hc⟩ := hv
  have HCell := Lib.hid hc
  clear hc
  by_cases hl : ss.length ≤ 256
  · have HA := Lib.hid (appendNum w.heap.size (.slice none 0 0) 0 [] ss.length w w (OwnBuf_nil w _) (by omega) (by omega))
    go_enter Tryd.func45, Tryd.ntmps45
    go_wp2_with fail
    refine HA.out.mono ?_
    rintro e w1 ⟨v1, rfl, h2⟩
    have h3 := Lib.hid (own_start h2)
    clear h2
    go_wp2
    go_loopw [4, 15] (fun v i wr => ∃ k : Nat, k ≤ ss.length ∧ i = .int .i64 k ∧ Good ss k ∧ Lib.OwnBuf w.heap.size 5 v (jpart ss k).length (cells (jpart ss k)) w wr) (fun _ i _ => ss.length - (intOf i).toNat)
    case atStart => exact ⟨0, Nat.zero_le _, rfl, fun i h hi => absurd hi (by omega), h3.out⟩
    case round =>
      obtain ⟨k, hk, rfl, hg, hown⟩ := hrel
      by_cases hlt : k < ss.length
      · obtain ⟨b, off, rfl, hb, hcw⟩ := HCell.out k hlt
        have hcell : wr.cell? ⟨b, off + k, none⟩ = some (.string ss[k]) := (hown.2.1.cell (p := ⟨b, off + k, none⟩) hb).trans hcw
        clear hcw
        by_cases hs : ss[k].size ≤ 65536
        · have hjl := jpart_len ss hl k hk hg
          have HT := Lib.hid (appendText w.heap.size u4 _ _ ss[k] w wr hown (by omega) hs)
          go_wp2_with fail
          refine HT.out.mono ?_
          rintro e w2 ⟨v2, rfl, h4⟩
          have R := own_step hlt h4
          clear h4 hown hcell
          go_wp2
          go_roundw
          case rel => exact ⟨k + 1, by omega, by go_num, hg.succ hlt hs, R⟩
          case measure => simp [intOf]; omega
        · have HE := Lib.hid (encJoin_bad hlt hs)
          go_wp2
          go_ret2
          exact ⟨by rw [HE.out]; rfl, hown.2.1⟩
      · obtain rfl : k = ss.length := by omega
        have HE := Lib.hid (encJoin_ok hl hg)
        have hs := run_string w.heap.size u4 _ w wr hown
        go_wp2
        go_ret2
        exact ⟨by rw [HE.out]; rfl, hown.2.1⟩
  · have HE := Lib.hid (show encJoin ss = ([], 4) by simp [encJoin, hl])
    go_enter Tryd.func45, Tryd.ntmps45
    go_wp2
    go_ret2
    exact ⟨by rw [HE.out]; rfl, Below.refl _ _⟩
end Go.Proofs.YtkinnlfjcmhcoaaDoor.W
/-
  Reading undoes laying, and laying undoes reading: plain mathematics.
-/
namespace Go.Proofs.YtkinnlfjcmhcoaaDoor.W

theorem dec_num (n : Nat) (hn : n ≤ 9007199254740992) (t : List UInt8) : dec (num n ++ t) = (n, (num n).length, 0) := by
  have hl := be_len_le n 7 (by omega)
  have hk : (UInt8.ofNat (be n).length).toNat = (be n).length := toNat_ofNat (by omega)
  show dec (UInt8.ofNat (be n).length :: (be n ++ t)) = _
  rw [dec, hk, if_neg (by omega), if_neg, if_neg (by rw [List.length_append]; omega), List.take_left, val_be, if_neg (by omega), num_len, Nat.add_comm]
  rintro ⟨hp, hh⟩
  have hne : be n ≠ [] := by intro e; rw [e] at hp; simp at hp
  rw [head_app hne] at hh
  exact be_head n hh
theorem num_of_dec (l : List UInt8) (h : (dec l).2.2 = 0) : l = num (dec l).1 ++ l.drop (dec l).2.1 ∧ (dec l).1 ≤ 9007199254740992 ∧ (dec l).2.1 = (num (dec l).1).length := by
  cases l with
  | nil => simp [dec] at h
  | cons k d =>
    rw [dec] at h ⊢
    by_cases h1 : 7 < k.toNat
    · rw [if_pos h1] at h; simp at h
    · rw [if_neg h1] at h ⊢
      by_cases h2 : 0 < k.toNat ∧ d.head? = some 0
      · rw [if_pos h2] at h; simp at h
      · rw [if_neg h2] at h ⊢
        by_cases h3 : d.length < k.toNat
        · rw [if_pos h3] at h; simp at h
        · rw [if_neg h3] at h ⊢
          by_cases h4 : 9007199254740992 < val (d.take k.toNat)
          · rw [if_pos h4] at h; simp at h
          · rw [if_neg h4]
            simp only
            have hh : (d.take k.toNat).head? ≠ some 0 := by
              intro e
              apply h2
              cases d with
              | nil => simp at e
              | cons x r =>
                cases hk : k.toNat with
                | zero => rw [hk] at e; simp at e
                | succ j => rw [hk] at e; exact ⟨by omega, by simpa using e⟩
            have hb := be_val _ hh
            have hlen : (d.take k.toNat).length = k.toNat := by rw [List.length_take]; omega
            refine ⟨?_, by omega, ?_⟩
            · unfold num
              rw [hb, hlen, UInt8.ofNat_toNat, show 1 + k.toNat = k.toNat + 1 by omega, List.drop_succ_cons, List.cons_append, List.take_append_drop]
            · rw [num_len, hb, hlen]; omega

theorem drop_all (s : ByteArray) (k : Nat) : (s.extract k s.size).data.toList = s.data.toList.drop k := by
  rw [ex_list, List.take_of_length_le (by rw [List.length_drop, size_list]; omega)]

/-- a number is read back -/
theorem stNum_back (n : Nat) (hn : n ≤ 9007199254740992) (t : List UInt8) : stNum (bs (num n ++ t)) 0 = ((bs t, 0), n) := by
  have hd := dec_num n hn t
  have e : (bs (num n ++ t)).extract (num n).length (bs (num n ++ t)).size = bs t := by
    rw [← bs_of ((bs (num n ++ t)).extract _ _), drop_all, bs_data, List.drop_left]
  simp [stNum, bs_data, hd, e]
theorem num_of_st (s : ByteArray) (h : (stNum s 0).1.2 = 0) : s.data.toList = num (stNum s 0).2 ++ (stNum s 0).1.1.data.toList ∧ (stNum s 0).2 ≤ 9007199254740992 := by
  unfold stNum at h ⊢
  simp only [ne_eq, not_true_eq_false, if_false] at h ⊢
  by_cases hd : (dec s.data.toList).2.2 = 0
  · simp only [hd, not_true_eq_false, if_false] at h ⊢
    obtain ⟨h1, h2, _⟩ := num_of_dec s.data.toList hd
    rw [drop_all]
    exact ⟨h1, h2⟩
  · simp only [hd, not_false_eq_true, if_true] at h

theorem stText_back (x : List UInt8) (hx : x.length ≤ 65536) (t : List UInt8) : stText (bs (text x ++ t)) 0 = ((bs t, 0), bs x) := by
  have hn : stNum (bs (text x ++ t)) 0 = ((bs (x ++ t), 0), x.length) := by
    unfold text
    rw [List.append_assoc]
    exact stNum_back x.length (by omega) (x ++ t)
  have hl : stLen (bs (text x ++ t)) 0 65536 = ((bs (x ++ t), 0), x.length) := by
    unfold stLen
    rw [hn, if_neg (by simp only; omega)]
  have e1 : (bs (x ++ t)).extract x.length (bs (x ++ t)).size = bs t := by
    rw [← bs_of ((bs (x ++ t)).extract _ _), drop_all, bs_data, List.drop_left]
  have e2 : (bs (x ++ t)).extract 0 x.length = bs x := by
    rw [← bs_of ((bs (x ++ t)).extract _ _), take_of, bs_data, List.take_left]
  unfold stText
  simp only [hl, ne_eq, not_true_eq_false, if_false]
  rw [if_neg (by rw [bs_size, List.length_append]; omega), e1, e2]
theorem text_of_st (s : ByteArray) (h : (stText s 0).1.2 = 0) : s.data.toList = text (stText s 0).2.data.toList ++ (stText s 0).1.1.data.toList ∧ (stText s 0).2.size ≤ 65536 := by
  have hf := stText_facts s 0
  refine ⟨?_, hf.2⟩
  unfold stText at h ⊢
  simp only at h ⊢
  by_cases h1 : (stLen s 0 65536).1.2 = 0
  · simp only [h1, ne_eq, not_true_eq_false, if_false] at h ⊢
    by_cases h2 : (stLen s 0 65536).1.1.size < (stLen s 0 65536).2
    · rw [if_pos h2] at h; simp at h
    · rw [if_neg h2]
      simp only
      have hL : stLen s 0 65536 = stNum s 0 := by
        unfold stLen at h1 ⊢
        by_cases hm : 65536 < (stNum s 0).2
        · rw [if_pos hm] at h1; simp at h1
        · rw [if_neg hm]
      rw [hL] at h1 h2 ⊢
      obtain ⟨e, hb⟩ := num_of_st s h1
      unfold text
      rw [take_of, drop_all, List.length_take, size_list, Nat.min_eq_left (by omega), List.append_assoc, List.take_append_drop]
      exact e
  · simp only [h1, ne_eq, not_false_eq_true, if_true] at h

theorem stDone_zero (s : ByteArray) (h : stDone s 0 = 0) : s = bs [] := by
  unfold stDone at h
  simp only [ne_eq, not_true_eq_false, if_false] at h
  by_cases hs : s.size = 0
  · rw [← bs_of s, List.eq_nil_of_length_eq_zero (show s.data.toList.length = 0 by rw [size_list]; exact hs)]
  · rw [if_neg hs] at h; simp at h

/-- the texts of a list, one behind the other -/
def cat (l : List ByteArray) : List UInt8 := (l.map fun s => text s.data.toList).flatten
theorem cat_cons (x : ByteArray) (l : List ByteArray) : cat (x :: l) = text x.data.toList ++ cat l := by simp [cat]
theorem join_cat (l : List ByteArray) : join (l.map fun s => s.data.toList) = num l.length ++ cat l := by
  unfold join cat
  rw [List.length_map, List.map_map]
  rfl
theorem listFrom_back (l : List ByteArray) (hl : ∀ s ∈ l, s.size ≤ 65536) (t : List UInt8) : ∀ acc, listFrom l.length (bs (cat l ++ t)) acc = ((bs t, 0), acc ++ l) := by
  induction l with
  | nil => intro acc; simp [listFrom, cat]
  | cons x l ih =>
    intro acc
    have hx := stText_back x.data.toList (by rw [size_list]; exact hl x (by simp)) (cat l ++ t)
    rw [cat_cons, List.append_assoc, List.length_cons, listFrom, hx]
    simp only [ne_eq, not_true_eq_false, if_false]
    rw [ih (fun s hs => hl s (by simp [hs])) (acc ++ [bs x.data.toList]), bs_of]
    simp
theorem cat_of_from : ∀ (k : Nat) (s : ByteArray) (acc : List ByteArray), (listFrom k s acc).1.2 = 0 → ∃ l : List ByteArray, (listFrom k s acc).2 = acc ++ l ∧ l.length = k ∧ (∀ x ∈ l, x.size ≤ 65536) ∧ s.data.toList = cat l ++ (listFrom k s acc).1.1.data.toList
  | 0, s, acc, _ => ⟨[], by simp [listFrom], rfl, by simp, by simp [listFrom, cat]⟩
  | k + 1, s, acc, h => by
    rw [listFrom] at h ⊢
    by_cases he : (stText s 0).1.2 = 0
    · simp only [he, ne_eq, not_true_eq_false, if_false] at h ⊢
      obtain ⟨e, hx⟩ := text_of_st s he
      obtain ⟨l, h1, h2, h3, h4⟩ := cat_of_from k _ _ h
      refine ⟨(stText s 0).2 :: l, by rw [h1]; simp, by simp [h2], ?_, ?_⟩
      · intro x hm
        cases List.mem_cons.1 hm with
        | inl e' => rw [e']; exact hx
        | inr e' => exact h3 x e'
      · rw [cat_cons, List.append_assoc, ← h4]
        exact e
    · simp only [he, ne_eq, not_false_eq_true, if_true] at h
theorem stList_back (l : List ByteArray) (hn : l.length ≤ 256) (hl : ∀ s ∈ l, s.size ≤ 65536) (t : List UInt8) : stList (bs (num l.length ++ cat l ++ t)) 0 = ((bs t, 0), l) := by
  have h1 : stNum (bs (num l.length ++ cat l ++ t)) 0 = ((bs (cat l ++ t), 0), l.length) := by
    rw [List.append_assoc]
    exact stNum_back l.length (by omega) (cat l ++ t)
  have h2 : stLen (bs (num l.length ++ cat l ++ t)) 0 256 = ((bs (cat l ++ t), 0), l.length) := by
    unfold stLen
    rw [h1, if_neg (by simp only; omega)]
  unfold stList
  simp only [h2, ne_eq, not_true_eq_false, if_false]
  rw [listFrom_back l hl t []]
  simp
theorem stLen_ok (s : ByteArray) (m : Nat) (h : (stLen s 0 m).1.2 = 0) : stLen s 0 m = stNum s 0 ∧ (stNum s 0).2 ≤ m := by
  unfold stLen at h ⊢
  by_cases hm : m < (stNum s 0).2
  · rw [if_pos hm] at h; simp at h
  · rw [if_neg hm]; exact ⟨rfl, by omega⟩
theorem list_of_st (s : ByteArray) (h : (stList s 0).1.2 = 0) : s.data.toList = num (stList s 0).2.length ++ cat (stList s 0).2 ++ (stList s 0).1.1.data.toList ∧ (stList s 0).2.length ≤ 256 ∧ ∀ x ∈ (stList s 0).2, x.size ≤ 65536 := by
  unfold stList at h ⊢
  simp only at h ⊢
  by_cases h1 : (stLen s 0 256).1.2 = 0
  · obtain ⟨hL, hm⟩ := stLen_ok s 256 h1
    rw [hL] at h1 h ⊢
    simp only [h1, ne_eq, not_true_eq_false, if_false] at h ⊢
    obtain ⟨e, _⟩ := num_of_st s h1
    obtain ⟨l, h2, h3, h4, h5⟩ := cat_of_from _ _ _ h
    rw [h2, List.nil_append, h3]
    refine ⟨?_, by omega, h4⟩
    rw [List.append_assoc, ← h5]
    exact e
  · simp only [h1, ne_eq, not_false_eq_true, if_true] at h
/-- the list's length, whatever the bytes -/
theorem listFrom_len : ∀ (k : Nat) (s : ByteArray) (acc : List ByteArray), (listFrom k s acc).2.length ≤ acc.length + k
  | 0, s, acc => by simp [listFrom]
  | k + 1, s, acc => by
    rw [listFrom]
    split
    · simp
    · have := listFrom_len k (stText s 0).1.1 (acc ++ [(stText s 0).2])
      rw [List.length_append, List.length_singleton] at this
      omega
theorem stList_len (s : ByteArray) (e : Int) : (stList s e).2.length ≤ 256 := by
  unfold stList
  simp only
  split
  · simp
  · have h1 := listFrom_len (stLen s e 256).2 (stLen s e 256).1.1 []
    have h2 := stLen_facts s e 256
    simp only [List.length_nil] at h1
    omega
end Go.Proofs.YtkinnlfjcmhcoaaDoor.W
/-
  A slice of pairs: as a list of pairs; one that a call owns.
-/
namespace Go.Proofs.YtkinnlfjcmhcoaaDoor.W
open Go.RowKit

theorem infoPair : (Tryd.prog.info? 32).map (fun i => (i.zero, i.size, i.bytes)) = some (some (.agg #[.string .empty, .string .empty]), 2, 32) := by kernel_rfl
def prVals (l : List KV) : List Value := l.flatMap fun x => [.string x.1, .string x.2]
theorem prVals_len : ∀ l : List KV, (prVals l).length = l.length * 2
  | [] => rfl
  | x :: l => by simp only [prVals, List.flatMap_cons, List.length_append, List.length_cons, List.length_nil]; have := prVals_len l; simp only [prVals] at this; omega
theorem prVals_append (l m : List KV) : prVals (l ++ m) = prVals l ++ prVals m := by simp [prVals]
theorem prVals_at : ∀ (l : List KV) (i : Nat) (h : i < l.length), (prVals l)[i * 2]? = some (.string l[i].1) ∧ (prVals l)[i * 2 + 1]? = some (.string l[i].2)
  | x :: l, 0, _ => by simp [prVals]
  | x :: l, i + 1, h => by
    have := prVals_at l i (by simpa using h)
    simp only [prVals, List.flatMap_cons] at this ⊢
    rw [show (i + 1) * 2 = i * 2 + 1 + 1 by omega]
    simpa using this
theorem prVals_one {l : List KV} : ∀ u ∈ prVals l, u.oneCell' = true := by
  intro u hu
  simp only [prVals, List.mem_flatMap] at hu
  obtain ⟨x, _, hx⟩ := hu
  simp at hx
  rcases hx with rfl | rfl <;> rfl

/-- the slice value v reads as the pairs l -/
def Prs (w : World) (v : Value) (l : List KV) : Prop :=
  ∃ A cap, v = .slice A l.length cap ∧ l.length ≤ cap ∧ ∀ i (h : i < l.length), ∃ b off, A = some ⟨b, off, none⟩ ∧ w.cell? ⟨b, off + i * 2, none⟩ = some (.string l[i].1) ∧ w.cell? ⟨b, off + i * 2 + 1, none⟩ = some (.string l[i].2)
section
variable {w w' : World} {v : Value} {l : List KV}
theorem Prs.moved (h : Prs w v l) (hb : ∀ g, v.ownBlock = some g → w'.heap[g]? = w.heap[g]?) : Prs w' v l := by
  obtain ⟨A, cap, rfl, hl, hc⟩ := h
  refine ⟨A, cap, rfl, hl, fun i hi => ?_⟩
  obtain ⟨b, off, rfl, h1, h2⟩ := hc i hi
  exact ⟨b, off, rfl, (World.cell?_of_block (w := w) (hb b rfl)).trans h1, (World.cell?_of_block (w := w) (hb b rfl)).trans h2⟩
theorem Prs.kept (h : Prs w v l) (hb : ∀ p u, w.cell? p = some u → some p.block = v.ownBlock → w'.cell? p = some u) : Prs w' v l := by
  obtain ⟨A, cap, rfl, hl, hc⟩ := h
  refine ⟨A, cap, rfl, hl, fun i hi => ?_⟩
  obtain ⟨b, off, rfl, h1, h2⟩ := hc i hi
  exact ⟨b, off, rfl, hb _ _ h1 rfl, hb _ _ h2 rfl⟩
theorem Prs.below (h : Prs w v l) (hb : Below w.heap.size w w') : Prs w' v l := h.kept fun _ _ hc _ => (since_of hb).cell hc
theorem Prs.lt (h : Prs w v l) (hl : l ≠ []) : ∀ g, v.ownBlock = some g → g < w.heap.size := by
  obtain ⟨A, cap, rfl, _, hc⟩ := h
  obtain ⟨b, off, rfl, h1, _⟩ := hc 0 (by cases l <;> simp_all)
  intro g hg
  cases hg
  exact World.block_lt_of_cell? w _ h1
theorem Prs.nil (w : World) (A : Option Addr) (cap : Nat) : Prs w (.slice A 0 cap) [] := ⟨A, cap, rfl, Nat.zero_le _, fun i h => absurd h (by simp)⟩
theorem Prs.of_own {base : Nat} (h : w.ownsRow base 32 2 v l.length (prVals l)) : Prs w v l := by
  rcases h.2 with ⟨rfl, hn⟩ | ⟨g, cap, cur, rfl, hb, hg, hc, _⟩
  · obtain rfl : l = [] := List.eq_nil_of_length_eq_zero hn
    exact Prs.nil _ _ _
  · refine ⟨some ⟨g, 0, none⟩, cap, rfl, hc, fun i hi => ⟨g, 0, rfl, ?_, ?_⟩⟩
    · have := h.cells (g := g) rfl (i * 2) _ (prVals_at l i hi).1
      rwa [show (⟨g, 0, none⟩ : Addr).add (i * 2) = ⟨g, 0 + i * 2, none⟩ by unfold Addr.add; split <;> simp_all] at this
    · have := h.cells (g := g) rfl (i * 2 + 1) _ (prVals_at l i hi).2
      rwa [show (⟨g, 0, none⟩ : Addr).add (i * 2 + 1) = ⟨g, 0 + i * 2 + 1, none⟩ by unfold Addr.add; split <;> simp_all] at this
end

theorem add_far (b off j : Nat) : (⟨b, off, none⟩ : Addr).add j = ⟨b, off + j, none⟩ := by unfold Addr.add; split <;> simp_all
/-- the cells of a list of pairs, from an address on -/
theorem Prs.cells {w : World} {b off cap : Nat} {l : List KV} (h : Prs w (.slice (some ⟨b, off, none⟩) l.length cap) l) : ∀ j u, (prVals l)[j]? = some u → w.cell? ((⟨b, off, none⟩ : Addr).add j) = some u := by
  intro j u hj
  obtain ⟨A, cap', e, _, hc⟩ := h
  cases e
  have hlt : j < l.length * 2 := by rw [← prVals_len]; exact (List.getElem?_eq_some_iff.1 hj).1
  obtain ⟨b', off', e, h1, h2⟩ := hc (j / 2) (by omega)
  cases e
  have hp := prVals_at l (j / 2) (by omega)
  rw [add_far]
  rcases Nat.mod_two_eq_zero_or_one j with hm | hm
  · have e : j / 2 * 2 = j := by omega
    rw [e] at hp h1
    rw [hp.1] at hj
    cases hj
    exact h1
  · have e : j / 2 * 2 + 1 = j := by omega
    rw [Nat.add_assoc, e] at h2
    rw [e] at hp
    rw [hp.2] at hj
    cases hj
    exact h2
theorem run_append_none (P : Program) (w : World) (t ty e : TypeId) (i : TypeInfo) (ht : P.underlying t = some (.slice e)) (hi : P.info? e = some i) (A : Option Addr) (n cap c : Nat) (hn : n ≤ cap) :
    (Builtin.append_ #[t, t] ty #[.slice A n cap, .slice none 0 c]).run P w = .ok (.slice A n cap) w := by
  cases A <;> simp [Builtin.append_, run_underlying ht, go_sem, run_sizeOf w hi, hn]
theorem run_append_prs (w : World) (B : Nat) (T ty : TypeId) (hT : Tryd.prog.underlying T = some (.slice 32)) (v y : Value) (l m : List KV) (hown : w.ownsRow B 32 2 v l.length (prVals l)) (hP : Prs w y m) (hB : B ≤ w.heap.size) (hlen : l.length + m.length ≤ 1000000000) :
    ∃ v' w', (Builtin.append_ #[T, T] ty #[v, y]).run Tryd.prog w = .ok v' w' ∧ w'.ownsRow B 32 2 v' (l ++ m).length (prVals (l ++ m)) ∧ w.grownBy w' v.ownBlock ∧ (v'.ownBlock = v.ownBlock ∨ v'.ownBlock = some w.heap.size) := by
  obtain ⟨i0, hi, hz0, hz1, hz2⟩ := info_parts infoPair
  have hP' := hP
  obtain ⟨A, cap, rfl, hcap, hc⟩ := hP'
  match A, hc with
  | none, hc =>
    have hm : m = [] := by
      cases m with
      | nil => rfl
      | cons x m => obtain ⟨b, off, e, _⟩ := hc 0 (by simp); cases e
    subst hm
    rw [List.append_nil]
    have hv : ∃ A' n c, v = .slice A' n c ∧ n ≤ c := by
      rcases hown.2 with ⟨rfl, _⟩ | ⟨g, cap, cur, rfl, _, _, h1, _⟩
      · exact ⟨none, 0, 0, rfl, Nat.le_refl _⟩
      · exact ⟨_, _, _, rfl, h1⟩
    obtain ⟨A', n, c, rfl, hn⟩ := hv
    exact ⟨_, w, run_append_none Tryd.prog w T ty _ i0 hT hi A' n c cap hn, hown, only_refl _ _, .inl rfl⟩
  | some ad, hc =>
    by_cases hm : m = []
    · subst hm
      obtain ⟨v', w', hr, h2, h3, _, h5⟩ := run_append_own_at (P := Tryd.prog) w B T ty 32 i0 _ 2 32 hT hi hz0 hz1 hz2 rfl (by decide) v l.length (prVals l) hown ad 0 cap [] rfl (fun j u h => by simp at h) (fun u h => by cases h) (by unfold maxLen; simp only [List.length_nil] at hlen; omega) (by simp only [List.length_nil] at hlen; omega) hB
      exact ⟨v', w', hr, by simpa using h2, h3, h5⟩
    · obtain ⟨b, off, e, _⟩ := hc 0 (by cases m <;> simp_all)
      cases e
      obtain ⟨v', w', hr, h2, h3, _, h5⟩ := run_append_own_at (P := Tryd.prog) w B T ty 32 i0 _ 2 32 hT hi hz0 hz1 hz2 rfl (by decide) v l.length (prVals l) hown ⟨b, off, none⟩ m.length cap (prVals m) (prVals_len m) hP.cells prVals_one (by unfold maxLen; omega) (by omega) hB
      exact ⟨v', w', hr, by rw [List.length_append, prVals_append]; exact h2, h3, h5⟩
/-- 'l = append(l, m...)' -/
theorem wpList_append_prs {ops : Array Oper} {rest : List Oper} {o : Oper} {a : Act} {Q : Exit → Act → World → Prop} (w : World) (hgd : o.guard = none) (s x : Operand) (T : TypeId) (hT : Tryd.prog.underlying T = some (.slice 32))
    (ho : o.op = .call { callee := .builtin .append, args := #[s, x], argTypes := #[T, T] }) (B : Nat) (v y : Value) (l m : List KV) (hs : a.eval s = v) (hx : a.eval x = y)
    (hown : w.ownsRow B 32 2 v l.length (prVals l)) (hP : Prs w y m) (hB : B ≤ w.heap.size) (hlen : l.length + m.length ≤ 1000000000)
    (h : ∀ v' w', w'.ownsRow B 32 2 v' (l ++ m).length (prVals (l ++ m)) → w.grownBy w' v.ownBlock → (v'.ownBlock = v.ownBlock ∨ v'.ownBlock = some w.heap.size) → wpList Tryd.prog ops Q rest (a.put o.dst v') w') : wpList Tryd.prog ops Q (o :: rest) a w := by
  refine wpList_plain hgd fun K hK => ?_
  obtain ⟨v', w', hr, h2, h3, h4⟩ := run_append_prs w B T o.type hT v y l m hown hP hB hlen
  simp [Oper.wp, Oper.upon, execOp, ho, resolve, invoke, builtin, hs, hx, hr, Result.andThen]
  exact hK _ _ (h v' w' h2 h3 h4)
/-- the same within a fence -/
theorem wpListIn_append_prs {F : Fence} {nF : Nat} {ops : Array Oper} {rest : List Oper} {o : Oper} {a : Act} {Q : Exit → Act → World → Prop} (w : World) (hgd : o.guard = none) (s x : Operand) (T : TypeId) (hT : Tryd.prog.underlying T = some (.slice 32))
    (ho : o.op = .call { callee := .builtin .append, args := #[s, x], argTypes := #[T, T] }) (B : Nat) (v y : Value) (l m : List KV) (hs : a.eval s = v) (hx : a.eval x = y)
    (hown : w.ownsRow B 32 2 v l.length (prVals l)) (hP : Prs w y m) (hB : B ≤ w.heap.size) (hlen : l.length + m.length ≤ 1000000000)
    (h : ∀ v' w', w'.ownsRow B 32 2 v' (l ++ m).length (prVals (l ++ m)) → w.grownBy w' v.ownBlock → (v'.ownBlock = v.ownBlock ∨ v'.ownBlock = some w.heap.size) → wpListIn F nF Tryd.prog ops Q rest (a.put o.dst v') w') : wpListIn F nF Tryd.prog ops Q (o :: rest) a w := by
  refine wpListIn_plain hgd fun K hK => ?_
  obtain ⟨v', w', hr, h2, h3, h4⟩ := run_append_prs w B T o.type hT v y l m hown hP hB hlen
  unfold Oper.wpIn
  refine ⟨by simp [Oper.about, ho, resolve, Target.leads, Sem.run_pure], ?_⟩
  rw [Oper.semAt_plain F _ _ (by rw [ho]; intro c hc'; cases hc')]
  simp [execOp, ho, resolve, invoke, builtin, hs, hx, hr, Result.andThen]
  exact hK _ _ (h v' w' h2 h3 h4)
theorem prs_built (W : World) (x : KV) : Prs (W.alloc (.cells #[.string x.1, .string x.2] 32)) (.slice (some ⟨W.heap.size, 0, none⟩) 1 1) [x] := by
  refine ⟨_, 1, rfl, Nat.le_refl _, fun i hi => ?_⟩
  have hb := Blk.new W 32 #[.string x.1, .string x.2]
  obtain rfl : i = 0 := by simpa using hi
  exact ⟨_, 0, rfl, hb.cell 0, hb.cell 1⟩
end Go.Proofs.YtkinnlfjcmhcoaaDoor.W
/-
  Go's order of strings is the order of keys; what a Get answers.
-/
namespace Go.Proofs.YtkinnlfjcmhcoaaDoor.W
open Go.RowKit

theorem less_is : ∀ a b : List UInt8, Op.bytesLess a b = decide (Lib.compareBytes a b = -1)
  | [], [] => by simp [Op.bytesLess, Lib.compareBytes]
  | [], _ :: _ => by simp [Op.bytesLess, Lib.compareBytes]
  | _ :: _, [] => by simp [Op.bytesLess, Lib.compareBytes]
  | a :: x, b :: y => by
    unfold Op.bytesLess Lib.compareBytes
    rw [less_is x y]
    by_cases h : a < b
    · simp [h]
    · by_cases h2 : b < a
      · have : a ≠ b := fun e => by rw [e] at h2; exact absurd h2 (UInt8.lt_irrefl _)
        simp [h, h2, this]
      · have := u8_eq h h2
        simp [this]
theorem less_str (a b : ByteArray) : Op.bytesLess a.toList b.toList = decide (kc a b = -1) := by
  rw [ByteArray.toList_eq, ByteArray.toList_eq, less_is]; rfl
/-- what Get answers -/
def retGet (o : Option ByteArray) : Value := .tuple #[.string (o.getD ⟨#[]⟩), .bool o.isSome]
end Go.Proofs.YtkinnlfjcmhcoaaDoor.W
/-
  The reference of pairs: at, Get.
-/
namespace Go.Proofs.YtkinnlfjcmhcoaaDoor.W
open Go.RowKit

/-- where a key stands, or would -/
def latN (l : List KV) (k : ByteArray) : Nat := (l.takeWhile fun x => decide (kc x.1 k = -1)).length
theorem latN_le (l : List KV) (k : ByteArray) : latN l k ≤ l.length := (List.takeWhile_prefix _).length_le
theorem latN_cons (x : KV) (l : List KV) (k : ByteArray) : latN (x :: l) k = if kc x.1 k = -1 then latN l k + 1 else 0 := by
  unfold latN
  rw [List.takeWhile_cons]
  by_cases h : kc x.1 k = -1 <;> simp [h]
theorem latN_less : ∀ (l : List KV) (k : ByteArray) (i : Nat) (h : i < l.length), i < latN l k → kc l[i].1 k = -1
  | [], _, _, h, _ => by simp at h
  | x :: l, k, i, h, hi => by
    rw [latN_cons] at hi
    split at hi
    · rename_i hx
      cases i with
      | zero => exact hx
      | succ i => exact latN_less l k i (by simpa using h) (by omega)
    · omega
theorem latN_here : ∀ (l : List KV) (k : ByteArray) (h : latN l k < l.length), kc (l[latN l k]'h).1 k ≠ -1
  | [], _, h => by simp at h
  | x :: l, k, h => by
    have e := latN_cons x l k
    by_cases hx : kc x.1 k = -1
    · rw [if_pos hx] at e
      have := latN_here l k (by rw [e] at h; simpa using h)
      simp only [e, List.getElem_cons_succ]
      exact this
    · rw [if_neg hx] at e
      simp only [e, List.getElem_cons_zero]
      exact hx
/-- how a rising list stands about a key -/
theorem latN_parts {l : List KV} (hu : Up l) (k : ByteArray) :
    (latN l k = l.length ∧ lget l k = none ∧ (∀ v, lset l k v = l ++ [(k, v)])) ∨
    (∃ h : latN l k < l.length, (l[latN l k]'h).1 ≠ k ∧ lget l k = none ∧ (∀ v, lset l k v = l.take (latN l k) ++ [(k, v)] ++ l.drop (latN l k))) ∨
    (∃ h : latN l k < l.length, (l[latN l k]'h).1 = k ∧ lget l k = some (l[latN l k]'h).2 ∧ (∀ v, lset l k v = l.take (latN l k) ++ [(k, v)] ++ l.drop (latN l k + 1)) ∧ ldel l k = l.take (latN l k) ++ l.drop (latN l k + 1)) := by
  induction l with
  | nil => exact .inl ⟨rfl, rfl, fun _ => rfl⟩
  | cons x l ih =>
    have hu' := hu
    unfold Up at hu
    rw [List.pairwise_cons] at hu
    have e := latN_cons x l k
    rcases kc_cases x.1 k with h | h | h
    · rw [if_pos h] at e
      have hg := kc_gt h
      have s1 : ∀ v, lset (x :: l) k v = x :: lset l k v := fun v => by simp only [lset]; rw [if_neg (by rw [hg]; decide), if_neg (by rw [hg]; decide)]
      have s2 : lget (x :: l) k = lget l k := lget_cons_ne (kc_ne h) l
      have s3 : ldel (x :: l) k = x :: ldel l k := ldel_cons_ne (kc_ne h) l
      rcases ih hu.2 with ⟨h1, h2, h3⟩ | ⟨h1, h2, h3, h4⟩ | ⟨h1, h2, h3, h4, h5⟩
      · exact .inl ⟨by rw [e, h1]; rfl, by rw [s2, h2], fun v => by rw [s1, h3]; rfl⟩
      · refine .inr (.inl ⟨by rw [e]; simpa using h1, ?_, by rw [s2, h3], fun v => ?_⟩)
        · simpa only [e, List.getElem_cons_succ] using h2
        · rw [s1, h4, e]; rfl
      · refine .inr (.inr ⟨by rw [e]; simpa using h1, ?_, ?_, fun v => ?_, ?_⟩)
        · simpa only [e, List.getElem_cons_succ] using h2
        · simpa only [e, List.getElem_cons_succ, s2] using h3
        · rw [s1, h4, e]; rfl
        · rw [s3, h5, e]; rfl
    · rw [if_neg (by rw [h]; decide)] at e
      have ek := kc_zero h
      refine .inr (.inr ⟨by rw [e]; simp, ?_, ?_, fun v => ?_, ?_⟩)
      · simpa only [e, List.getElem_cons_zero] using ek
      · simpa only [e, List.getElem_cons_zero] using lget_cons_eq ek l
      · rw [e]; simp only [lset]; rw [if_neg (by rw [← ek, kc_self]; decide), if_pos (by rw [← ek, kc_self])]; rfl
      · rw [e, ldel_cons_eq ek, ldel_same (fun y hy => by rw [← ek]; exact (kc_ne (hu.1 y hy)).symm)]; rfl
    · rw [if_neg (by rw [h]; decide)] at e
      have hl := kc_lt h
      refine .inr (.inl ⟨by rw [e]; simp, ?_, lget_none (fun y hy => ?_), fun v => ?_⟩)
      · simpa only [e, List.getElem_cons_zero] using (kc_ne hl).symm
      · simp at hy
        rcases hy with rfl | hy
        · exact (kc_ne hl).symm
        · exact (kc_ne (kc_trans hl (hu.1 y hy))).symm
      · rw [e]; simp only [lset]; rw [if_pos hl]; rfl

set_option maxHeartbeats 2000000 in
set_option maxRecDepth 100000 in
theorem rAt (s : Value) (l : List KV) (k : ByteArray) (w : World) (hP : Prs w s l) (hz : l.length ≤ 1000000000) :
    Calls Tryd.prog 61 #[s, .string k] w fun e w' => e = .returned (.int .i64 (latN l k)) ∧ w' = w := by
  obtain ⟨A, cap, rfl, hcap, hc⟩ := hP
  obtain ⟨N, hN⟩ : ∃ N, N = latN l k := ⟨_, rfl⟩
  have HN := Lib.hid (And.intro (hN ▸ latN_le l k : N ≤ l.length) (And.intro (fun i (h : i < l.length) (hi : i < N) => latN_less l k i h (hN ▸ hi)) (fun (h : N < l.length) => (by subst hN; exact latN_here l k h : kc (l[N]'h).1 k ≠ -1))))
  rw [← hN]
  clear hN
  have HC := Lib.hid hc
  clear hc
  go_enter Tryd.func61, Tryd.ntmps61
  go_wp2
  go_loopg [5] N (fun g v wr => wr = w ∧ ∃ i : Nat, v = .int .i64 i ∧ Hid (g + i = N))
  case atStart => exact ⟨rfl, 0, rfl, Lib.hid rfl⟩
  case round =>
    obtain ⟨rfl, i, rfl, HI⟩ := hrel
    have hi := HI.out
    have hN := HN.out.1
    by_cases h1 : i < N
    · obtain ⟨b, off, rfl, c1, _⟩ := HC.out i (by omega)
      have hls : Op.bytesLess (l[i]'(by omega)).1.toList k.toList = true := by rw [less_str]; simpa using HN.out.2.1 i (by omega) h1
      have hl0 : (0 : Int) ≤ i := by omega
      have hl1 : (i : Int) < l.length := by omega
      have hw : IntKind.i64.wrap ((i : Int) + 1) = (i : Int) + 1 := IntWalk.i64_in _ (by omega)
      generalize (l[i]'(by omega)).1 = x at *
      go_wp2
      go_roundg (gk - 1)
      case measure => omega
      case rel => exact ⟨rfl, i + 1, by simp, Lib.hid (by omega)⟩
    · have e : i = N := by omega
      subst e
      by_cases h2 : i < l.length
      · obtain ⟨b, off, rfl, c1, _⟩ := HC.out i h2
        have hls : Op.bytesLess (l[i]'h2).1.toList k.toList = false := by rw [less_str]; simpa using HN.out.2.2 h2
        have hl0 : (0 : Int) ≤ i := by omega
        have hl1 : (i : Int) < l.length := by omega
        generalize (l[i]'h2).1 = x at *
        go_wp2
        go_ret
        exact ⟨rfl, rfl⟩
      · have hl1 : ¬ (i : Int) < l.length := by omega
        go_wp2
        go_ret
        exact ⟨rfl, rfl⟩
end Go.Proofs.YtkinnlfjcmhcoaaDoor.W
/-
  Proofs over a Merkle tree: what is built for a key, what each tells, and as bytes: plain lists. No function of the program is named here.
-/
namespace Go.Proofs.YtkinnlfjcmhcoaaDoor.W

structure Pf where
  n : Int
  pos : Int
  there : Bool
  near : List KV
  paths : List (List (List UInt8))
def Pf.zero : Pf := ⟨0, 0, false, [], []⟩

/-! ### Rising lists -/
def Adj (l : List KV) (k : Nat) : Prop := ∀ i (h : i + 1 < l.length), i + 1 < k → kc (l[i]'(by omega)).1 l[i + 1].1 = -1
theorem up_of_adj : ∀ l : List KV, Adj l l.length → Up l
  | [], _ => List.Pairwise.nil
  | [x], _ => List.pairwise_singleton _ _
  | x :: y :: r, h => by
    have hu : Up (y :: r) := up_of_adj (y :: r) fun i hi _ => h (i + 1) (by simp at hi ⊢; omega) (by simp at hi ⊢; omega)
    have h0 : kc x.1 y.1 = -1 := h 0 (by simp) (by simp)
    refine List.pairwise_cons.2 ⟨fun z hz => ?_, hu⟩
    rcases List.mem_cons.1 hz with rfl | hz
    · exact h0
    · exact kc_trans h0 ((List.pairwise_cons.1 hu).1 z hz)
theorem up_at {l : List KV} (hu : Up l) (i j : Nat) (hij : i < j) (hj : j < l.length) : kc (l[i]'(by omega)).1 l[j].1 = -1 := List.pairwise_iff_getElem.1 hu i j (by omega) hj hij
theorem adj_not {l : List KV} {i : Nat} (h : i + 1 < l.length) (hn : kc (l[i]'(by omega)).1 l[i + 1].1 ≠ -1) : ¬ Up l := fun hu => hn (up_at hu i (i + 1) (by omega) h)
theorem adj_succ {l : List KV} {k : Nat} (h : Adj l k) (hk : 1 ≤ k) (hl : k < l.length) (hc : kc (l[k - 1]'(by omega)).1 l[k].1 = -1) : Adj l (k + 1) := by
  intro i hi hik
  by_cases e : i + 1 = k
  · subst e; exact hc
  · exact h i hi (by omega)

/-! ### What is built -/
def lowOf (a : Nat) : Nat := a - 1
def highOf (a n : Nat) : Nat := if a < n then a + 1 else a
theorem low_high {a n : Nat} (h : a ≤ n) : lowOf a ≤ highOf a n ∧ highOf a n ≤ n ∧ highOf a n ≤ lowOf a + 2 ∧ a ≤ highOf a n := by unfold lowOf highOf; split <;> omega
def nearOf (l : List KV) (a : Nat) : List KV := (l.take (highOf a l.length)).drop (lowOf a)
def pathsOf (l : List KV) (lo k : Nat) : List (List (List UInt8)) := (List.range' lo k).map (pth l)
theorem nearOf_len {l : List KV} {a : Nat} (h : a ≤ l.length) : (nearOf l a).length = highOf a l.length - lowOf a := by
  have := low_high h
  unfold nearOf
  rw [List.length_drop, List.length_take]
  omega
theorem pathsOf_succ (l : List KV) (lo k : Nat) : pathsOf l lo (k + 1) = pathsOf l lo k ++ [pth l (lo + k)] := by
  unfold pathsOf
  rw [List.range'_concat, List.map_append]
  simp
theorem pathsOf_len (l : List KV) (lo k : Nat) : (pathsOf l lo k).length = k := by simp [pathsOf]
/-- for a list that rises -/
def bld (l : List KV) (key : ByteArray) : Pf :=
  match lget l key with
  | some _ => ⟨l.length, latN l key, true, [], [pth l (latN l key)]⟩
  | none => ⟨l.length, latN l key, false, nearOf l (latN l key), pathsOf l (lowOf (latN l key)) (highOf (latN l key) l.length - lowOf (latN l key))⟩
theorem bld_some {l : List KV} {key v : ByteArray} (h : lget l key = some v) : bld l key = ⟨l.length, latN l key, true, [], [pth l (latN l key)]⟩ := by unfold bld; rw [h]
theorem bld_none {l : List KV} {key : ByteArray} (h : lget l key = none) : bld l key = ⟨l.length, latN l key, false, nearOf l (latN l key), pathsOf l (lowOf (latN l key)) (highOf (latN l key) l.length - lowOf (latN l key))⟩ := by unfold bld; rw [h]

/-! ### What a proof tells -/
def hasP (root : List UInt8) (p : KV) (x : Pf) : Bool :=
  match x.there, x.near, x.paths with
  | true, [], [q] => reach root p q x.pos x.n
  | _, _, _ => false
def hasTexts (p : KV) (x : Pf) : List (List UInt8) :=
  match x.paths with
  | [q] => reachTexts p q x.pos x.n
  | _ => []
def loI (x : Pf) : Int := if 0 < x.pos then x.pos - 1 else x.pos
def hiI (x : Pf) : Int := if x.pos < x.n then x.pos + 1 else x.pos
def sideOk (key : ByteArray) (pos i : Int) (p : KV) : Bool := if i < pos then decide (kc p.1 key = -1) else decide (kc key p.1 = -1)
def nearOk (root : List UInt8) (key : ByteArray) (pos n : Int) : Int → List KV → List (List (List UInt8)) → Bool
  | i, p :: ps, q :: qs => sideOk key pos i p && reach root p q i n && nearOk root key pos n (i + 1) ps qs
  | _, _, _ => true
def nearTexts (n : Int) : Int → List KV → List (List (List UInt8)) → List (List UInt8)
  | i, p :: ps, q :: qs => reachTexts p q i n ++ nearTexts n (i + 1) ps qs
  | _, _, _ => []
def Fits (x : Pf) : Prop := x.there = false ∧ 0 ≤ x.pos ∧ x.pos ≤ x.n ∧ (x.near.length : Int) = hiI x - loI x ∧ (x.paths.length : Int) = hiI x - loI x
instance (x : Pf) : Decidable (Fits x) := by unfold Fits; infer_instance
def lacksP (root : List UInt8) (key : ByteArray) (x : Pf) : Bool :=
  decide (Fits x) && nearOk root key x.pos x.n (loI x) x.near x.paths && (decide (0 < x.n) || decide (root = shaOf (topOf 0 [])))
def lacksTexts (x : Pf) : List (List UInt8) := if x.n = 0 then [topOf 0 []] else nearTexts x.n (loI x) x.near x.paths
theorem lo_hi {x : Pf} (h : 0 ≤ x.pos) (h2 : x.pos ≤ x.n) : loI x ≤ hiI x ∧ hiI x ≤ x.n ∧ hiI x ≤ loI x + 2 ∧ 0 ≤ loI x := by unfold loI hiI; split <;> split <;> omega

/-! ### Of a list that rises each key's proof tells what is -/
theorem lat_some {l : List KV} (hu : Up l) {key v : ByteArray} (h : lget l key = some v) : l[latN l key]? = some (key, v) := by
  rcases latN_parts hu key with ⟨h1, h2, _⟩ | ⟨h1, h2, h3, _⟩ | ⟨h1, h2, h3, _, _⟩
  · rw [h2] at h; cases h
  · rw [h3] at h; cases h
  · rw [h3] at h
    rw [List.getElem?_eq_getElem h1]
    injection h with h
    exact congrArg some (Prod.ext h2 h)
theorem has_bld {l : List KV} (hu : Up l) (h63 : l.length < 2 ^ 63) {key v : ByteArray} (h : lget l key = some v) : hasP (rootOf l) (key, v) (bld l key) = true := by
  rw [bld_some h]
  exact reach_pth (lat_some hu h) h63
theorem near_at {l : List KV} {a k : Nat} {p : KV} (h : a ≤ l.length) (hp : (nearOf l a)[k]? = some p) : l[lowOf a + k]? = some p := by
  have e := nearOf_len h
  have := low_high h
  have hk := (List.getElem?_eq_some_iff.1 hp).1
  unfold nearOf at hp
  rw [List.getElem?_drop, List.getElem?_take_of_lt (by omega)] at hp
  exact hp
theorem lat_le {l : List KV} {key : ByteArray} : latN l key ≤ l.length := latN_le l key
theorem side_bld {l : List KV} (hu : Up l) {key : ByteArray} (h : lget l key = none) {i : Nat} {p : KV} (hp : l[i]? = some p) : sideOk key (latN l key) i p = true := by
  obtain ⟨hi, rfl⟩ := List.getElem?_eq_some_iff.1 hp
  unfold sideOk
  by_cases hlt : i < latN l key
  · rw [if_pos (by omega)]
    exact decide_eq_true (latN_less l key i hi hlt)
  · rw [if_neg (by omega)]
    have h1 : latN l key < l.length := by omega
    have h2 := latN_here l key h1
    have h3 : (l[latN l key]'h1).1 ≠ key := by
      rcases latN_parts hu key with ⟨h4, _⟩ | ⟨_, h4, _⟩ | ⟨_, _, h4, _⟩
      · omega
      · exact h4
      · rw [h4] at h; cases h
    have h4 : kc key (l[latN l key]'h1).1 = -1 := by
      rcases kc_cases (l[latN l key]'h1).1 key with h5 | h5 | h5
      · exact absurd h5 h2
      · exact absurd (kc_zero h5) h3
      · exact kc_lt h5
    by_cases e : i = latN l key
    · subst e; exact decide_eq_true h4
    · exact decide_eq_true (kc_trans h4 (up_at hu _ i (by omega) hi))
theorem nearOk_all {root : List UInt8} {key : ByteArray} {pos n : Int} : ∀ (ps : List KV) (qs : List (List (List UInt8))) (i : Int), ps.length = qs.length → (∀ (k : Nat) p q, ps[k]? = some p → qs[k]? = some q → sideOk key pos (i + k) p = true ∧ reach root p q (i + k) n = true) → nearOk root key pos n i ps qs = true
  | [], [], _, _, _ => rfl
  | p :: ps, q :: qs, i, hl, h => by
    have h0 := h 0 p q rfl rfl
    rw [Int.natCast_zero, Int.add_zero] at h0
    unfold nearOk
    rw [h0.1, h0.2, nearOk_all ps qs (i + 1) (by simpa using hl) (fun k p' q' hp hq => by
      have := h (k + 1) p' q' (by simpa using hp) (by simpa using hq)
      rwa [show i + ((k + 1 : Nat) : Int) = i + 1 + (k : Int) by omega] at this)]
    rfl
  | [], _ :: _, _, hl, _ => by simp at hl
  | _ :: _, [], _, hl, _ => by simp at hl
theorem pathsOf_at {l : List KV} {lo c k : Nat} {q : List (List UInt8)} (h : (pathsOf l lo c)[k]? = some q) : q = pth l (lo + k) := by
  unfold pathsOf at h
  rw [List.getElem?_map, Option.map_eq_some_iff] at h
  obtain ⟨a, ha, rfl⟩ := h
  obtain ⟨hk, e⟩ := List.getElem?_eq_some_iff.1 ha
  rw [List.getElem_range'] at e
  rw [← e, Nat.one_mul]
theorem lo_bld {l : List KV} {key : ByteArray} (h : lget l key = none) : loI (bld l key) = (lowOf (latN l key) : Nat) ∧ hiI (bld l key) = (highOf (latN l key) l.length : Nat) := by
  rw [bld_none h]
  unfold loI hiI lowOf highOf
  simp only
  constructor
  · split <;> omega
  · split <;> split <;> omega
theorem fits_bld {l : List KV} {key : ByteArray} (h : lget l key = none) : Fits (bld l key) := by
  have hlh := lo_bld h
  have hle := lat_le (l := l) (key := key)
  have hlw := low_high hle
  unfold Fits
  rw [hlh.1, hlh.2, bld_none h]
  refine ⟨rfl, by simp only; omega, by simp only; omega, ?_, ?_⟩
  · simp only [nearOf_len hle]; omega
  · simp only [pathsOf_len]; omega
theorem lacks_bld {l : List KV} (hu : Up l) (h63 : l.length < 2 ^ 63) {key : ByteArray} (h : lget l key = none) : lacksP (rootOf l) key (bld l key) = true := by
  have hf := fits_bld h
  have hlh := lo_bld h
  have hle := lat_le (l := l) (key := key)
  have hlw := low_high hle
  unfold lacksP
  rw [decide_eq_true hf, Bool.true_and, hlh.1]
  rw [bld_none h]
  simp only
  rw [nearOk_all _ _ _ (by rw [nearOf_len hle, pathsOf_len]) (fun k p q hp hq => ?_), Bool.true_and]
  · by_cases hz : l.length = 0
    · obtain rfl : l = [] := List.eq_nil_of_length_eq_zero hz
      rw [Bool.or_eq_true]
      right
      exact decide_eq_true rfl
    · rw [decide_eq_true (by omega)]; rfl
  · have hp' := near_at hle hp
    have hq' := pathsOf_at hq
    rw [show (lowOf (latN l key) : Int) + (k : Int) = ((lowOf (latN l key) + k : Nat) : Int) by omega, hq']
    exact ⟨side_bld hu h hp', reach_pth hp' h63⟩

/-! ### What a proof that is taken tells is so -/
theorem mem_of_lget {l : List KV} {k v : ByteArray} (h : lget l k = some v) : ∃ j, ∃ hj : j < l.length, l[j].1 = k := by
  unfold lget at h
  rw [Option.map_eq_some_iff] at h
  obtain ⟨x, hx, _⟩ := h
  have h1 := List.find?_some hx
  obtain ⟨j, hj, rfl⟩ := List.getElem_of_mem (List.mem_of_find?_eq_some hx)
  exact ⟨j, hj, by simpa using h1⟩
theorem lget_at {l : List KV} (hu : Up l) {j : Nat} {p : KV} (hp : l[j]? = some p) : lget l p.1 = some p.2 := by
  obtain ⟨hj, rfl⟩ := List.getElem?_eq_some_iff.1 hp
  have e : l = l.take j ++ l[j] :: l.drop (j + 1) := by rw [← List.drop_eq_getElem_cons hj, List.take_append_drop]
  have hu' := hu
  rw [e] at hu' 
  have h := lget_here (k := l[j].1) hu' (kc_self _)
  rw [← e] at h
  exact h
theorem has_is (L : List (List UInt8)) (hL : Apart L) {l : List KV} (hu : Up l) {p : KV} {x : Pf} (hl : l.length ≤ 200) (sl : Short l) (hp : p.1.size ≤ 200 ∧ p.2.size ≤ 200) (il : ∀ y ∈ allOf l, y ∈ L) (ip : ∀ y ∈ hasTexts p x, y ∈ L)
    (h : hasP (rootOf l) p x = true) : lget l p.1 = some p.2 := by
  obtain ⟨n, pos, there, near, paths⟩ := x
  match there, near, paths with
  | true, [], [q] =>
    obtain ⟨_, _, h3⟩ := reach_is L hL hl sl hp il ip h
    exact lget_at hu h3
  | false, _, _ => simp [hasP] at h
  | true, _ :: _, _ => simp [hasP] at h
  | true, [], [] => simp [hasP] at h
  | true, [], _ :: _ :: _ => simp [hasP] at h
theorem nearOk_is (L : List (List UInt8)) (hL : Apart L) {l : List KV} {key : ByteArray} {pos n : Int} (hl : l.length ≤ 200) (sl : Short l) (il : ∀ y ∈ allOf l, y ∈ L) : ∀ (ps : List KV) (qs : List (List (List UInt8))) (i : Int), ps.length = qs.length → Short ps → (∀ y ∈ nearTexts n i ps qs, y ∈ L) → nearOk (rootOf l) key pos n i ps qs = true →
    ∀ k, k < ps.length → n = l.length ∧ 0 ≤ i + k ∧ ∃ p, l[(i + k).toNat]? = some p ∧ sideOk key pos (i + k) p = true
  | [], _, _, _, _, _, _, k, hk => by simp at hk
  | _ :: _, [], _, hlen, _, _, _, _, _ => by simp at hlen
  | p :: ps, q :: qs, i, hlen, hs, ht, h, k, hk => by
    unfold nearOk at h
    rw [Bool.and_eq_true, Bool.and_eq_true] at h
    obtain ⟨⟨h1, h2⟩, h3⟩ := h
    unfold nearTexts at ht
    cases k with
    | zero =>
      obtain ⟨r1, r2, r3⟩ := reach_is L hL hl sl (hs p (by simp)) il (fun y hy => ht y (by simp [hy])) h2
      rw [Int.natCast_zero, Int.add_zero]
      exact ⟨r1, r2, p, r3, h1⟩
    | succ k =>
      have := nearOk_is L hL hl sl il ps qs (i + 1) (by simpa using hlen) (fun p hp => hs p (by simp [hp])) (fun y hy => ht y (by simp [hy])) h3 k (by simpa using hk)
      rwa [show i + ((k + 1 : Nat) : Int) = i + 1 + (k : Int) by omega]
theorem lacks_is (L : List (List UInt8)) (hL : Apart L) {l : List KV} (hu : Up l) {key : ByteArray} {x : Pf} (hl : l.length ≤ 200) (sl : Short l) (sn : Short x.near) (il : ∀ y ∈ allOf l, y ∈ L) (ip : ∀ y ∈ lacksTexts x, y ∈ L)
    (h : lacksP (rootOf l) key x = true) : lget l key = none := by
  unfold lacksP at h
  rw [Bool.and_eq_true, Bool.and_eq_true, decide_eq_true_eq] at h
  obtain ⟨⟨⟨f1, f2, f3, f4, f5⟩, h2⟩, h3⟩ := h
  cases hg : lget l key with
  | none => rfl
  | some v =>
    exfalso
    obtain ⟨j, hj, ej⟩ := mem_of_lget hg
    by_cases hz : x.n = 0
    · unfold lacksTexts at ip
      rw [if_pos hz] at ip
      rw [hz] at h3
      simp only [Int.lt_irrefl, decide_false, Bool.false_or, decide_eq_true_eq] at h3
      have hx := hL _ (il _ (by simp [allOf])) _ (ip _ (by simp)) h3
      have := (top_is (.inr ⟨rfl, rfl⟩) hl hx.symm).1
      omega
    · unfold lacksTexts at ip
      rw [if_neg hz] at ip
      have hb := lo_hi f2 f3
      have key1 := nearOk_is L hL hl sl il x.near x.paths (loI x) (by omega) sn ip h2
      have hlen : x.n = l.length := by
        have hlo : loI x < hiI x := by unfold loI hiI; split <;> split <;> omega
        exact (key1 0 (by omega)).1
      by_cases hjp : (j : Int) < x.pos
      · have hk : loI x = x.pos - 1 := by unfold loI; rw [if_pos (by omega)]
        obtain ⟨_, _, p, hp, hs⟩ := key1 0 (by unfold hiI at f4; split at f4 <;> omega)
        rw [Int.natCast_zero, Int.add_zero, hk] at hp hs
        unfold sideOk at hs
        rw [if_pos (by omega), decide_eq_true_eq] at hs
        obtain ⟨hi, rfl⟩ := List.getElem?_eq_some_iff.1 hp
        by_cases e : j = (x.pos - 1).toNat
        · subst e
          rw [ej, kc_self] at hs
          cases hs
        · have h5 := up_at hu j (x.pos - 1).toNat (by omega) hi
          rw [ej] at h5
          have h6 := kc_trans hs h5
          rw [kc_self] at h6
          cases h6
      · have hh : hiI x = x.pos + 1 := by unfold hiI; rw [if_pos (by omega)]
        obtain ⟨_, _, p, hp, hs⟩ := key1 (x.pos - loI x).toNat (by unfold loI at f4 ⊢; split at f4 <;> rename_i hc <;> simp only [hc, if_true, if_false] <;> omega)
        have e0 : loI x + ((x.pos - loI x).toNat : Int) = x.pos := by unfold loI; split <;> omega
        rw [e0] at hp hs
        unfold sideOk at hs
        rw [if_neg (by omega), decide_eq_true_eq] at hs
        obtain ⟨hi, rfl⟩ := List.getElem?_eq_some_iff.1 hp
        by_cases e : j = x.pos.toNat
        · subst e
          rw [ej, kc_self] at hs
          cases hs
        · have h5 := up_at hu x.pos.toNat j (by omega) hj
          rw [ej] at h5
          have h6 := kc_trans hs h5
          rw [kc_self] at h6
          cases h6
end Go.Proofs.YtkinnlfjcmhcoaaDoor.W
