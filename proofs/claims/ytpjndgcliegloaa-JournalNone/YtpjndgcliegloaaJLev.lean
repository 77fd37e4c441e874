/-
  The law's levels: a slice of slices of pairs.
-/
import Derived.Test.YtpjndgcliegloaaJLaw
namespace Go.Proofs.Ytpjndgcliegloaa.W
open Go.RowKit

theorem infoS : (Try.prog.info? 26).map (fun i => (i.zero, i.size, i.bytes)) = some (some (.slice none 0 0), 1, 24) := by kernel_rfl
theorem lv_und : Try.prog.underlying 29 = some (.slice (Try.prog.elem 29)) := by kernel_rfl
theorem lv_elem : Try.prog.elem 29 = 26 := by kernel_rfl
theorem lv_cells : Try.prog.cellsOf 26 = 1 := by kernel_rfl

/-- the value's block lies there and is none of S -/
def Off (S : Nat → Prop) (w : World) (v : Value) : Prop := ∀ g, v.ownBlock = some g → g < w.heap.size ∧ ¬ S g
/-- the values xs read as the lists Ls -/
def Rds (S : Nat → Prop) (w : World) (xs : List Value) (Ls : List (List KV)) : Prop := xs.length = Ls.length ∧ ∀ i (h : i < xs.length) (k : i < Ls.length), Prs w xs[i] Ls[i] ∧ Off S w xs[i]
/-- the slice lv reads as the lists Ls -/
def LV (S : Nat → Prop) (w : World) (lv : Value) (Ls : List (List KV)) : Prop := ∃ xs, Vls w lv xs ∧ Off S w lv ∧ Rds S w xs Ls
section
variable {S S' : Nat → Prop} {w w' : World} {v lv x y : Value} {xs : List Value} {Ls : List (List KV)} {L : List KV}
theorem Off.keep (h : Off S w v) (k : KeepS S w w') (g : Grows S S' w) : Off S' w' v := fun i hi => ⟨Nat.lt_of_lt_of_le (h i hi).1 k.size, g.not (h i hi).1 (h i hi).2⟩
theorem Off.block (h : Off S w v) (k : KeepS S w w') : ∀ g, v.ownBlock = some g → w'.heap[g]? = w.heap[g]? := fun g hg => k.block g (h g hg).1 (h g hg).2
theorem Off.below (h : Off S w v) (k : Below w.heap.size w w') : Off S w' v := fun i hi => ⟨Nat.lt_of_lt_of_le (h i hi).1 k.size, (h i hi).2⟩
/-- one of one's own since w -/
theorem Off.own {B : Nat} {e : TypeId} {size n : Nat} {ys : List Value} (h : w'.ownsRow B e size v n ys) (hS : ∀ i, S i → i < B) : Off S w' v := fun g hg => ⟨(h.lt g hg).2, fun hs => by have := hS g hs; have := (h.lt g hg).1; omega⟩
theorem Off.less (h : Off S w v) (hs : ∀ i, S' i → S i ∨ w.heap.size ≤ i) : Off S' w v := fun g hg => ⟨(h g hg).1, fun h2 => (hs g h2).elim (h g hg).2 (fun h3 => by have := (h g hg).1; omega)⟩
theorem Rds.keep (h : Rds S w xs Ls) (k : KeepS S w w') (g : Grows S S' w) : Rds S' w' xs Ls := ⟨h.1, fun i hi hk => ⟨(h.2 i hi hk).1.moved ((h.2 i hi hk).2.block k), (h.2 i hi hk).2.keep k g⟩⟩
theorem Rds.below (h : Rds S w xs Ls) (k : Below w.heap.size w w') : Rds S w' xs Ls := ⟨h.1, fun i hi hk => ⟨(h.2 i hi hk).1.below k, (h.2 i hi hk).2.below k⟩⟩
theorem Rds.less (h : Rds S w xs Ls) (hs : ∀ i, S' i → S i ∨ w.heap.size ≤ i) : Rds S' w xs Ls := ⟨h.1, fun i hi hk => ⟨(h.2 i hi hk).1, (h.2 i hi hk).2.less hs⟩⟩
theorem LV.keep (h : LV S w lv Ls) (k : KeepS S w w') (g : Grows S S' w) : LV S' w' lv Ls := by
  obtain ⟨xs, h1, h2, h3⟩ := h
  exact ⟨xs, h1.moved (h2.block k), h2.keep k g, h3.keep k g⟩
theorem LV.below (h : LV S w lv Ls) (k : Below w.heap.size w w') : LV S w' lv Ls := by
  obtain ⟨xs, h1, h2, h3⟩ := h
  exact ⟨xs, h1.below k, h2.below k, h3.below k⟩
theorem LV.less (h : LV S w lv Ls) (hs : ∀ i, S' i → S i ∨ w.heap.size ≤ i) : LV S' w lv Ls := by
  obtain ⟨xs, h1, h2, h3⟩ := h
  exact ⟨xs, h1, h2.less hs, h3.less hs⟩
theorem Rds.snoc (h : Rds S w xs Ls) (hp : Prs w x L) (ho : Off S w x) : Rds S w (xs ++ [x]) (Ls ++ [L]) := by
  refine ⟨by simp [h.1], fun i hi hk => ?_⟩
  by_cases e : i < xs.length
  · have e2 : i < Ls.length := by rw [← h.1]; exact e
    rw [List.getElem_append_left e, List.getElem_append_left e2]
    exact h.2 i e e2
  · have e1 : i = xs.length := by simp at hi; omega
    subst e1
    have h1 := h.1
    rw [List.getElem_append_right (by omega)]
    simp only [Nat.sub_self, List.getElem_cons_zero]
    have : (Ls ++ [L])[xs.length]'hk = L := by
      rw [List.getElem_append_right (by omega)]
      simp [h1]
    rw [this]
    exact ⟨hp, ho⟩
theorem Rds.init (h : Rds S w (xs ++ [x]) (Ls ++ [L])) : Rds S w xs Ls ∧ Prs w x L ∧ Off S w x := by
  have h1 : xs.length = Ls.length := by have := h.1; simp at this; exact this
  refine ⟨⟨h1, fun i hi hk => ?_⟩, ?_⟩
  · have := h.2 i (by simp; omega) (by simp; omega)
    rwa [List.getElem_append_left hi, List.getElem_append_left hk] at this
  · have := h.2 xs.length (by simp) (by simp; omega)
    rw [List.getElem_append_right (by omega), List.getElem_append_right (by omega)] at this
    simpa [h1] using this
theorem Rds.split (h : Rds S w xs (Ls ++ [L])) : ∃ ys y, xs = ys ++ [y] ∧ Rds S w ys Ls ∧ Prs w y L ∧ Off S w y := by
  have hne : xs ≠ [] := fun e => by have := h.1; rw [e] at this; simp at this
  obtain ⟨ys, y, rfl⟩ := snoc_of xs hne
  exact ⟨ys, y, rfl, h.init⟩
end
/-- an element of one's own row is written -/
theorem own_set {w : World} {base g n cap i : Nat} {e : TypeId} {xs : List Value} (h : w.ownsRow base e 1 (.slice (some ⟨g, 0, none⟩) n cap) n xs) (hi : i < n) (y : Value) :
    (w.setCell ⟨g, i, none⟩ y).ownsRow base e 1 (.slice (some ⟨g, 0, none⟩) n cap) n (xs.set i y) ∧ (∃ u, w.cell? ⟨g, i, none⟩ = some u) ∧ w.frozen? ⟨g, i, none⟩ = false ∧ base ≤ g := by
  rcases h with ⟨h1, ⟨h2, _⟩ | ⟨g', cap', cur, h2, h3, h4, h5, h6, h7, h8⟩⟩
  · cases h2
  · cases h2
    have hb : Blk w g e cur := h4
    refine ⟨⟨by rw [List.length_set]; exact h1, .inr ⟨g, cap, _, rfl, h3, hb.set_ i y, h5, h6, by rw [Array.size_setIfInBounds]; exact h7, ?_⟩⟩, ⟨_, by rw [hb.cell i, Array.getElem?_eq_getElem (by omega)]⟩, hb.frozen i, h3⟩
    rw [Nat.mul_one] at *
    rw [← h8, Array.toList_setIfInBounds, List.take_set]
/-- the reference's Del, told apart -/
theorem rDel0 (s : Value) (l : List KV) (k : ByteArray) (w : World) (hP : Prs w s l) (hu : Up l) (hz : l.length ≤ 1000000000) (hg : lget l k = none) :
    Calls Try.prog 25 #[s, .string k] w fun e w' => e = .returned (.tuple #[s, .bool false]) ∧ w' = w := by
  have H := rAt s l k w hP hz
  have hP' := hP
  obtain ⟨A, cap, rfl, _, _⟩ := hP'
  rcases latN_parts hu k with ⟨h1, _, _⟩ | ⟨h1, h2, _, _⟩ | ⟨_, _, h3, _, _⟩
  · exact rDelNo A cap l k _ w hP H (.inl h1)
  · exact rDelNo A cap l k _ w hP H (.inr ⟨h1, h2⟩)
  · rw [hg] at h3; cases h3
theorem rDel1 (s : Value) (l : List KV) (k o : ByteArray) (w : World) (hP : Prs w s l) (hu : Up l) (hz : l.length ≤ 1000000000) (hg : lget l k = some o) :
    Calls Try.prog 25 #[s, .string k] w fun e w' => ∃ v', e = .returned (.tuple #[v', .bool true]) ∧ OwnPrs w.heap.size v' (ldel l k) w w' := by
  have H := rAt s l k w hP hz
  have hP' := hP
  obtain ⟨A, cap, rfl, _, _⟩ := hP'
  rcases latN_parts hu k with ⟨_, h2, _⟩ | ⟨_, _, h3, _⟩ | ⟨h1, h2, h3, h4, h5⟩
  · rw [hg] at h2; cases h2
  · rw [hg] at h3; cases h3
  · rw [h5]
    exact rDelYes A cap l k _ w hP h1 hz H h2
end Go.Proofs.Ytpjndgcliegloaa.W
