/-
  The library's functions that package path calls: strings.ReplaceAll, Split, Join, Repeat, strconv.Itoa, in every world that holds the library's tables.
-/
import Derived.Test.YtjmbbkjepgahgaaDoorCItoa
import Derived.Test.YtjmbbkjepgahgaaDoorPMath
import Derived.Test.YtjmbbkjepgahgaaDoorCStrs
import Derived.Lib.ReplaceLaws
namespace Go.Proofs.YtjmbbkjepgahgaaDoor.W
open Go.RowKit Go.Shelf

/-- this world holds what package path's callees read: the powers of ten, and some number in bytealg.MaxLen -/
structure PLay (w : World) : Prop where
  tab : Pow w
  most : ∃ m, w.cell? ⟨0, 0, none⟩ = some (.int .i64 m)
theorem PLay.next {w w' : World} (h : PLay w) (hb : Below w.heap.size w w') : PLay w' := by
  obtain ⟨m, hm⟩ := h.most
  exact ⟨h.tab.next hb, m, cell_next hm hb⟩
theorem replAll (s old new : ByteArray) (hs : s.size ≤ 1000000000) (h1 : 1 ≤ old.size) (h2 : new.size ≤ 2) (w : World) (hL : PLay w) :
    Calls Tryd.prog 23 #[.string s, .string old, .string new] w fun e w' => e = .returned (.string (bs (Lib.replaceAll s.data.toList old.data.toList new.data.toList))) ∧ Below w.heap.size w w' := by
  obtain ⟨m, hm⟩ := hL.most
  have hc := Lib.countB_mul_le old h1 s.size s (Nat.le_refl _)
  have hc1 : Lib.countB s old ≤ s.size := Nat.le_trans (Nat.le_mul_of_pos_right _ (by omega)) hc
  have hc2 : Lib.countB s old * new.size ≤ s.size * 2 := Nat.mul_le_mul hc1 h2
  exact Any.strings_ReplaceAll { Tryd.laysM155 with } Tryd.Builder_Extra_M155 s old new m w (by omega) hm h1 (by omega)
theorem splitAt (s : ByteArray) (hs : s.size ≤ 1000000000) (w : World) (hL : PLay w) :
    Calls Tryd.prog 14 #[.string s, .string ⟨#[47]⟩] w fun e w' => ∃ ps : List ByteArray, ps.map (·.data.toList) = pcs s.data.toList ∧
      e = .returned (.slice (some ⟨w.heap.size, 0, none⟩) ps.length ps.length) ∧ w' = w.alloc (.cells (strVals ps).toArray 9) := by
  obtain ⟨m, hm⟩ := hL.most
  have h1 : 1 ≤ (ByteArray.mk #[47]).size := by decide
  refine (Any.strings_Split { Tryd.laysM146 with } Tryd.laysM146.i9 s ⟨#[47]⟩ m w (by omega) hm h1).mono ?_
  rintro e w' ⟨rfl, rfl⟩
  have hl := Lib.splitB_all ⟨#[47]⟩ h1 0 _ s rfl
  refine ⟨Lib.splitB ⟨#[47]⟩ 0 (Lib.countB s ⟨#[47]⟩) s, split_pcs s, ?_, rfl⟩
  rw [hl]
theorem joinAll (v : Value) (xs : List ByteArray) (B : Nat) (w : World) (hT : Txs w B v xs) (hB : B ≤ w.heap.size) (hcap : ∀ A n c, v = .slice A n c → n ≤ c) (h0 : xs ≠ [])
    (hN : xs.length ≤ 1000000000) (hlen : (Lib.join (xs.map (·.data.toList)) [47]).length ≤ 1000000000) :
    Calls Tryd.prog 18 #[v, .string ⟨#[47]⟩] w fun e w' => e = .returned (.string (bs (Lib.join (xs.map (·.data.toList)) [47]))) ∧ Below w.heap.size w w' := by
  obtain ⟨A, c, rfl, hc⟩ := hT
  have hp : 0 < xs.length := List.length_pos_iff.mpr h0
  obtain ⟨b, o, rfl, hb, -⟩ := hc 0 hp
  refine Any.strings_Join Tryd.lays156 Tryd.Builder_Extra_156 b o c xs ⟨#[47]⟩ w ?_ (by omega) (by omega) (hcap _ _ _ rfl) (Nat.le_trans hlen (by decide))
  intro j x hx
  obtain ⟨hj, rfl⟩ := List.getElem?_eq_some_iff.mp hx
  obtain ⟨b', o', he, -, hcell⟩ := hc j hj
  cases he
  exact hcell
theorem repeatZ (c : Nat) (hc : c ≤ 1000) (w : World) :
    Calls Tryd.prog 21 #[.string ⟨#[48]⟩, .int .i64 c] w fun e w' => e = .returned (.string (bs (List.replicate c 48))) ∧ Below w.heap.size w w' := by
  have h := Any.strings_Repeat Tryd.lays105 Tryd.Builder_Extra_105 ⟨#[48]⟩ c w (by omega) (by rw [show (ByteArray.mk #[48]).size = 1 from rfl]; omega)
  have e : Lib.repeatL (ByteArray.mk #[48]).data.toList c = List.replicate c 48 := by
    have := Lib.repeatL_replicate 48 1 c
    simpa using this
  rw [e] at h
  exact h
end Go.Proofs.YtjmbbkjepgahgaaDoor.W
