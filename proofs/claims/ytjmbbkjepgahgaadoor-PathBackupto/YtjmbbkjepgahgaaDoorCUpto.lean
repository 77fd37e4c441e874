/-
  What the bound of the second form gives: how many letters and values came in.
-/
import Derived.Test.YtjmbbkjepgahgaaDoorCLift
namespace Go.Proofs.YtjmbbkjepgahgaaDoor.W
open Go.ChangeShapes Go.WideShapes Go.ChangeAt Go.RowKit

theorem bulk_str {H : Type} (l : List UInt8) : Rows.uptoBulk (DataW.lit (H := H) (.string l)) = l.length + 1 := rfl
theorem bulk_le {H : Type} {ds : List (DataW H)} (h : Rows.uptoSmall H ds = true) : Rows.uptoBulkAll ds ≤ 1048576 := by
  unfold Rows.uptoSmall at h
  exact of_decide_eq_true h
theorem bulk_strs {H : Type} (ss : List ByteArray) : Rows.uptoBulkAll (strs (H := H) ss) = (ss.map ByteArray.size).sum + ss.length := by
  induction ss with
  | nil => rfl
  | cons s ss ih =>
    have e : strs (H := H) (s :: ss) = .lit (.string s.data.toList) :: strs ss := rfl
    rw [e, Rows.uptoBulkAll, bulk_str, ih, size_list]
    simp only [List.map_cons, List.sum_cons, List.length_cons]
    omega
section
variable {H : Type} {enc : TypeId × Value → H} {P : Program} {w : World} {held : Bool}
/-- a slice of strings that came in, with its bulk -/
theorem open_txs_upto {t e : TypeId} {A : Option Addr} {len cap : Nat} {d : DataW H} {p : List MemPlace} (ht : P.underlying t = some (.slice e)) (he : P.underlying e = some .string) (hc : P.cellsOf e = 1)
    (h : DataW.Trod enc P w 0 (fun _ => true) held t (.slice A len cap) d p) : ∃ ss : List ByteArray, Txs w w.heap.size (.slice A len cap) ss ∧ ss.length ≤ maxLen ∧ (ss.map ByteArray.size).sum + ss.length ≤ Rows.uptoBulk d ∧ len ≤ cap := by
  obtain ⟨fuel, hf⟩ := h
  rcases open_strings ht he hc hf with ⟨hcs, _⟩ | ⟨a, l, c, ss, hcs, _, hl, hm, hz, hx, hcell, _⟩
  · simp [Value.cells] at hcs
    obtain ⟨rfl, rfl, rfl⟩ := hcs
    exact ⟨[], Txs.nil _ _ _ _, by simp, by simp, Nat.le_refl _⟩
  · simp [Value.cells] at hcs
    obtain ⟨rfl, rfl, rfl⟩ := hcs
    have hz' : ss.length = cap := by simpa using hz
    have e : (ss.take len).length = len := by rw [List.length_take]; omega
    have hd : d = .slice (strs (ss.take len)) (strs (ss.drop len)) := congrArg Prod.fst hx
    refine ⟨ss.take len, ⟨some a, cap, by rw [e], fun i hi => ?_⟩, by rw [e]; omega, ?_, hl⟩
    · have hi' : i < ss.length := by rw [List.length_take] at hi; omega
      obtain ⟨b, off, rfl⟩ := plain_addr (hcell 0 (by omega))
      have h1 := hcell i hi'
      rw [add_plain] at h1
      refine ⟨b, off, rfl, ?_, ?_⟩
      · have := World.block_lt_of_cell? w _ h1
        exact this
      · rw [h1, List.getElem_take]
        simp [List.getD, hi']
    · rw [hd, Rows.uptoBulk, bulk_strs]
      omega
end
end Go.Proofs.YtjmbbkjepgahgaaDoor.W
