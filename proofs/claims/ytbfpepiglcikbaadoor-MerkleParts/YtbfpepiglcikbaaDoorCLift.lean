/-
  Slices of strings and of bytes that came in as arguments.
-/
import Derived.Test.YtbfpepiglcikbaaDoorCRow
import Derived.Test.YtbfpepiglcikbaaDoorCTxs
import Derived.SliceStrings
namespace Go.Proofs.YtbfpepiglcikbaaDoor.W
open Go.ChangeShapes Go.WideShapes Go.ChangeAt Go.RowKit

section
variable {H : Type} {enc : TypeId × Value → H} {P : Program} {w : World} {held : Bool}
/-- a slice of strings that came in -/
theorem open_txs {t e : TypeId} {A : Option Addr} {len cap : Nat} {d : DataW H} {p : List MemPlace} (ht : P.underlying t = some (.slice e)) (he : P.underlying e = some .string) (hc : P.cellsOf e = 1)
    (h : DataW.Trod enc P w 0 (fun _ => true) held t (.slice A len cap) d p) : ∃ ss : List ByteArray, Txs w w.heap.size (.slice A len cap) ss ∧ ss.length ≤ maxLen := by
  obtain ⟨fuel, hf⟩ := h
  rcases open_strings ht he hc hf with ⟨hcs, _⟩ | ⟨a, l, c, ss, hcs, _, hl, hm, hz, _, hcell, _⟩
  · simp [Value.cells] at hcs
    obtain ⟨rfl, rfl, rfl⟩ := hcs
    exact ⟨[], Txs.nil _ _ _ _, by simp⟩
  · simp [Value.cells] at hcs
    obtain ⟨rfl, rfl, rfl⟩ := hcs
    have hz' : ss.length = cap := by simpa using hz
    have e : (ss.take len).length = len := by rw [List.length_take]; omega
    refine ⟨ss.take len, ⟨some a, cap, by rw [e], fun i hi => ?_⟩, by rw [e]; omega⟩
    have hi' : i < ss.length := by rw [List.length_take] at hi; omega
    obtain ⟨b, off, rfl⟩ := plain_addr (hcell 0 (by omega))
    have h1 := hcell i hi'
    rw [add_plain] at h1
    refine ⟨b, off, rfl, ?_, ?_⟩
    · have := World.block_lt_of_cell? w _ h1
      exact this
    · rw [h1, List.getElem_take]
      simp [List.getD, hi']
/-- a slice of bytes that came in -/
def Bytes (w : World) (B : Nat) (v : Value) (l : List UInt8) : Prop :=
  ∃ A cap, v = .slice A l.length cap ∧ ∀ i (h : i < l.length), ∃ b off, A = some ⟨b, off, none⟩ ∧ b < B ∧ w.cell? ⟨b, off + i, none⟩ = some (.int .u8 l[i].toNat)
theorem open_u8s {t e : TypeId} {A : Option Addr} {len cap : Nat} {d : DataW H} {p : List MemPlace} (ht : P.underlying t = some (.slice e)) (he : P.underlying e = some (.int .u8)) (hc : P.cellsOf e = 1)
    (h : DataW.Trod enc P w 0 (fun _ => true) held t (.slice A len cap) d p) : ∃ l : List UInt8, Bytes w w.heap.size (.slice A len cap) l ∧ l.length ≤ maxLen := by
  obtain ⟨fuel, hf⟩ := h
  rcases open_ints ht he hc hf with ⟨hcs, _⟩ | ⟨a, l, c, zs, hcs, _, hl, hm, hz, _, hcell, hwz⟩
  · simp [Value.cells] at hcs
    obtain ⟨rfl, rfl, rfl⟩ := hcs
    exact ⟨[], ⟨none, 0, rfl, fun i h => absurd h (by simp)⟩, by simp⟩
  · simp [Value.cells] at hcs
    obtain ⟨rfl, rfl, rfl⟩ := hcs
    have hz' : zs.length = cap := by simpa using hz
    have e : ((zs.take len).map fun n => UInt8.ofNat n.toNat).length = len := by rw [List.length_map, List.length_take]; omega
    refine ⟨(zs.take len).map fun n => UInt8.ofNat n.toNat, ⟨some a, cap, by rw [e], fun i hi => ?_⟩, by rw [e]; omega⟩
    have hi' : i < zs.length := by rw [List.length_map, List.length_take] at hi; omega
    obtain ⟨b, off, rfl⟩ := plain_addr (hcell 0 (by omega))
    have h1 := hcell i hi'
    rw [add_plain] at h1
    refine ⟨b, off, rfl, ?_, ?_⟩
    · have := World.block_lt_of_cell? w _ h1
      exact this
    · have hw := bounds_u8 (hwz zs[i] (List.getElem_mem hi'))
      rw [h1, List.getElem_map, List.getElem_take, toNat_ofNat (by omega)]
      simp [List.getD, hi']
      omega
end
end Go.Proofs.YtbfpepiglcikbaaDoor.W
