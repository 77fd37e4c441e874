/-
  A slice of strings, as a list of strings; a block that is known whole; only one block has turned.
-/
import Derived.Test.YtbfpepiglcikbaaDoorCBuf
namespace Go.Proofs.YtbfpepiglcikbaaDoor.W
open Go.RowKit

/-- the slice value v reads as the strings ss, in memory below block B -/
def Txs (w : World) (B : Nat) (v : Value) (ss : List ByteArray) : Prop :=
  ∃ A cap, v = .slice A ss.length cap ∧ ∀ i (h : i < ss.length), ∃ b off, A = some ⟨b, off, none⟩ ∧ b < B ∧ w.cell? ⟨b, off + i, none⟩ = some (.string ss[i])
theorem Txs.below {w w' : World} {B : Nat} {v : Value} {ss : List ByteArray} (h : Txs w B v ss) (hb : Below B w w') : Txs w' B v ss := by
  obtain ⟨A, cap, rfl, hc⟩ := h
  refine ⟨A, cap, rfl, fun i hi => ?_⟩
  obtain ⟨b, off, ha, hlt, hcell⟩ := hc i hi
  exact ⟨b, off, ha, hlt, (hb.cell (p := ⟨b, off + i, none⟩) hlt).trans hcell⟩
theorem Txs.moved {w w' : World} {B : Nat} {v : Value} {ss : List ByteArray} (h : Txs w B v ss) (hb : ∀ g, v.ownBlock = some g → w'.heap[g]? = w.heap[g]?) : Txs w' B v ss := by
  obtain ⟨A, cap, rfl, hc⟩ := h
  refine ⟨A, cap, rfl, fun i hi => ?_⟩
  obtain ⟨b, off, rfl, hlt, hcell⟩ := hc i hi
  exact ⟨b, off, rfl, hlt, (World.cell?_of_block (w := w) (hb b rfl)).trans hcell⟩
theorem Txs.more {w : World} {B B' : Nat} {v : Value} {ss : List ByteArray} (h : Txs w B v ss) (hb : B ≤ B') : Txs w B' v ss := by
  obtain ⟨A, cap, rfl, hc⟩ := h
  refine ⟨A, cap, rfl, fun i hi => ?_⟩
  obtain ⟨b, off, ha, hlt, hcell⟩ := hc i hi
  exact ⟨b, off, ha, by omega, hcell⟩
theorem Txs.nil (w : World) (B cap : Nat) (A : Option Addr) : Txs w B (.slice A 0 cap) [] := ⟨A, cap, rfl, fun i h => absurd h (by simp)⟩
end Go.Proofs.YtbfpepiglcikbaaDoor.W
