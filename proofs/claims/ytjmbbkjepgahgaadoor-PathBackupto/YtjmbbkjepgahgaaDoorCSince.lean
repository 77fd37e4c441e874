/-
  Nothing that lay in w0 has turned since (a plain conjunction: it reads the same behind a draw).
-/
import Derived.Test.YtjmbbkjepgahgaaDoorCTxs
namespace Go.Proofs.YtjmbbkjepgahgaaDoor.W
open Go.RowKit

def Since (w0 W : World) : Prop := W.os = w0.os ∧ W.tape = w0.tape ∧ W.output = w0.output ∧ w0.heap.size ≤ W.heap.size ∧ ∀ i, i < w0.heap.size → W.heap[i]? = w0.heap[i]?
theorem Since.refl (w : World) : Since w w := ⟨rfl, rfl, rfl, Nat.le_refl _, fun _ _ => rfl⟩
theorem Since.below {w0 W : World} (h : Since w0 W) : Below w0.heap.size w0 W := ⟨h.1, h.2.1, h.2.2.1, h.2.2.2.1, h.2.2.2.2⟩
theorem since_of {w0 W : World} (h : Below w0.heap.size w0 W) : Since w0 W := ⟨h.os, h.tape, h.output, h.size, h.block⟩
theorem Since.cell {w0 W : World} (h : Since w0 W) {p : Addr} {v : Value} (hc : w0.cell? p = some v) : W.cell? p = some v := (h.below.cell (World.block_lt_of_cell? w0 _ hc)).trans hc
theorem Since.txs {w0 W : World} (h : Since w0 W) {v : Value} {ss : List ByteArray} (hT : Txs w0 w0.heap.size v ss) : Txs W W.heap.size v ss := (hT.below h.below).more h.2.2.2.1
theorem calls_since {P : Program} {f : FuncId} {args : Array Value} {w0 W : World} {x : Ending} (h : Calls P f args W fun e w' => e = x ∧ Below W.heap.size W w') (hs : Since w0 W) :
    Calls P f args W fun e w' => e = x ∧ Since w0 w' :=
  h.mono fun _ _ ⟨he, hb⟩ => ⟨he, since_of (step_below hs.below hb)⟩

/-- the rest of a slice of strings that is not empty: l[1:], as the model gives it -/
theorem Txs.tail {w : World} {b off c : Nat} {p : ByteArray} {r : List ByteArray} (h : Txs w w.heap.size (.slice (some ⟨b, off, none⟩) (r.length + 1) c) (p :: r)) :
    w.cell? ⟨b, off, none⟩ = some (.string p) ∧ ∀ k, Txs w w.heap.size (.slice (some ⟨b, off + 1, none⟩) r.length k) r := by
  obtain ⟨A, c', e, hc⟩ := h
  simp only [Value.slice.injEq] at e
  obtain ⟨rfl, -, rfl⟩ := e
  obtain ⟨b0, o0, e0, hb0, h0⟩ := hc 0 (by simp)
  cases e0
  refine ⟨by simpa using h0, fun k => ⟨_, k, rfl, fun i hi => ⟨b, off + 1, rfl, hb0, ?_⟩⟩⟩
  obtain ⟨b', o', e', -, hcell⟩ := hc (i + 1) (by simp; omega)
  cases e'
  rw [show off + 1 + i = off + (i + 1) by omega, hcell]
  simp
end Go.Proofs.YtjmbbkjepgahgaaDoor.W
