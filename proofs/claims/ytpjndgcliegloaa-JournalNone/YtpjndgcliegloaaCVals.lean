/-
  A slice of one-cell values as a list; what is cut of it. No function of the program is named here.
-/
import Derived.Test.YtpjndgcliegloaaCBlk
import Derived.Maps.AppendAt
import Derived.Laws.AppendOwn
namespace Go.Proofs.Ytpjndgcliegloaa.W
open Go.RowKit

theorem add_on (b off j : Nat) : (⟨b, off, none⟩ : Addr).add j = ⟨b, off + j, none⟩ := by unfold Addr.add; split <;> simp_all
/-- the slice value v reads as the values xs -/
def Vls (w : World) (v : Value) (xs : List Value) : Prop :=
  ∃ A cap, v = .slice A xs.length cap ∧ xs.length ≤ cap ∧ ∀ i (h : i < xs.length), ∃ b off, A = some ⟨b, off, none⟩ ∧ w.cell? ⟨b, off + i, none⟩ = some xs[i]
section
variable {w w' : World} {v : Value} {xs : List Value}
theorem Vls.moved (h : Vls w v xs) (hb : ∀ g, v.ownBlock = some g → w'.heap[g]? = w.heap[g]?) : Vls w' v xs := by
  obtain ⟨A, cap, rfl, hl, hc⟩ := h
  refine ⟨A, cap, rfl, hl, fun i hi => ?_⟩
  obtain ⟨b, off, rfl, h1⟩ := hc i hi
  exact ⟨b, off, rfl, (World.cell?_of_block (w := w) (hb b rfl)).trans h1⟩
theorem Vls.below (h : Vls w v xs) (hb : Below w.heap.size w w') : Vls w' v xs := by
  obtain ⟨A, cap, rfl, hl, hc⟩ := h
  refine ⟨A, cap, rfl, hl, fun i hi => ?_⟩
  obtain ⟨b, off, rfl, h1⟩ := hc i hi
  exact ⟨b, off, rfl, (since_of hb).cell h1⟩
theorem Vls.nil (w : World) (A : Option Addr) (cap : Nat) : Vls w (.slice A 0 cap) [] := ⟨A, cap, rfl, Nat.zero_le _, fun i h => absurd h (by simp)⟩
theorem Vls.of_own {base : Nat} {e : TypeId} (h : w.ownsRow base e 1 v xs.length xs) : Vls w v xs := by
  rcases h.2 with ⟨rfl, hn⟩ | ⟨g, cap, cur, rfl, hb, hg, hc, _⟩
  · obtain rfl : xs = [] := List.eq_nil_of_length_eq_zero hn
    exact Vls.nil _ _ _
  · refine ⟨some ⟨g, 0, none⟩, cap, rfl, hc, fun i hi => ⟨g, 0, rfl, ?_⟩⟩
    have := h.cells (g := g) rfl i xs[i] (by simp [hi])
    rwa [add_on] at this
/-- the cells from an address on -/
theorem Vls.cells {b off cap : Nat} (h : Vls w (.slice (some ⟨b, off, none⟩) xs.length cap) xs) : ∀ j u, xs[j]? = some u → w.cell? ((⟨b, off, none⟩ : Addr).add j) = some u := by
  intro j u hj
  obtain ⟨A, cap', e, _, hc⟩ := h
  cases e
  obtain ⟨hlt, rfl⟩ := List.getElem?_eq_some_iff.1 hj
  obtain ⟨b', off', e, h1⟩ := hc j hlt
  cases e
  rw [add_on]
  exact h1
end
section
variable {P : Program} {w : World} {A : Option Addr} {cap : Nat} {xs : List Value} {T e : TypeId} {i0 : TypeInfo}
/-- 's[i:]' -/
theorem vls_from (hT : P.underlying T = some (.slice (P.elem T))) (hE : P.elem T = e) (hi0 : P.info? e = some i0) (hC : P.cellsOf e = 1) (h : Vls w (.slice A xs.length cap) xs) (i : Nat) (hi : i ≤ xs.length) :
    ∃ A' c', (∀ W, (Instr.slice T (.slice A xs.length cap) (some (.int .i64 i)) none none).run P W = .ok (.slice A' (xs.drop i).length c') W) ∧ Vls w (.slice A' (xs.drop i).length c') (xs.drop i) ∧ ((Value.slice A' (xs.drop i).length c').ownBlock = (Value.slice A xs.length cap).ownBlock) := by
  obtain ⟨A0, cap0, e, hcap, hc⟩ := h
  cases e
  refine ⟨_, cap - i, fun W => ?_, ⟨if cap = i then A else A.map (·.add (i * 1)), cap - i, rfl, by rw [List.length_drop]; omega, fun j hj => ?_⟩, ?_⟩
  · have hr := run_slice_l (P := P) (w := W) T A xs.length cap hT .i64 i (by omega) (by omega)
    rw [hE, run_sizeOf W hi0, hC] at hr
    rw [hr, List.length_drop]
    simp [Result.andThen, sliced]
  · rw [List.length_drop] at hj
    obtain ⟨b, off, rfl, h1⟩ := hc (i + j) (by omega)
    refine ⟨b, off + i * 1, ?_, ?_⟩
    · rw [if_neg (by omega), Option.map_some, add_on]
    · rw [List.getElem_drop, show off + i * 1 + j = off + (i + j) by omega]; exact h1
  · cases A with
    | none => simp [Value.ownBlock]
    | some a =>
      have : ∀ x : Addr, (x.add (i * 1)).block = x.block := fun x => by rcases x with ⟨b, off, y⟩; unfold Addr.add; split <;> rfl
      by_cases hcz : cap = i
      · simp [hcz, Value.ownBlock]
      · simp only [if_neg hcz, Option.map_some, Value.ownBlock, this]
/-- 's[:i]' -/
theorem vls_upto (hT : P.underlying T = some (.slice (P.elem T))) (hE : P.elem T = e) (hi0 : P.info? e = some i0) (hC : P.cellsOf e = 1) (A : Option Addr) (n cap i : Nat) (hi : i ≤ cap) :
    ∀ W, (Instr.slice T (.slice A n cap) none (some (.int .i64 i)) none).run P W = .ok (.slice A i cap) W := fun W => by
  have hr := run_slice_h (P := P) (w := W) T A n cap hT .i64 i (by omega) (by omega)
  rw [hE, run_sizeOf W hi0, hC] at hr
  rw [hr]
  cases A <;> simp [Result.andThen, sliced]
  rename_i a
  rcases a with ⟨b, off, x⟩
  cases x <;> simp [Addr.add]
end
end Go.Proofs.Ytpjndgcliegloaa.W
