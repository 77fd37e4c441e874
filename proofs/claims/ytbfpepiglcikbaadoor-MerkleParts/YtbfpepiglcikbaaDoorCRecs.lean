/-
  A slice of structs of one-cell fields that came in as an argument.
-/
import Derived.Test.YtbfpepiglcikbaaDoorCRow
import Derived.Deep.Slices
import Derived.Deep.Fields
import Derived.Lib.SmallJoins
namespace Go.Proofs.YtbfpepiglcikbaaDoor.W
open Go.ChangeShapes Go.WideShapes Go.ChangeAt Go.RowKit Go.Deep

section
variable {H : Type} {enc : TypeId × Value → H} {P : Program} {w : World} {held : Bool}
/-- the cells of each struct, and that each field reads -/
theorem open_recs {t e : TypeId} {fs : Array Field} {A : Option Addr} {len cap : Nat} {d : DataW H} {p : List MemPlace} (ht : P.underlying t = some (.slice e)) (he : P.underlying e = some (.struct fs)) (hone : oneCellFields P fs = true) (hC : P.cellsOf e = fs.size) (h0 : 0 < fs.size)
    (h : DataW.Trod enc P w 0 (fun _ => true) held t (.slice A len cap) d p) :
    len ≤ cap ∧ len ≤ maxLen ∧ ∀ i, i < len → ∃ b off, A = some ⟨b, off, none⟩ ∧ ∀ (j : Nat) (f : Field), fs[j]? = some f → ∃ v n y, w.cell? ⟨b, off + (i * fs.size + j), none⟩ = some v ∧ DataW.trod enc P w 0 (fun _ => true) held n f.type [v] = some y := by
  obtain ⟨fuel, hf⟩ := h
  rcases open_slice ht hf with ⟨hcs, _⟩ | ⟨a, l, c, m, n, D, Pl, hcs, _, hl, hm, hmm, _, hx⟩
  · simp [Value.cells] at hcs
    obtain ⟨rfl, rfl, rfl⟩ := hcs
    exact ⟨Nat.le_refl _, Nat.zero_le _, fun i hi => absurd hi (by omega)⟩
  · simp [Value.cells] at hcs
    obtain ⟨rfl, rfl, rfl⟩ := hcs
    simp only [if_true] at hmm
    subst hmm
    refine ⟨hl, by omega, fun i hi => ?_⟩
    obtain ⟨cs, hc, hs⟩ := hx i (by omega)
    obtain ⟨ys, n', _, _, hlen, hyl, hfs⟩ := DataW.trod_struct he hs
    obtain ⟨_, _, hat⟩ := World.cells?_some hc
    rw [hC] at hat hlen
    have hp : ∃ b off, a = ⟨b, off, none⟩ := by
      obtain ⟨cs0, hc0, _⟩ := hx 0 (by omega)
      obtain ⟨_, hl0, hat0⟩ := World.cells?_some hc0
      rw [hC] at hat0 hl0
      have h1 := hat0 0 h0
      rw [List.getElem?_eq_getElem (by omega), add_add, show 0 * fs.size + 0 = 0 by omega] at h1
      exact plain_addr h1
    obtain ⟨b, off, rfl⟩ := hp
    refine ⟨b, off, rfl, fun j f hj => ?_⟩
    have hjl : j < fs.size := (Array.getElem?_eq_some_iff.1 hj).1
    obtain ⟨ho, hk⟩ := hone_of hone j f hj
    have hrd := hfs j f hj
    rw [ho, hk, show (cs.drop j).take 1 = [cs[j]'(by omega)] by rw [List.drop_eq_getElem_cons (by omega)]; rfl, List.getElem?_eq_getElem (by omega)] at hrd
    have h1 := hat j hjl
    rw [List.getElem?_eq_getElem (by omega), add_add, add_plain] at h1
    exact ⟨_, _, _, h1, hrd⟩
end
end Go.Proofs.YtbfpepiglcikbaaDoor.W
