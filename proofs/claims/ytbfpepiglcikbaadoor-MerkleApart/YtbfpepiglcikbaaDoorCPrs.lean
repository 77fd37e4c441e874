/-
  A slice of pairs that came in as an argument.
-/
import Derived.Test.YtbfpepiglcikbaaDoorCRecs
import Derived.Test.YtbfpepiglcikbaaDoorCList
import Derived.Test.YtbfpepiglcikbaaDoorTPrs
namespace Go.Proofs.YtbfpepiglcikbaaDoor.W
open Go.ChangeShapes Go.WideShapes Go.ChangeAt Go.RowKit Go.Deep

noncomputable def pairFields : Array Field := match Tryd.prog.underlying 30 with
  | some (.struct fs) => fs
  | _ => #[]
theorem pair_und : Tryd.prog.underlying 30 = some (.struct pairFields) := by kernel_rfl
section
variable {H : Type} {enc : TypeId × Value → H} {w : World} {held : Bool}
theorem open_prs {A : Option Addr} {len cap : Nat} {d : DataW H} {p : List MemPlace} (h : DataW.Trod enc Tryd.prog w 0 (fun _ => true) held 22 (.slice A len cap) d p) :
    ∃ l : List KV, Prs w (.slice A len cap) l ∧ l.length ≤ maxLen := by
  obtain ⟨hc, hm, hr⟩ := open_recs Tryd.underlying22 pair_und (by kernel_rfl) (by kernel_rfl) (by rw [show pairFields.size = 2 by kernel_rfl]; decide) h
  rw [show pairFields.size = 2 by kernel_rfl] at hr
  obtain ⟨l, hl, hq⟩ := list_of len (fun i (x : KV) => ∃ b off, A = some ⟨b, off, none⟩ ∧ w.cell? ⟨b, off + i * 2, none⟩ = some (.string x.1) ∧ w.cell? ⟨b, off + i * 2 + 1, none⟩ = some (.string x.2)) (fun i hi => by
    obtain ⟨b, off, rfl, hf⟩ := hr i hi
    obtain ⟨f0, e0, t0⟩ : ∃ f : Field, pairFields[0]? = some f ∧ Tryd.prog.underlying f.type = some .string := ⟨(pairFields[0]?).getD default, by kernel_rfl, by kernel_rfl⟩
    obtain ⟨f1, e1, t1⟩ : ∃ f : Field, pairFields[1]? = some f ∧ Tryd.prog.underlying f.type = some .string := ⟨(pairFields[1]?).getD default, by kernel_rfl, by kernel_rfl⟩
    obtain ⟨v0, n0, y0, c0, r0⟩ := hf 0 f0 e0
    obtain ⟨v1, n1, y1, c1, r1⟩ := hf 1 f1 e1
    obtain ⟨a0, q0, _, _⟩ := DataW.trod_string t0 r0
    obtain ⟨a1, q1, _, _⟩ := DataW.trod_string t1 r1
    cases q0
    cases q1
    exact ⟨(a0, a1), b, off, rfl, c0, by rw [Nat.add_assoc]; exact c1⟩)
  subst hl
  exact ⟨l, ⟨A, cap, rfl, hc, hq⟩, hm⟩
end
end Go.Proofs.YtbfpepiglcikbaaDoor.W
