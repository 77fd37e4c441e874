/-
  A pair that came in as an argument.
-/
import Derived.Test.YtkinnlfjcmhcoaaDoorZ0e
namespace Go.Proofs.YtkinnlfjcmhcoaaDoor.W
open Go.ChangeShapes Go.WideShapes Go.ChangeAt Go.RowKit Go.Deep

theorem array2 {α : Type} {cs : Array α} (h : cs.size = 2) : ∃ c0 c1, cs = #[c0, c1] := by
  obtain ⟨l⟩ := cs
  match l, h with
  | [c0, c1], _ => exact ⟨c0, c1, rfl⟩
section
variable {H : Type} {enc : TypeId × Value → H} {w : World} {held : Bool}
set_option maxRecDepth 100000 in
theorem open_pair {r : Reach} {b0 : Nat} {v : Value} {d : DataW H} {p : List MemPlace} (hv : Value.okWide Tryd.prog w r b0 32 v) (h : DataW.Trod enc Tryd.prog w 0 (fun _ => true) held 32 v d p) : ∃ x : KV, v = .agg #[.string x.1, .string x.2] := by
  obtain ⟨cs, rfl, hsz⟩ := okWide_struct pair_und hv
  obtain ⟨c0, c1, rfl⟩ := array2 (hsz.trans (by kernel_rfl))
  obtain ⟨fuel, hf⟩ := h
  obtain ⟨xs, n, _, _, _, hlen, hat⟩ := DataW.trod_struct pair_und hf
  have hone : oneCellFields Tryd.prog pairFields = true := by kernel_rfl
  have htwo : pairFields.size = 2 := by kernel_rfl
  have get : ∀ j, j < 2 → ∃ y, DataW.trod enc Tryd.prog w 0 (fun _ => true) held n ((pairFields[j]?).getD default).type [[c0, c1].getD j c0] = some y := by
    intro j hj
    have e : pairFields[j]? = some ((pairFields[j]?).getD default) := by
      rw [Array.getElem?_eq_getElem (by omega)]
      rfl
    obtain ⟨ho, hk⟩ := hone_of hone j _ e
    have h1 := hat j _ e
    rw [ho, hk, List.getElem?_eq_getElem (by omega)] at h1
    refine ⟨xs[j]'(by omega), ?_⟩
    rw [← h1]
    congr 1
    match j, hj with
    | 0, _ => rfl
    | 1, _ => rfl
  obtain ⟨y0, r0⟩ := get 0 (by omega)
  obtain ⟨y1, r1⟩ := get 1 (by omega)
  clear get hat
  obtain ⟨a0, q0, _, _⟩ := DataW.trod_string (by kernel_rfl) r0
  obtain ⟨a1, q1, _, _⟩ := DataW.trod_string (by kernel_rfl) r1
  simp only [List.getD_cons_zero, List.getD_cons_succ, List.cons.injEq, and_true] at q0 q1
  subst q0 q1
  exact ⟨(a0, a1), rfl⟩
end
end Go.Proofs.YtkinnlfjcmhcoaaDoor.W
