/-
  An array of words that came in by value.
-/
import Derived.Test.YtocbmffnojhimaaDoorSSched
import Derived.Test.YtocbmffnojhimaaDoorCLift
namespace Go.Proofs.YtocbmffnojhimaaDoor.W
open Go.ChangeShapes Go.WideShapes Go.ChangeAt Go.RowKit

section
variable {H : Type} {enc : TypeId × Value → H} {P : Program} {w : World} {held : Bool}
theorem open_words {t e : TypeId} {n : Nat} {r : Reach} {b0 : Nat} {v : Value} {d : DataW H} {p : List MemPlace} (ht : P.underlying t = some (.array n e)) (he : P.underlying e = some (.int .u32)) (hc : P.cellsOf e = 1) (hC : P.cellsOf t = n)
    (hv : Value.okWide P w r b0 t v) (h : DataW.Trod enc P w 0 (fun _ => true) held t v d p) : ∃ l : List Nat, v = .agg (wv l) ∧ l.length = n := by
  simp only [Value.okWide, ht] at hv
  obtain ⟨cs, rfl, hsz, _⟩ := hv
  obtain ⟨fuel, hf⟩ := h
  obtain ⟨xs, m, _, _, _, hxl, hx⟩ := DataW.trod_array ht hf
  have hcell : ∀ i, i < n → ∃ z : Nat, cs[i]? = some (.int .u32 (z : Int)) := by
    intro i hi
    have h1 := hx i hi
    rw [hc, Nat.mul_one, List.getElem?_eq_getElem (by omega)] at h1
    obtain ⟨a, ea, _, wa⟩ := DataW.trod_int he h1
    have hb := bounds_u32 wa
    refine ⟨a.toNat, ?_⟩
    have e1 : ((Value.agg cs).cells.toList.drop i).take 1 = [.int .u32 a] := ea
    have hlt : i < cs.toList.length := by rw [Array.length_toList, hsz, hC]; exact hi
    have e2 : (cs.toList.drop i).take 1 = [cs.toList[i]] := by
      rw [List.drop_eq_getElem_cons hlt]
      rfl
    have e3 : [cs.toList[i]] = [Value.int .u32 a] := e2.symm.trans e1
    have e4 : cs.toList[i] = Value.int .u32 a := by injection e3
    rw [← Array.getElem?_toList, List.getElem?_eq_getElem hlt, e4, Int.toNat_of_nonneg hb.1]
  have hex : ∀ k, k ≤ n → ∃ l : List Nat, l.length = k ∧ ∀ i, i < k → cs[i]? = some (.int .u32 (nth l i : Int)) := by
    intro k
    induction k with
    | zero => intro _; exact ⟨[], rfl, fun i hi => absurd hi (by omega)⟩
    | succ k ih =>
      intro hk
      obtain ⟨l, hl, hi⟩ := ih (by omega)
      obtain ⟨z, hz⟩ := hcell k (by omega)
      refine ⟨l ++ [z], by simp [hl], fun i hik => ?_⟩
      have en : nth (l ++ [z]) i = if i < k then nth l i else z := by
        unfold nth
        rw [List.getD_eq_getElem?_getD, List.getD_eq_getElem?_getD, List.getElem?_append, hl]
        split
        · rfl
        · rw [show i - k = 0 by omega]; rfl
      rw [en]
      by_cases e : i < k
      · rw [if_pos e]; exact hi i e
      · rw [if_neg e, show i = k by omega]; exact hz
  obtain ⟨l, hl, hi⟩ := hex n (Nat.le_refl _)
  refine ⟨l, ?_, hl⟩
  congr 1
  apply Array.ext_getElem?
  intro i
  by_cases e : i < n
  · rw [hi i e, wv_at l i (by omega)]
  · rw [Array.getElem?_eq_none (by rw [hsz, hC]; omega), Array.getElem?_eq_none (by rw [wv_size]; omega)]
end
end Go.Proofs.YtocbmffnojhimaaDoor.W
