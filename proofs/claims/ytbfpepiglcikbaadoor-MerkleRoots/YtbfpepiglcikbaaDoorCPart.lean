/-
  Parts of a slice of pairs: 'l[i:]' and 'l[:i]'.
-/
import Derived.Test.YtbfpepiglcikbaaDoorTPrs
namespace Go.Proofs.YtbfpepiglcikbaaDoor.W
open Go.RowKit

section
variable {w : World} {A : Option Addr} {cap : Nat} {l : List KV}
theorem prs_cut (T : TypeId) (hT : Tryd.prog.underlying T = some (.slice (Tryd.prog.elem T))) (hE : Tryd.prog.elem T = 30) (h : Prs w (.slice A l.length cap) l) (i : Nat) (hi : i ≤ l.length) :
    ∃ A' c', (∀ W, (Instr.slice T (.slice A l.length cap) (some (.int .i64 i)) none none).run Tryd.prog W = .ok (.slice A' (l.drop i).length c') W) ∧ Prs w (.slice A' (l.drop i).length c') (l.drop i) := by
  obtain ⟨A0, cap0, e, hcap, hc⟩ := h
  cases e
  refine ⟨_, cap - i, fun W => ?_, ⟨if cap = i then A else A.map (·.add (i * 2)), cap - i, rfl, by rw [List.length_drop]; omega, fun j hj => ?_⟩⟩
  · obtain ⟨i0, hi0, hz0, hz1, hz2⟩ := info_parts infoPair
    have hr := run_slice_l (P := Tryd.prog) (w := W) T A l.length cap hT .i64 i (by omega) (by omega)
    rw [hE, run_sizeOf W hi0, show Tryd.prog.cellsOf 30 = 2 by kernel_rfl] at hr
    rw [hr, List.length_drop]
    simp [Result.andThen, sliced]
  · rw [List.length_drop] at hj
    obtain ⟨b, off, rfl, h1, h2⟩ := hc (i + j) (by omega)
    refine ⟨b, off + i * 2, ?_, ?_, ?_⟩
    · rw [if_neg (by omega), Option.map_some, add_far]
    · rw [List.getElem_drop, show off + i * 2 + j * 2 = off + (i + j) * 2 by omega]; exact h1
    · rw [List.getElem_drop, show off + i * 2 + j * 2 + 1 = off + (i + j) * 2 + 1 by omega]; exact h2
theorem prs_upto (T : TypeId) (hT : Tryd.prog.underlying T = some (.slice (Tryd.prog.elem T))) (hE : Tryd.prog.elem T = 30) (h : Prs w (.slice A l.length cap) l) (i : Nat) (hi : i ≤ l.length) :
    (∀ W, (Instr.slice T (.slice A l.length cap) none (some (.int .i64 i)) none).run Tryd.prog W = .ok (.slice A i cap) W) ∧ Prs w (.slice A i cap) (l.take i) := by
  obtain ⟨A0, cap0, e, hcap, hc⟩ := h
  cases e
  refine ⟨fun W => ?_, ⟨A, cap, by rw [List.length_take, Nat.min_eq_left hi], by rw [List.length_take]; omega, fun j hj => ?_⟩⟩
  · obtain ⟨i0, hi0, hz0, hz1, hz2⟩ := info_parts infoPair
    have hr := run_slice_h (P := Tryd.prog) (w := W) T A l.length cap hT .i64 i (by omega) (by omega)
    rw [hE, run_sizeOf W hi0, show Tryd.prog.cellsOf 30 = 2 by kernel_rfl] at hr
    rw [hr]
    cases A <;> simp [Result.andThen, sliced]
    rename_i a
    rcases a with ⟨b, off, x⟩
    cases x <;> simp [Addr.add]
  · rw [List.length_take] at hj
    obtain ⟨b, off, rfl, h1, h2⟩ := hc j (by omega)
    exact ⟨b, off, rfl, by rw [List.getElem_take]; exact h1, by rw [List.getElem_take]; exact h2⟩
end

end Go.Proofs.YtbfpepiglcikbaaDoor.W
