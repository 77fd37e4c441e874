/-
  What a key's proof tells, beside what Get answers.
-/
import Derived.Test.YtkinnlfjcmhcoaaDoorZ0e
import Derived.Test.YtkinnlfjcmhcoaaDoorZ0c
import Derived.Test.YtkinnlfjcmhcoaaDoorZ0f
namespace Go.Proofs.YtkinnlfjcmhcoaaDoor.W
open Go.RowKit

theorem prs_sizes {l : List KV} (h : Brief l) : ∀ p ∈ l, p.1.size ≤ 200 ∧ p.2.size ≤ 200 := fun p hp => by
  have := h p hp
  omega
/-- what Get answers, and the proof's answers beside it -/
theorem tells {l : List KV} (hu : Up l) (hl : l.length ≤ 20) (key : ByteArray) : ∃ (val : ByteArray) (ok : Bool), retGet (lget l key) = .tuple #[.string val, .bool ok] ∧ hasP (rootOf l) (key, val) (bld l key) = ok ∧ lacksP (rootOf l) key (bld l key) = !ok := by
  cases h : lget l key with
  | some x =>
    refine ⟨x, true, rfl, has_bld hu (by omega) h, ?_⟩
    rw [bld_some h]
    rfl
  | none =>
    refine ⟨ByteArray.empty, false, rfl, ?_, lacks_bld hu (by omega) h⟩
    rw [bld_none h]
    rfl
theorem bld_paths {l : List KV} (hl : l.length ≤ 20) (key : ByteArray) : ∀ q ∈ (bld l key).paths, q.length ≤ 1000000 ∧ ∀ y ∈ q, y.length ≤ 1000 := by
  intro q hq
  have h : ∃ i, q = pth l i := by
    cases h : lget l key with
    | some x =>
      rw [bld_some h] at hq
      exact ⟨_, List.mem_singleton.1 hq⟩
    | none =>
      rw [bld_none h] at hq
      simp only at hq
      unfold pathsOf at hq
      rw [List.mem_map] at hq
      obtain ⟨i, _, rfl⟩ := hq
      exact ⟨_, rfl⟩
  obtain ⟨i, rfl⟩ := h
  obtain ⟨h1, h2⟩ := pth_len _ l i rfl (by omega)
  exact ⟨by omega, fun y hy => by have := h2 y hy; omega⟩
end Go.Proofs.YtkinnlfjcmhcoaaDoor.W
