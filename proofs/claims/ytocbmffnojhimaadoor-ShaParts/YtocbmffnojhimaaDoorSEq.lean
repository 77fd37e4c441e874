/-
  Comparison of two arrays of eight words.
-/
import Derived.Test.YtocbmffnojhimaaDoorSSched
import Derived.ChangeKeysEq
namespace Go.Proofs.YtocbmffnojhimaaDoor.W
open Go.RowKit

theorem guard8 : Tryd.prog.eqGuardType Tryd.prog.depth 26 = false := by kernel_rfl
theorem cells32 : Tryd.prog.cellsOf 25 = 1 := by kernel_rfl
theorem info32' : (Tryd.prog.info? 25).map (fun i => (i.zero, i.size, i.bytes)) = some (some (.int .u32 0), 1, 4) := by kernel_rfl
theorem part_word (w : World) (l : List Nat) (i : Nat) (h : i < l.length) : (part 25 (wv l) i).run Tryd.prog w = .ok (.int .u32 (nth l i)) w := by
  obtain ⟨i0, hi0, _, hz1, _⟩ := info_parts info32'
  simp [part, sizeOf, typeInfo, hi0, hz1, isAgg, run_underlying Tryd.underlying25, wv_at l i h, go_sem]
theorem items_same (w : World) (d : Nat) (l : List Nat) : ∀ is : List Nat, (∀ i ∈ is, i < l.length) → (Op.eqItems (d + 1) 25 1 (wv l) (wv l) is).run Tryd.prog w = .ok true w := by
  intro is
  induction is with
  | nil => intro _; simp [Op.eqItems]
  | cons i is ih =>
    intro h
    have hi := h i (by simp)
    simp [Op.eqItems, part_word w l i hi, run_equalIn_int w d 25 .u32 .u32 _ _ Tryd.underlying25, ih (fun j hj => h j (by simp [hj]))]
theorem equal_same (w : World) (l : List Nat) (h : l.length = 8) : (Op.equalIn 10000 26 (.agg (wv l)) (.agg (wv l))).run Tryd.prog w = .ok true w := by
  obtain ⟨i0, hi0, _, _, _⟩ := info_parts info32'
  rw [show (10000 : Nat) = 9998 + 1 + 1 from rfl, run_equalIn_array w (9998 + 1) _ _ Tryd.underlying26 hi0, cells32]
  exact items_same w 9998 l _ (fun i hi => by rw [h]; simpa using hi)
theorem equal_not (w : World) (a b : List Nat) (ha : a.length = 8) (hb : b.length = 8) (h : nth a 0 ≠ nth b 0) : (Op.equalIn 10000 26 (.agg (wv a)) (.agg (wv b))).run Tryd.prog w = .ok false w := by
  obtain ⟨i0, hi0, _, _, _⟩ := info_parts info32'
  rw [show (10000 : Nat) = 9998 + 1 + 1 from rfl, run_equalIn_array w (9998 + 1) _ _ Tryd.underlying26 hi0, cells32, show List.range 8 = 0 :: [1, 2, 3, 4, 5, 6, 7] from rfl]
  have e : ((nth a 0 : Int) == (nth b 0 : Int)) = false := beq_eq_false_iff_ne.2 (by omega)
  simp [Op.eqItems, part_word w a 0 (by omega), part_word w b 0 (by omega), run_equalIn_int w 9998 25 .u32 .u32 _ _ Tryd.underlying25, e]
end Go.Proofs.YtocbmffnojhimaaDoor.W
