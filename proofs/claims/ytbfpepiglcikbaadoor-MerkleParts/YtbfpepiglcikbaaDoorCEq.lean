/-
  Comparison of strings.
-/
import Derived.Test.YtbfpepiglcikbaaDoorCBlk
import Derived.WideShapes
namespace Go.Proofs.YtbfpepiglcikbaaDoor.W
open Go.RowKit

theorem str_eq {x y : ByteArray} (h : (x.toList == y.toList) = true) : x = y := by
  have e := eq_of_beq h
  rw [ByteArray.toList_eq, ByteArray.toList_eq] at e
  exact Go.WideShapes.bytes_inj e
theorem str_ne {x y : ByteArray} (h : x ≠ y) : (x.toList == y.toList) = false := by
  cases e : (x.toList == y.toList) with
  | false => rfl
  | true => exact absurd (str_eq e) h
theorem str_some {x : ByteArray} (h : x ≠ ⟨#[]⟩) : x.toList.isEmpty = false := by
  rw [ByteArray.toList_eq]
  cases e : x.data.toList with
  | nil => exact absurd (Go.WideShapes.bytes_inj (b := ⟨#[]⟩) e) h
  | cons a r => rfl
theorem str_none : (ByteArray.mk #[]).toList.isEmpty = true := by rw [ByteArray.toList_eq]; rfl
end Go.Proofs.YtbfpepiglcikbaaDoor.W
