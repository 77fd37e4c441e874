/-
  Strings: 'string([]byte{c})', a sum, a comparison.
-/
import Derived.Test.YtjmbbkjepgahgaaDoorCBuf
import Derived.WideShapes
namespace Go.Proofs.YtjmbbkjepgahgaaDoor.W
open Go.RowKit

/-- 'string([]byte{c})' -/
theorem run_one (W : World) (c : Int) (h0 : 0 ≤ c) (h1 : c < 256) :
    (convert 43 9 (.slice (some ⟨W.heap.size, 0, none⟩) 1 1)).run Tryd.prog (W.alloc (.cells #[.int .u8 c] 5)) = .ok (.string (bs [UInt8.ofNat c.toNat])) (W.alloc (.cells #[.int .u8 c] 5)) := by
  refine run_convert_bytes_back (W.alloc (.cells #[.int .u8 c] 5)) 43 9 5 ⟨W.heap.size, 0, none⟩ 1 [UInt8.ofNat c.toNat] Tryd.underlying43 Tryd.underlying5 Tryd.underlying9 ?_
  intro j hj
  have e : j = 0 := by simpa using hj
  subst e
  simp only [List.getElem_cons_zero]
  rw [show (UInt8.ofNat c.toNat).toNat = c.toNat from toNat_ofNat (by omega), Int.toNat_of_nonneg h0]
  simp [Addr.add]
theorem run_add (W : World) (a b : List UInt8) (h : a.length + b.length ≤ 9223372036854775807) : (Op.stringOp .add (bs a) (bs b)).run Tryd.prog W = .ok (.string (bs (a ++ b))) W := by
  rw [run_string_add_sum W (bs a) (bs b) (by rw [bs_size, bs_size]; exact h), bs_append]
theorem str_eq {x y : ByteArray} (h : (x.toList == y.toList) = true) : x = y := by
  have e := eq_of_beq h
  rw [ByteArray.toList_eq, ByteArray.toList_eq] at e
  exact Go.WideShapes.bytes_inj e
theorem str_ne {x y : ByteArray} (h : x ≠ y) : (x.toList == y.toList) = false := by
  cases e : (x.toList == y.toList) with
  | false => rfl
  | true => exact absurd (str_eq e) h
theorem str_some {x : ByteArray} (h : x ≠ ⟨#[]⟩) : x.toList.isEmpty = false := by
  rw [ByteArray.toList_eq]
  cases e : x.data.toList with
  | nil => exact absurd (Go.WideShapes.bytes_inj (b := ⟨#[]⟩) e) h
  | cons a r => rfl
theorem str_none : (ByteArray.mk #[]).toList.isEmpty = true := by rw [ByteArray.toList_eq]; rfl
end Go.Proofs.YtjmbbkjepgahgaaDoor.W
