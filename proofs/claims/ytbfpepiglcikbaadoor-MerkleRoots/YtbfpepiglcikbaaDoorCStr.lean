/-
  Strings: 'string([]byte{c})', a sum, a comparison.
-/
import Derived.Test.YtbfpepiglcikbaaDoorCBuf
import Derived.Test.YtbfpepiglcikbaaDoorCEq
namespace Go.Proofs.YtbfpepiglcikbaaDoor.W
open Go.RowKit

/-- 'string([]byte{c})' -/
theorem run_one (W : World) (c : Int) (h0 : 0 ≤ c) (h1 : c < 256) :
    (convert 47 9 (.slice (some ⟨W.heap.size, 0, none⟩) 1 1)).run Tryd.prog (W.alloc (.cells #[.int .u8 c] 5)) = .ok (.string (bs [UInt8.ofNat c.toNat])) (W.alloc (.cells #[.int .u8 c] 5)) := by
  refine run_convert_bytes_back (W.alloc (.cells #[.int .u8 c] 5)) 47 9 5 ⟨W.heap.size, 0, none⟩ 1 [UInt8.ofNat c.toNat] Tryd.underlying47 Tryd.underlying5 Tryd.underlying9 ?_
  intro j hj
  have e : j = 0 := by simpa using hj
  subst e
  simp only [List.getElem_cons_zero]
  rw [show (UInt8.ofNat c.toNat).toNat = c.toNat from toNat_ofNat (by omega), Int.toNat_of_nonneg h0]
  simp [Addr.add]
theorem run_add (W : World) (a b : List UInt8) (h : a.length + b.length ≤ 9223372036854775807) : (Op.stringOp .add (bs a) (bs b)).run Tryd.prog W = .ok (.string (bs (a ++ b))) W := by
  rw [run_string_add_sum W (bs a) (bs b) (by rw [bs_size, bs_size]; exact h), bs_append]
end Go.Proofs.YtbfpepiglcikbaaDoor.W
