/-
  The boxes of a pair and a proof that came in as arguments.
-/
import Derived.Test.YtkinnlfjcmhcoaaDoorZ0d
namespace Go.Proofs.YtkinnlfjcmhcoaaDoor.W
open Go.RowKit

structure Boxed (w : World) (p1 p2 : ByteArray) (n pos : Int) (t : Bool) (A1 : Option Addr) (m1 c1 : Nat) (A2 : Option Addr) (m2 c2 : Nat) (W : World) : Prop where
  p : Blk W w.heap.size 32 #[.string p1, .string p2]
  x : Blk W (w.heap.size + 1) 28 #[.int .i64 n, .int .i64 pos, .bool t, .slice A1 m1 c1, .slice A2 m2 c2]
  s : Since w W
section
variable {w W W' : World} {p1 p2 : ByteArray} {n pos : Int} {t : Bool} {A1 : Option Addr} {m1 c1 : Nat} {A2 : Option Addr} {m2 c2 : Nat}
theorem Boxed.next (h : Boxed w p1 p2 n pos t A1 m1 c1 A2 m2 c2 W) (k : Since W W') : Boxed w p1 p2 n pos t A1 m1 c1 A2 m2 c2 W' := ⟨h.p.next k.below, h.x.next k.below, since_of (step_below h.s.below k.below)⟩
theorem Boxed.k0 (h : Boxed w p1 p2 n pos t A1 m1 c1 A2 m2 c2 W) : W.cell? ⟨w.heap.size, 0, none⟩ = some (.string p1) := h.p.cell 0
theorem Boxed.k1 (h : Boxed w p1 p2 n pos t A1 m1 c1 A2 m2 c2 W) : W.cell? ⟨w.heap.size, 1, none⟩ = some (.string p2) := h.p.cell 1
theorem Boxed.y0 (h : Boxed w p1 p2 n pos t A1 m1 c1 A2 m2 c2 W) : W.cell? ⟨w.heap.size + 1, 0, none⟩ = some (.int .i64 n) := h.x.cell 0
theorem Boxed.y1 (h : Boxed w p1 p2 n pos t A1 m1 c1 A2 m2 c2 W) : W.cell? ⟨w.heap.size + 1, 1, none⟩ = some (.int .i64 pos) := h.x.cell 1
theorem Boxed.y2 (h : Boxed w p1 p2 n pos t A1 m1 c1 A2 m2 c2 W) : W.cell? ⟨w.heap.size + 1, 2, none⟩ = some (.bool t) := h.x.cell 2
theorem Boxed.y3 (h : Boxed w p1 p2 n pos t A1 m1 c1 A2 m2 c2 W) : W.cell? ⟨w.heap.size + 1, 3, none⟩ = some (.slice A1 m1 c1) := h.x.cell 3
theorem Boxed.y4 (h : Boxed w p1 p2 n pos t A1 m1 c1 A2 m2 c2 W) : W.cell? ⟨w.heap.size + 1, 4, none⟩ = some (.slice A2 m2 c2) := h.x.cell 4
end
theorem boxed (w : World) (p1 p2 : ByteArray) (n pos : Int) (t : Bool) (A1 : Option Addr) (m1 c1 : Nat) (A2 : Option Addr) (m2 c2 : Nat) : Boxed w p1 p2 n pos t A1 m1 c1 A2 m2 c2 ((w.alloc (.cells #[.string p1, .string p2] 32)).alloc (.cells #[.int .i64 n, .int .i64 pos, .bool t, .slice A1 m1 c1, .slice A2 m2 c2] 28)) := by
  have k1 := (Blk.new w 32 #[.string p1, .string p2]).alloc (.cells #[.int .i64 n, .int .i64 pos, .bool t, .slice A1 m1 c1, .slice A2 m2 c2] 28)
  have k2 := Blk.new (w.alloc (.cells #[.string p1, .string p2] 32)) 28 #[.int .i64 n, .int .i64 pos, .bool t, .slice A1 m1 c1, .slice A2 m2 c2]
  rw [show (w.alloc (.cells #[.string p1, .string p2] 32)).heap.size = w.heap.size + 1 by simp] at k2
  exact ⟨k1, k2, since_of (((Below.refl _ w).alloc (Nat.le_refl _) _).alloc (by simp) _)⟩
end Go.Proofs.YtkinnlfjcmhcoaaDoor.W
