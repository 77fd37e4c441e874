/-
  The reference's LeafText, NodeText, TopText.
-/
import Derived.Test.YtkinnlfjcmhcoaaDoorZ0d
import Derived.Test.YtkinnlfjcmhcoaaDoorYWRefNum
import Derived.Test.YtkinnlfjcmhcoaaDoorYSRefS
namespace Go.Proofs.YtkinnlfjcmhcoaaDoor.W
open Go.RowKit

theorem rShaC (l out : List UInt8) (HO : Hid (shaOf l = out)) (w : World) (hl : l.length ≤ 1000000) :
    Calls Tryd.prog 39 #[.string (bs l)] w fun e w' => e = .returned (.string (bs out)) ∧ Below w.heap.size w w' := by
  have h := rsum (bs l) w (by rw [bs_size]; omega)
  rw [bs_data, HO.out] at h
  exact h
theorem rTextC (k : ByteArray) (x1 : List UInt8) (x2 : Int) (h1 : encText k = (x1, x2)) (W : World) :
    Calls Tryd.prog 81 #[.string k] W fun e w' => e = .returned (.tuple #[.string (bs x1), .int .i64 x2]) ∧ Below W.heap.size W w' := by
  have := rText k W
  rw [h1] at this
  exact this
theorem rNumC (n : Int) (x1 : List UInt8) (x2 : Int) (h1 : encNum n = (x1, x2)) (W : World) :
    Calls Tryd.prog 71 #[.int .i64 n] W fun e w' => e = .returned (.tuple #[.string (bs x1), .int .i64 x2]) ∧ Below W.heap.size W w' := by
  have := rNum n W
  rw [h1] at this
  exact this

set_option maxHeartbeats 1000000 in
set_option maxRecDepth 100000 in
theorem rLeaf_this (k v : ByteArray) (x1 y1 : List UInt8) (x2 y2 : Int) (h1 : encText k = (x1, x2)) (h2 : encText v = (y1, y2)) (w : World) :
    Calls Tryd.prog 69 #[.agg #[.string k, .string v]] w fun e w' => e = .returned (.string (bs (0 :: (x1 ++ y1)))) ∧ Below w.heap.size w w' := by
  have lx : x1.length ≤ 65544 := by have := encText_len k; rw [h1] at this; exact this
  have ly : y1.length ≤ 65544 := by have := encText_len v; rw [h2] at this; exact this
  have K1 := Lib.hid (rTextC k x1 x2 h1)
  have K2 := Lib.hid (rTextC v y1 y2 h2)
  have a1 : ∀ W, (Op.stringOp .add ⟨#[0]⟩ (bs x1)).run Tryd.prog W = .ok (.string (bs (0 :: x1))) W := fun W => run_add W [0] x1 (by simp; omega)
  have a2 : ∀ W, (Op.stringOp .add (bs (0 :: x1)) (bs y1)).run Tryd.prog W = .ok (.string (bs (0 :: (x1 ++ y1)))) W := fun W => run_add W (0 :: x1) y1 (by simp; omega)
  have HB := Lib.hid (Blk.new w 32 #[.string k, .string v])
  have HW := Lib.hid ((Below.refl w.heap.size w).alloc (Nat.le_refl _) (.cells #[.string k, .string v] 32))
  clear lx ly h1 h2
  go_enter Tryd.func69, Tryd.ntmps69
  go_wp2_with fail
  refine (K1.out _).mono ?_
  rintro e w1 ⟨rfl, b1⟩
  have c1 : w1.cell? ⟨w.heap.size, 1, none⟩ = some (.string v) := (HB.out.next b1).cell 1
  have B1 := Lib.hid (HW.out.trans (b1.mono (by simp)))
  clear b1 HB HW K1
  go_wp2_with fail
  refine (K2.out _).mono ?_
  rintro e w2 ⟨rfl, b2⟩
  have B2 := Lib.hid (step_below B1.out b2)
  clear b2 B1 K2 c1
  go_wp2
  go_ret
  exact ⟨rfl, B2.out⟩
theorem rLeafC (p : KV) (w : World) :
    Calls Tryd.prog 69 #[.agg #[.string p.1, .string p.2]] w fun e w' => e = .returned (.string (bs (leafOf p))) ∧ Below w.heap.size w w' :=
  rLeaf_this p.1 p.2 _ _ _ _ rfl rfl w
set_option maxHeartbeats 1000000 in
set_option maxRecDepth 100000 in
theorem rNodeC (a b : List UInt8) (w : World) (ha : a.length ≤ 1000) (hb : b.length ≤ 1000) :
    Calls Tryd.prog 84 #[.string (bs a), .string (bs b)] w fun e w' => e = .returned (.string (bs (nodeOf a b))) ∧ Below w.heap.size w w' := by
  have a1 : ∀ W, (Op.stringOp .add ⟨#[1]⟩ (bs a)).run Tryd.prog W = .ok (.string (bs (1 :: a))) W := fun W => run_add W [1] a (by simp; omega)
  have a2 : ∀ W, (Op.stringOp .add (bs (1 :: a)) (bs b)).run Tryd.prog W = .ok (.string (bs (1 :: (a ++ b)))) W := fun W => run_add W (1 :: a) b (by simp; omega)
  clear ha hb
  go_enter Tryd.func84, Tryd.ntmps84
  go_wp2
  go_ret
  exact ⟨rfl, Below.refl _ _⟩
set_option maxHeartbeats 1000000 in
set_option maxRecDepth 100000 in
theorem rTop_this (n : Int) (t : List UInt8) (x1 : List UInt8) (x2 : Int) (h1 : encNum n = (x1, x2)) (w : World) (ht : t.length ≤ 1000) :
    Calls Tryd.prog 38 #[.int .i64 n, .string (bs t)] w fun e w' => e = .returned (.string (bs (2 :: (x1 ++ t)))) ∧ Below w.heap.size w w' := by
  have lx : x1.length ≤ 8 := by have := encNum_len n; rw [h1] at this; exact this
  have K1 := Lib.hid (rNumC n x1 x2 h1)
  have a1 : ∀ W, (Op.stringOp .add ⟨#[2]⟩ (bs x1)).run Tryd.prog W = .ok (.string (bs (2 :: x1))) W := fun W => run_add W [2] x1 (by simp; omega)
  have a2 : ∀ W, (Op.stringOp .add (bs (2 :: x1)) (bs t)).run Tryd.prog W = .ok (.string (bs (2 :: (x1 ++ t)))) W := fun W => run_add W (2 :: x1) t (by simp; omega)
  clear lx ht h1
  go_enter Tryd.func38, Tryd.ntmps38
  go_wp2_with fail
  refine (K1.out _).mono ?_
  rintro e w1 ⟨rfl, b1⟩
  go_wp2
  go_ret
  exact ⟨rfl, b1⟩
theorem rTopC (n : Int) (t : List UInt8) (w : World) (ht : t.length ≤ 1000) :
    Calls Tryd.prog 38 #[.int .i64 n, .string (bs t)] w fun e w' => e = .returned (.string (bs (topOf n t))) ∧ Below w.heap.size w w' :=
  rTop_this n t _ _ rfl w ht
end Go.Proofs.YtkinnlfjcmhcoaaDoor.W
