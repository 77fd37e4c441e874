/-
  merkle.Leaf, Node, Top: what each answers.
-/
import Derived.Test.YtbfpepiglcikbaaDoorKMath
import Derived.Test.YtbfpepiglcikbaaDoorSSum
namespace Go.Proofs.YtbfpepiglcikbaaDoor.W
open Go.RowKit

theorem shaC (l out : List UInt8) (HO : Hid (shaOf l = out)) (w : World) (hr : Roots w) (hl : l.length ≤ 1000000) :
    Calls Tryd.prog 23 #[.string (bs l)] w fun e w' => e = .returned (.string (bs out)) ∧ Below w.heap.size w w' := by
  have h := sum (bs l) w hr (by rw [bs_size]; omega)
  rw [bs_data, HO.out] at h
  exact h
theorem textC (k : ByteArray) (x1 : List UInt8) (x2 : Int) (h1 : encText k = (x1, x2)) (W : World) :
    Calls Tryd.prog 22 #[.string k] W fun e w' => e = .returned (.tuple #[.string (bs x1), .int .i64 x2]) ∧ Below W.heap.size W w' := by
  have := wText k W
  rw [h1] at this
  exact this
theorem numC (n : Int) (x1 : List UInt8) (x2 : Int) (h1 : encNum n = (x1, x2)) (W : World) :
    Calls Tryd.prog 29 #[.int .i64 n] W fun e w' => e = .returned (.tuple #[.string (bs x1), .int .i64 x2]) ∧ Below W.heap.size W w' := by
  have := wNum n W
  rw [h1] at this
  exact this

set_option maxHeartbeats 1000000 in
theorem leaf_this (k v : ByteArray) (x1 y1 : List UInt8) (x2 y2 : Int) (h1 : encText k = (x1, x2)) (h2 : encText v = (y1, y2)) (w : World) (hr : Roots w) (out : List UInt8) (HO : Hid (shaOf (0 :: (x1 ++ y1)) = out)) :
    Calls Tryd.prog 9 #[.agg #[.string k, .string v]] w fun e w' => e = .returned (.string (bs out)) ∧ Below w.heap.size w w' := by
  have lx : x1.length ≤ 65544 := by have := encText_len k; rw [h1] at this; exact this
  have ly : y1.length ≤ 65544 := by have := encText_len v; rw [h2] at this; exact this
  have K1 := Lib.hid (textC k x1 x2 h1)
  have K2 := Lib.hid (textC v y1 y2 h2)
  have a1 : ∀ W, (Op.stringOp .add ⟨#[0]⟩ (bs x1)).run Tryd.prog W = .ok (.string (bs (0 :: x1))) W := fun W => run_add W [0] x1 (by simp; omega)
  have a2 : ∀ W, (Op.stringOp .add (bs (0 :: x1)) (bs y1)).run Tryd.prog W = .ok (.string (bs (0 :: (x1 ++ y1)))) W := fun W => run_add W (0 :: x1) y1 (by simp; omega)
  have HR := Lib.hid hr
  have HB := Lib.hid (Blk.new w 30 #[.string k, .string v])
  have HW := Lib.hid ((Below.refl w.heap.size w).alloc (Nat.le_refl _) (.cells #[.string k, .string v] 30))
  have L := Lib.hid (show (0 :: (x1 ++ y1)).length ≤ 1000000 by simp; omega)
  clear hr lx ly h1 h2
  go_enter Tryd.func9, Tryd.ntmps9
  go_wp2_with fail
  refine (K1.out _).mono ?_
  rintro e w1 ⟨rfl, b1⟩
  have c1 : w1.cell? ⟨w.heap.size, 1, none⟩ = some (.string v) := (HB.out.next b1).cell 1
  have B1 := Lib.hid (HW.out.trans (b1.mono (by simp)))
  clear b1 HB HW K1
  go_wp2_with fail
  refine (K2.out _).mono ?_
  rintro e w2 ⟨rfl, b2⟩
  have B2 := Lib.hid (step_below B1.out b2)
  clear b2 B1 K2 c1
  go_wp2_with fail
  refine (shaC _ out HO w2 (HR.out.next B2.out) L.out).mono ?_
  rintro e w3 ⟨rfl, b3⟩
  go_wp2
  go_ret
  exact ⟨rfl, step_below B2.out b3⟩
theorem leafC (p : KV) (w : World) (hr : Roots w) :
    Calls Tryd.prog 9 #[.agg #[.string p.1, .string p.2]] w fun e w' => e = .returned (.string (bs (shaOf (leafOf p)))) ∧ Below w.heap.size w w' :=
  leaf_this p.1 p.2 _ _ _ _ rfl rfl w hr _ (Lib.hid rfl)

set_option maxHeartbeats 1000000 in
theorem node_this (a b : List UInt8) (w : World) (hr : Roots w) (out : List UInt8) (HO : Hid (shaOf (1 :: (a ++ b)) = out)) (ha : a.length ≤ 1000) (hb : b.length ≤ 1000) :
    Calls Tryd.prog 12 #[.string (bs a), .string (bs b)] w fun e w' => e = .returned (.string (bs out)) ∧ Below w.heap.size w w' := by
  have a1 : ∀ W, (Op.stringOp .add ⟨#[1]⟩ (bs a)).run Tryd.prog W = .ok (.string (bs (1 :: a))) W := fun W => run_add W [1] a (by simp; omega)
  have a2 : ∀ W, (Op.stringOp .add (bs (1 :: a)) (bs b)).run Tryd.prog W = .ok (.string (bs (1 :: (a ++ b)))) W := fun W => run_add W (1 :: a) b (by simp; omega)
  have L := Lib.hid (show (1 :: (a ++ b)).length ≤ 1000000 by simp; omega)
  have HR := Lib.hid hr
  clear hr ha hb
  go_enter Tryd.func12, Tryd.ntmps12
  go_wp2_with fail
  refine (shaC _ out HO w HR.out L.out).mono ?_
  rintro e w3 ⟨rfl, b3⟩
  go_wp2
  go_ret
  exact ⟨rfl, b3⟩
theorem nodeC (a b : List UInt8) (w : World) (hr : Roots w) (ha : a.length ≤ 1000) (hb : b.length ≤ 1000) :
    Calls Tryd.prog 12 #[.string (bs a), .string (bs b)] w fun e w' => e = .returned (.string (bs (shaOf (nodeOf a b)))) ∧ Below w.heap.size w w' :=
  node_this a b w hr _ (Lib.hid rfl) ha hb

set_option maxHeartbeats 1000000 in
theorem top_this (n : Int) (t : List UInt8) (x1 : List UInt8) (x2 : Int) (h1 : encNum n = (x1, x2)) (w : World) (hr : Roots w) (out : List UInt8) (HO : Hid (shaOf (2 :: (x1 ++ t)) = out)) (ht : t.length ≤ 1000) :
    Calls Tryd.prog 15 #[.int .i64 n, .string (bs t)] w fun e w' => e = .returned (.string (bs out)) ∧ Below w.heap.size w w' := by
  have lx : x1.length ≤ 8 := by have := encNum_len n; rw [h1] at this; exact this
  have K1 := Lib.hid (numC n x1 x2 h1)
  have a1 : ∀ W, (Op.stringOp .add ⟨#[2]⟩ (bs x1)).run Tryd.prog W = .ok (.string (bs (2 :: x1))) W := fun W => run_add W [2] x1 (by simp; omega)
  have a2 : ∀ W, (Op.stringOp .add (bs (2 :: x1)) (bs t)).run Tryd.prog W = .ok (.string (bs (2 :: (x1 ++ t)))) W := fun W => run_add W (2 :: x1) t (by simp; omega)
  have L := Lib.hid (show (2 :: (x1 ++ t)).length ≤ 1000000 by simp; omega)
  have HR := Lib.hid hr
  clear hr lx ht h1
  go_enter Tryd.func15, Tryd.ntmps15
  go_wp2_with fail
  refine (K1.out _).mono ?_
  rintro e w1 ⟨rfl, b1⟩
  go_wp2_with fail
  refine (shaC _ out HO w1 (HR.out.next b1) L.out).mono ?_
  rintro e w3 ⟨rfl, b3⟩
  go_wp2
  go_ret
  exact ⟨rfl, step_below b1 b3⟩
theorem topC (n : Int) (t : List UInt8) (w : World) (hr : Roots w) (ht : t.length ≤ 1000) :
    Calls Tryd.prog 15 #[.int .i64 n, .string (bs t)] w fun e w' => e = .returned (.string (bs (shaOf (topOf n t)))) ∧ Below w.heap.size w w' :=
  top_this n t _ _ rfl w hr _ (Lib.hid rfl) ht
end Go.Proofs.YtbfpepiglcikbaaDoor.W
