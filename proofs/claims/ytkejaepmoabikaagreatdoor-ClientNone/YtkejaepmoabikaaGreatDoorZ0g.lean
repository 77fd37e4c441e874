import Derived.IntWalk
import Derived.Laws.Cover1
import Derived.Lib.Hide
import Derived.WalkKit
import Derived.WalkLawsBesides
import Derived.Deep.RegionLaw
import Derived.Lib.SliceRun
import Derived.Test.YtkejaepmoabikaaGreatDoorZ0b
import Derived.Test.YtkejaepmoabikaaGreatDoorZ0e
import Derived.Test.YtkejaepmoabikaaGreatDoorZ0f
import Derived.Test.YtkejaepmoabikaaGreatDoorZ0d
import Derived.Test.YtkejaepmoabikaaGreatDoorZ0a
namespace Go.Proofs.YtkejaepmoabikaaGreatDoor.W
open Go.RowKit
open Lib renaming hid → qH
open _root_.Go.Proofs.Tryz renaming prog → qP
set_option maxHeartbeats 2000000
set_option maxRecDepth 100000
theorem shaC (l out : List UInt8) (HO : Hid (shaOf l = out)) (w : World) (hr : Roots w) (hl : l.length ≤ 1000000) :
  Calls qP 152 #[.string (bs l)] w fun e w' => e = .returned (.string (bs out)) ∧ Below w.heap.size w w' := by
 have h := sum (bs l) w hr (by rw [bs_size]; omega)
 rw [bs_data, HO.out] at h
 exact h
theorem textC (k : ByteArray) (x1 : List UInt8) (x2 : Int) (h1 : encText k = (x1, x2)) (W : World) :
  Calls qP 62 #[.string k] W fun e w' => e = .returned (.tuple #[.string (bs x1), .int .i64 x2]) ∧ Below W.heap.size W w' := by
 have := wText k W
 rw [h1] at this
 exact this
theorem numC (n : Int) (x1 : List UInt8) (x2 : Int) (h1 : encNum n = (x1, x2)) (W : World) :
  Calls qP 65 #[.int .i64 n] W fun e w' => e = .returned (.tuple #[.string (bs x1), .int .i64 x2]) ∧ Below W.heap.size W w' := by
 have := wNum n W
 rw [h1] at this
 exact this
theorem leaf_this (k v : ByteArray) (x1 y1 : List UInt8) (x2 y2 : Int) (h1 : encText k = (x1, x2)) (h2 : encText v = (y1, y2)) (w : World) (hr : Roots w) (out : List UInt8) (HO : Hid (shaOf (0 :: (x1 ++ y1)) = out)) :
  Calls qP 151 #[.agg #[.string k, .string v]] w fun e w' => e = .returned (.string (bs out)) ∧ Below w.heap.size w w' := by
 have lx : x1.length ≤ 65544 := by have := encText_len k; rw [h1] at this; exact this
 have ly : y1.length ≤ 65544 := by have := encText_len v; rw [h2] at this; exact this
 have K1 := qH (textC k x1 x2 h1)
 have K2 := qH (textC v y1 y2 h2)
 have a1 : ∀ W, (Op.stringOp .add ⟨#[0]⟩ (bs x1)).run qP W = .ok (.string (bs (0 :: x1))) W := fun W => run_add W [0] x1 (by simp; omega)
 have a2 : ∀ W, (Op.stringOp .add (bs (0 :: x1)) (bs y1)).run qP W = .ok (.string (bs (0 :: (x1 ++ y1)))) W := fun W => run_add W (0 :: x1) y1 (by simp; omega)
 have HR := qH hr
 have HB := qH (Blk.new w 36 #[.string k, .string v])
 have HW := qH ((Below.refl w.heap.size w).alloc (Nat.le_refl _) (.cells #[.string k, .string v] 36))
 have L := qH (show (0 :: (x1 ++ y1)).length ≤ 1000000 by simp; omega)
 clear hr lx ly h1 h2
 go_enter Tryz.func151, Tryz.ntmps151
 go_wp2_with fail
 refine (K1.out _).mono ?_
 rintro e w1 ⟨rfl, b1⟩
 have c1 : w1.cell? ⟨w.heap.size, 1, none⟩ = some (.string v) := (HB.out.next b1).cell 1
 have B1 := qH (HW.out.trans (b1.mono (by simp)))
 clear b1 HB HW K1
 go_wp2_with fail
 refine (K2.out _).mono ?_
 rintro e w2 ⟨rfl, b2⟩
 have B2 := qH (step_below B1.out b2)
 clear b2 B1 K2 c1
 go_wp2_with fail
 refine (shaC _ out HO w2 (HR.out.next B2.out) L.out).mono ?_
 rintro e w3 ⟨rfl, b3⟩
 go_wp2
 go_ret
 exact ⟨rfl, step_below B2.out b3⟩
theorem leafC (p : KV) (w : World) (hr : Roots w) :
  Calls qP 151 #[.agg #[.string p.1, .string p.2]] w fun e w' => e = .returned (.string (bs (shaOf (leafOf p)))) ∧ Below w.heap.size w w' :=
 leaf_this p.1 p.2 _ _ _ _ rfl rfl w hr _ (qH rfl)
theorem node_this (a b : List UInt8) (w : World) (hr : Roots w) (out : List UInt8) (HO : Hid (shaOf (1 :: (a ++ b)) = out)) (ha : a.length ≤ 70000) (hb : b.length ≤ 70000) :
  Calls qP 185 #[.string (bs a), .string (bs b)] w fun e w' => e = .returned (.string (bs out)) ∧ Below w.heap.size w w' := by
 have a1 : ∀ W, (Op.stringOp .add ⟨#[1]⟩ (bs a)).run qP W = .ok (.string (bs (1 :: a))) W := fun W => run_add W [1] a (by simp; omega)
 have a2 : ∀ W, (Op.stringOp .add (bs (1 :: a)) (bs b)).run qP W = .ok (.string (bs (1 :: (a ++ b)))) W := fun W => run_add W (1 :: a) b (by simp; omega)
 have L := qH (show (1 :: (a ++ b)).length ≤ 1000000 by simp; omega)
 have HR := qH hr
 clear hr ha hb
 go_enter Tryz.func185, Tryz.ntmps185
 go_wp2_with fail
 refine (shaC _ out HO w HR.out L.out).mono ?_
 rintro e w3 ⟨rfl, b3⟩
 go_wp2
 go_ret
 exact ⟨rfl, b3⟩
theorem nodeC (a b : List UInt8) (w : World) (hr : Roots w) (ha : a.length ≤ 70000) (hb : b.length ≤ 70000) :
  Calls qP 185 #[.string (bs a), .string (bs b)] w fun e w' => e = .returned (.string (bs (shaOf (nodeOf a b)))) ∧ Below w.heap.size w w' :=
 node_this a b w hr _ (qH rfl) ha hb
theorem top_this (n : Int) (t : List UInt8) (x1 : List UInt8) (x2 : Int) (h1 : encNum n = (x1, x2)) (w : World) (hr : Roots w) (out : List UInt8) (HO : Hid (shaOf (2 :: (x1 ++ t)) = out)) (ht : t.length ≤ 70000) :
  Calls qP 107 #[.int .i64 n, .string (bs t)] w fun e w' => e = .returned (.string (bs out)) ∧ Below w.heap.size w w' := by
 have lx : x1.length ≤ 8 := by have := encNum_len n; rw [h1] at this; exact this
 have K1 := qH (numC n x1 x2 h1)
 have a1 : ∀ W, (Op.stringOp .add ⟨#[2]⟩ (bs x1)).run qP W = .ok (.string (bs (2 :: x1))) W := fun W => run_add W [2] x1 (by simp; omega)
 have a2 : ∀ W, (Op.stringOp .add (bs (2 :: x1)) (bs t)).run qP W = .ok (.string (bs (2 :: (x1 ++ t)))) W := fun W => run_add W (2 :: x1) t (by simp; omega)
 have L := qH (show (2 :: (x1 ++ t)).length ≤ 1000000 by simp; omega)
 have HR := qH hr
 clear hr lx ht h1
 go_enter Tryz.func107, Tryz.ntmps107
 go_wp2_with fail
 refine (K1.out _).mono ?_
 rintro e w1 ⟨rfl, b1⟩
 go_wp2_with fail
 refine (shaC _ out HO w1 (HR.out.next b1) L.out).mono ?_
 rintro e w3 ⟨rfl, b3⟩
 go_wp2
 go_ret
 exact ⟨rfl, step_below b1 b3⟩
theorem topC (n : Int) (t : List UInt8) (w : World) (hr : Roots w) (ht : t.length ≤ 70000) :
  Calls qP 107 #[.int .i64 n, .string (bs t)] w fun e w' => e = .returned (.string (bs (shaOf (topOf n t)))) ∧ Below w.heap.size w w' :=
 top_this n t _ _ rfl w hr _ (qH rfl) ht
theorem bss_take (L : List (List UInt8)) (k : Nat) : bss (L.take k) = (bss L).take k := by simp [bss, List.map_take]
section
variable {w : World} {A : Option Addr} {cap B : Nat} {ss : List ByteArray}
theorem txs_upto (h : Txs w B (.slice A ss.length cap) ss) (hcap : ss.length ≤ cap) (i : Nat) (hi : i ≤ ss.length) :
  (∀ W, (Instr.slice 74 (.slice A ss.length cap) none (some (.int .i64 i)) none).run qP W = .ok (.slice A i cap) W) ∧ Txs w B (.slice A i cap) (ss.take i) := by
 obtain ⟨A0, cap0, e, hc⟩ := h
 cases e
 refine ⟨fun W => ?_, ⟨A, cap, by rw [List.length_take, Nat.min_eq_left hi], fun j hj => ?_⟩⟩
 ·obtain ⟨i0, hi0, hz0, hz1, hz2⟩ := info_parts infoStr
  have hE : qP.elem 74 = 9 := by kernel_rfl
  have hr := run_slice_h (P := qP) (w := W) 74 A ss.length cap (by kernel_rfl) .i64 i (by omega) (by omega)
  rw [hE, run_sizeOf W hi0, show qP.cellsOf 9 = 1 by kernel_rfl] at hr
  rw [hr]
  cases A <;> simp [Result.andThen, sliced]
  rename_i a
  rcases a with ⟨b, off, x⟩
  cases x <;> simp [Addr.add]
 ·rw [List.length_take] at hj
  obtain ⟨b, off, rfl, hb, h1⟩ := hc j (by omega)
  exact ⟨b, off, rfl, hb, by rw [List.getElem_take]; exact h1⟩
end
def LeadPost (w : World) (r : Option (List UInt8 × List (List UInt8))) (e : Ending) (w' : World) : Prop :=
 ∃ t, e = .returned (.tuple #[.string (bs t), .bool r.isSome]) ∧ t.length ≤ 32 ∧ (∀ x, r = some x → x.1 = t) ∧ Since w w'
theorem leadOut (leaf v : Value) (i n : Int) (w : World) (h : ¬ (0 ≤ i ∧ i < n)) : Calls qP 150 #[leaf, v, .int .i64 i, .int .i64 n] w (LeadPost w none) := by
 have R : LeadPost w none (.returned (.tuple #[.string (bs []), .bool false])) w := ⟨[], rfl, by simp, (fun x hx => by cases hx), Since.refl w⟩
 by_cases h1 : i < 0
 ·go_enter Tryz.func150, Tryz.ntmps150
  go_wp2
  go_ret2
  exact R
 ·have h2 : n ≤ i := by omega
  clear h
  go_enter Tryz.func150, Tryz.ntmps150
  go_wp2
  go_ret2
  exact R
theorem leadOne (leaf : List UInt8) (A : Option Addr) (m cap : Nat) (w : World) (hl : leaf.length ≤ 32) (r : Option (List UInt8 × List (List UInt8))) (hr : r.isSome = decide (m = 0)) (hr2 : ∀ x, r = some x → x.1 = leaf) :
  Calls qP 150 #[.string (bs leaf), .slice A m cap, .int .i64 0, .int .i64 1] w (LeadPost w r) := by
 have R : LeadPost w r (.returned (.tuple #[.string (bs leaf), .bool r.isSome])) w := ⟨leaf, rfl, hl, hr2, Since.refl w⟩
 rw [hr] at R
 clear hr hr2
 cases m with
 | zero =>
  go_enter Tryz.func150, Tryz.ntmps150
  go_wp2
  go_ret2
  exact R
 | succ m =>
  have hb : (((m + 1 : Nat) : Int) == 0) = false := by simp; omega
  have hd : decide (m + 1 = 0) = false := by simp
  rw [hd] at R
  clear hd
  go_enter Tryz.func150, Tryz.ntmps150
  go_wp2
  go_ret2
  exact R
theorem leadNone (leaf : Value) (A : Option Addr) (cap : Nat) (i n : Int) (w : World) (h0 : 0 ≤ i) (h1 : i < n) (h2 : n ≠ 1) : Calls qP 150 #[leaf, .slice A 0 cap, .int .i64 i, .int .i64 n] w (LeadPost w none) := by
 have R : LeadPost w none (.returned (.tuple #[.string (bs []), .bool false])) w := ⟨[], rfl, by simp, (fun x hx => by cases hx), Since.refl w⟩
 have hb : (n == 1) = false := beq_eq_false_iff_ne.2 h2
 clear h2
 go_enter Tryz.func150, Tryz.ntmps150
 go_wp2
 go_ret2
 exact R
theorem leadL (leaf : Value) (b off m M cap s : Nat) (hM : M = m + 1) (x : List UInt8) (i n : Int) (w : World) (h0 : 0 ≤ i) (h1 : i < n) (h2 : n ≠ 1) (hn : n ≤ 9223372036854775807) (hm : m ≤ 1000000000) (hs : spl n.toNat = s) (hi : i < s) (r : Option (List UInt8 × List (List UInt8)))
  (hc : w.cell? ⟨b, off + m, none⟩ = some (.string (bs x)))
  (hs2 : ∀ W, (Instr.slice 74 (.slice (some ⟨b, off, none⟩) M cap) none (some (.int .i64 m)) none).run qP W = .ok (.slice (some ⟨b, off, none⟩) m cap) W)
  (H1 : Hid (Calls qP 150 #[leaf, .slice (some ⟨b, off, none⟩) m cap, .int .i64 i, .int .i64 s] w (LeadPost w r)))
  (H2 : Hid (∀ t, t.length ≤ 32 → ∀ W, Since w W → Calls qP 185 #[.string (bs t), .string (bs x)] W fun e w' => e = .returned (.string (bs (shaOf (nodeOf t x)))) ∧ Since w w')) :
  Calls qP 150 #[leaf, .slice (some ⟨b, off, none⟩) M cap, .int .i64 i, .int .i64 n] w (LeadPost w (r.map fun t => (shaOf (nodeOf t.1 x), t.2 ++ [nodeOf t.1 x]))) := by
 have K0 := splitC n w hn
 rw [hs] at K0
 have K := qH K0
 have hb : (n == 1) = false := beq_eq_false_iff_ne.2 h2
 have hl0 : ((M : Int) == 0) = false := by simp; omega
 have hmi : IntKind.i64.wrap ((M : Int) - 1) = (m : Int) := by rw [IntWalk.i64_in _ (by omega)]; omega
 have hm0 : (0 : Int) ≤ m := by omega
 have hm1 : (m : Int) < (M : Int) := by omega
 have HS := qH (show r.isSome = (r.map fun t => (shaOf (nodeOf t.1 x), t.2 ++ [nodeOf t.1 x])).isSome by cases r <;> rfl)
 clear K0 hs h2 hm hM
 go_enter Tryz.func150, Tryz.ntmps150
 go_wp2_with fail
 refine K.out.mono ?_
 rintro e w1 ⟨rfl, rfl⟩
 clear K
 go_wp2_with fail
 refine H1.out.mono ?_
 rintro e w2 ⟨t, rfl, tl, tx, s2⟩
 have c2 := s2.cell hc
 have TX := qH tx
 clear H1 hc tx
 generalize r.isSome = rs at *
 go_wp2_with fail
 refine (H2.out t tl w2 s2).mono ?_
 rintro e w3 ⟨rfl, s3⟩
 have FIN := qH (show LeadPost w (r.map fun t => (shaOf (nodeOf t.1 x), t.2 ++ [nodeOf t.1 x])) (.returned (.tuple #[.string (bs (shaOf (nodeOf t x))), .bool rs])) w3 from
  ⟨_, by rw [HS.out], by rw [shaOf_len]; omega, fun y hy => by
   rw [Option.map_eq_some_iff] at hy
   obtain ⟨z, hz, rfl⟩ := hy
   show shaOf (nodeOf z.1 x) = _
   rw [TX.out z hz], s3⟩)
 generalize shaOf (nodeOf t x) = out at *
 clear H2 TX HS tl
 go_wp2
 go_ret2
 exact FIN.out
theorem leadRt (leaf : Value) (b off m M cap s : Nat) (hM : M = m + 1) (x : List UInt8) (i n : Int) (w : World) (h0 : 0 ≤ i) (h1 : i < n) (h2 : n ≠ 1) (hn : n ≤ 9223372036854775807) (hm : m ≤ 1000000000) (hs : spl n.toNat = s) (hi : ¬ i < s) (r : Option (List UInt8 × List (List UInt8)))
  (hc : w.cell? ⟨b, off + m, none⟩ = some (.string (bs x)))
  (hs2 : ∀ W, (Instr.slice 74 (.slice (some ⟨b, off, none⟩) M cap) none (some (.int .i64 m)) none).run qP W = .ok (.slice (some ⟨b, off, none⟩) m cap) W)
  (H1 : Hid (Calls qP 150 #[leaf, .slice (some ⟨b, off, none⟩) m cap, .int .i64 (i - s), .int .i64 (n - s)] w (LeadPost w r)))
  (H2 : Hid (∀ t, t.length ≤ 32 → ∀ W, Since w W → Calls qP 185 #[.string (bs x), .string (bs t)] W fun e w' => e = .returned (.string (bs (shaOf (nodeOf x t)))) ∧ Since w w')) :
  Calls qP 150 #[leaf, .slice (some ⟨b, off, none⟩) M cap, .int .i64 i, .int .i64 n] w (LeadPost w (r.map fun t => (shaOf (nodeOf x t.1), t.2 ++ [nodeOf x t.1]))) := by
 have K0 := splitC n w hn
 rw [hs] at K0
 have K := qH K0
 have hb : (n == 1) = false := beq_eq_false_iff_ne.2 h2
 have hl0 : ((M : Int) == 0) = false := by simp; omega
 have hmi : IntKind.i64.wrap ((M : Int) - 1) = (m : Int) := by rw [IntWalk.i64_in _ (by omega)]; omega
 have hwi : IntKind.i64.wrap (i - (s : Int)) = i - (s : Int) := IntWalk.i64_in _ (by omega)
 have hwn : IntKind.i64.wrap (n - (s : Int)) = n - (s : Int) := IntWalk.i64_in _ (by omega)
 have hm0 : (0 : Int) ≤ m := by omega
 have hm1 : (m : Int) < (M : Int) := by omega
 have HS := qH (show r.isSome = (r.map fun t => (shaOf (nodeOf x t.1), t.2 ++ [nodeOf x t.1])).isSome by cases r <;> rfl)
 clear K0 hs h2 hm hM
 go_enter Tryz.func150, Tryz.ntmps150
 go_wp2_with fail
 refine K.out.mono ?_
 rintro e w1 ⟨rfl, rfl⟩
 clear K
 go_wp2_with fail
 refine H1.out.mono ?_
 rintro e w2 ⟨t, rfl, tl, tx, s2⟩
 have c2 := s2.cell hc
 have TX := qH tx
 clear H1 hc tx
 generalize r.isSome = rs at *
 go_wp2_with fail
 refine (H2.out t tl w2 s2).mono ?_
 rintro e w3 ⟨rfl, s3⟩
 have FIN := qH (show LeadPost w (r.map fun t => (shaOf (nodeOf x t.1), t.2 ++ [nodeOf x t.1])) (.returned (.tuple #[.string (bs (shaOf (nodeOf x t))), .bool rs])) w3 from
  ⟨_, by rw [HS.out], by rw [shaOf_len]; omega, fun y hy => by
   rw [Option.map_eq_some_iff] at hy
   obtain ⟨z, hz, rfl⟩ := hy
   show shaOf (nodeOf x z.1) = _
   rw [TX.out z hz], s3⟩)
 generalize shaOf (nodeOf x t) = out at *
 clear H2 TX HS tl
 go_wp2
 go_ret2
 exact FIN.out
theorem leadC (leaf : List UInt8) (hlf : leaf.length = 32) (p : List (List UInt8)) : ∀ (v : Value) (i n : Int) (w : World), Txs w w.heap.size v (bss p) → Roomy v → Roots w → n ≤ 9223372036854775807 → p.length ≤ 1000000 → (∀ y ∈ p, y.length ≤ 70000) →
  Calls qP 150 #[.string (bs leaf), v, .int .i64 i, .int .i64 n] w (LeadPost w (lead leaf p i n)) := by
 induction p using snocInd with
 | h0 =>
  intro v i n w hT hR hr hn _ _
  obtain ⟨A, cap, rfl, _⟩ := hT
  by_cases h : 0 ≤ i ∧ i < n
  ·by_cases h1 : n = 1
   ·subst h1
    obtain rfl : i = 0 := by omega
    rw [lead_nil, if_pos (by omega)]
    exact leadOne leaf A 0 cap w (by omega) _ rfl (fun x hx => by cases hx; rfl)
   ·rw [lead_nil, if_neg (fun e => h1 e.2.2)]
    exact leadNone _ A cap i n w h.1 h.2 h1
  ·rw [lead_out h]
   exact leadOut _ _ i n w h
 | h1 p x ih =>
  intro v i n w hT hR hr hn hp hy
  have hp' : p.length + 1 ≤ 1000000 := by rw [List.length_append] at hp; exact hp
  have hT0 := hT
  obtain ⟨A, cap, rfl, hc⟩ := hT0
  have hll : (bss (p ++ [x])).length = p.length + 1 := by rw [bss_len, List.length_append]; rfl
  have hcap : (bss (p ++ [x])).length ≤ cap := by
   obtain ⟨A0, n0, c0, e, h⟩ := hR
   cases e
   exact h
  by_cases h : 0 ≤ i ∧ i < n
  ·by_cases h1 : n = 1
   ·subst h1
    obtain rfl : i = 0 := by omega
    rw [lead_snoc, if_neg (fun e => e.2.2 rfl), hll]
    exact leadOne leaf A (p.length + 1) cap w (by omega) none (by simp) (fun x hx => by cases hx)
   ·obtain ⟨b, off, rfl, hb, c0⟩ := hc p.length (by omega)
    have ec : (bss (p ++ [x]))[p.length]'(by omega) = bs x := by simp [bss]
    rw [ec] at c0
    obtain ⟨hs2, P2⟩ := txs_upto hT hcap p.length (by omega)
    have e1 : (bss (p ++ [x])).take p.length = bss p := by rw [← bss_take, List.take_left]
    rw [e1] at P2
    rw [hll] at hs2 hcap ⊢
    rw [lead_snoc, if_pos ⟨h.1, h.2, h1⟩]
    have hxl := hy x (by simp)
    by_cases hlt : i < (spl n.toNat : Nat)
    ·rw [if_pos hlt]
     exact leadL _ b off p.length _ cap _ rfl x i n w h.1 h.2 h1 hn (by omega) rfl hlt _ c0 hs2
      (qH (ih _ i _ w P2 ⟨_, _, _, rfl, by omega⟩ hr (by have := (spl_pos (n := n.toNat) (by omega) (by omega)).2.1; omega) (by omega) (fun y hy' => hy y (by simp [hy']))))
      (qH fun t ht W hW => (nodeC t x W (roots_since hr hW) (by omega) hxl).mono fun e w' ⟨he, hb⟩ => ⟨he, since_of (step_below hW.below hb)⟩)
    ·rw [if_neg hlt]
     exact leadRt _ b off p.length _ cap _ rfl x i n w h.1 h.2 h1 hn (by omega) rfl hlt _ c0 hs2
      (qH (ih _ _ _ w P2 ⟨_, _, _, rfl, by omega⟩ hr (by omega) (by omega) (fun y hy' => hy y (by simp [hy']))))
      (qH fun t ht W hW => (nodeC x t W (roots_since hr hW) hxl (by omega)).mono fun e w' ⟨he, hb⟩ => ⟨he, since_of (step_below hW.below hb)⟩)
  ·rw [lead_out h]
   exact leadOut _ _ i n w h
theorem reaches_this (root lf : List UInt8) (p : KV) (v : Value) (i n : Int) (w : World) (r : Option (List UInt8 × List (List UInt8))) (out : Bool)
  (H0 : Hid (∀ W, Since w W → Calls qP 151 #[.agg #[.string p.1, .string p.2]] W fun e w' => e = .returned (.string (bs lf)) ∧ Since w w'))
  (H1 : Hid (∀ W, Since w W → Calls qP 150 #[.string (bs lf), v, .int .i64 i, .int .i64 n] W (LeadPost W r)))
  (H2 : Hid (∀ t, t.length ≤ 32 → ∀ W, Since w W → Calls qP 107 #[.int .i64 n, .string (bs t)] W fun e w' => e = .returned (.string (bs (shaOf (topOf n t)))) ∧ Since w w'))
  (hno : r = none → out = false) (hyes : ∀ x, r = some x → out = decide (shaOf (topOf n x.1) = root)) :
  Calls qP 100 #[.string (bs root), .agg #[.string p.1, .string p.2], v, .int .i64 i, .int .i64 n] w fun e w' => e = .returned (.bool out) ∧ Since w w' := by
 obtain ⟨p1, p2⟩ := p
 have HB := qH (Blk.new w 36 #[.string p1, .string p2])
 have HW := qH (since_of ((Below.refl w.heap.size w).alloc (Nat.le_refl _) (.cells #[.string p1, .string p2] 36)))
 have HN := qH hno
 have HY := qH hyes
 clear hno hyes
 simp only at H0
 go_enter Tryz.func100, Tryz.ntmps100
 go_wp2_with fail
 refine (H0.out _ HW.out).mono ?_
 rintro e w1 ⟨rfl, s1⟩
 clear H0 HB HW
 go_wp2_with fail
 refine (H1.out w1 s1).mono ?_
 rintro e w2 ⟨t, rfl, tl, tx, s2⟩
 have S2 := qH (since_of (step_below s1.below s2.below))
 have TX := qH tx
 clear H1 tx s1 s2
 cases r with
 | none =>
  obtain rfl : out = false := HN.out rfl
  simp only [Option.isSome_none]
  go_wp2
  go_ret
  exact ⟨rfl, S2.out⟩
 | some x =>
  have hx := TX.out x rfl
  have hy := HY.out x rfl
  rw [hx] at hy
  simp only [Option.isSome_some]
  clear HN HY TX hx
  go_wp2_with fail
  refine (H2.out t tl w2 S2.out).mono ?_
  rintro e w3 ⟨rfl, s3⟩
  generalize shaOf (topOf n t) = y at *
  by_cases he : y = root
  ·subst he
   rw [decide_eq_true rfl] at hy
   subst hy
   go_wp2
   go_ret
   exact ⟨rfl, s3⟩
  ·rw [decide_eq_false he] at hy
   subst hy
   have hne := str_ne (bs_ne he)
   clear he
   go_wp2
   go_ret
   exact ⟨rfl, s3⟩
theorem reachC (root : List UInt8) (p : KV) (q : List (List UInt8)) (v : Value) (i n : Int) (w : World) (hT : Txs w w.heap.size v (bss q)) (hR : Roomy v) (hr : Roots w) (hn : n ≤ 9223372036854775807) (hq : q.length ≤ 1000000) (hy : ∀ y ∈ q, y.length ≤ 70000) :
  Calls qP 100 #[.string (bs root), .agg #[.string p.1, .string p.2], v, .int .i64 i, .int .i64 n] w fun e w' => e = .returned (.bool (reach root p q i n)) ∧ Since w w' :=
 reaches_this root _ p v i n w (lead (shaOf (leafOf p)) q i n) _
  (qH fun W hW => (leafC p W (roots_since hr hW)).mono fun e w' ⟨he, hb⟩ => ⟨he, since_of (step_below hW.below hb)⟩)
  (qH fun W hW => leadC _ (shaOf_len _) q v i n W ((hT.below hW.below).more hW.2.2.2.1) hR (roots_since hr hW) hn hq hy)
  (qH fun t ht W hW => (topC n t W (roots_since hr hW) (by omega)).mono fun e w' ⟨he, hb⟩ => ⟨he, since_of (step_below hW.below hb)⟩)
  (fun h => reach_none h) (fun x h => reach_some h)
theorem adj_not2 {l : List KV} {k : Nat} (hk : 1 ≤ k) (h : k < l.length) (hn : kc (l[k - 1]'(by omega)).1 l[k].1 ≠ -1) : ¬ Up l := fun hu => hn (up_at hu (k - 1) k (by omega) h)
instance upDec (l : List KV) : Decidable (Up l) := by unfold Up; infer_instance
theorem risesC (v : Value) (l : List KV) (w : World) (hP : Prs w v l) (hz : l.length ≤ 1000000000) :
  Calls qP 104 #[v] w fun e w' => e = .returned (.bool (decide (Up l))) ∧ Since w w' := by
 obtain ⟨A, cap, rfl, hcap, hc⟩ := hP
 have HC := qH hc
 obtain ⟨r, hr⟩ : ∃ r, r = decide (Up l) := ⟨_, rfl⟩
 rw [← hr]
 have HR := qH hr
 clear hc hr hcap
 go_enter Tryz.func104, Tryz.ntmps104
 go_wp2
 go_loopw [3] (fun i wr => ∃ k : Nat, 1 ≤ k ∧ i = .int .i64 k ∧ Hid (Adj l k ∧ (k ≤ l.length ∨ k = 1)) ∧ Since w wr) (fun i _ => l.length - (intOf i).toNat)
 case atStart => exact ⟨1, Nat.le_refl _, rfl, qH ⟨fun i h hi => absurd hi (by omega), .inr rfl⟩, Since.refl w⟩
 case round =>
  obtain ⟨k, hk, rfl, HT, hS⟩ := hrel
  by_cases hlt : k < l.length
  ·obtain ⟨b1, off1, rfl, d1, d3⟩ := HC.out k hlt
   obtain ⟨b2, off2, e2, d2, d4⟩ := HC.out (k - 1) (by omega)
   cases e2
   have c1 := hS.cell d1
   have c2 := hS.cell d2
   rw [show ((k - 1 : Nat)) * 2 = (k - 1) * 2 from rfl] at c2
   have hi0 : (0 : Int) ≤ k := by omega
   have hi1 : (k : Int) < (l.length : Int) := by omega
   have hw : IntKind.i64.wrap ((k : Int) - 1) = ((k - 1 : Nat) : Int) := by rw [IntWalk.i64_in _ (by omega)]; omega
   have hj0 : (0 : Int) ≤ ((k - 1 : Nat) : Int) := by omega
   have hj1 : ((k - 1 : Nat) : Int) < (l.length : Int) := by omega
   have hwk : IntKind.i64.wrap ((k : Int) + 1) = (k : Int) + 1 := IntWalk.i64_in _ (by omega)
   have HF := qH (fun h => adj_succ HT.out.1 hk hlt h)
   have HN := qH (fun hn => adj_not2 (l := l) hk hlt hn)
   have hless := less_str (l[k - 1]'(by omega)).1 l[k].1
   obtain ⟨x, hx⟩ : ∃ x, x = (l[k - 1]'(by omega)).1 := ⟨_, rfl⟩
   obtain ⟨y, hy⟩ : ∃ y, y = l[k].1 := ⟨_, rfl⟩
   rw [← hx] at c2 hless HF HN
   rw [← hy] at c1 hless HF HN
   clear d1 d2 d3 d4 hx hy
   generalize k - 1 = k1 at *
   by_cases h1 : kc x y = -1
   ·rw [decide_eq_true h1] at hless
    go_wp2
    go_region
    go_wp2
    go_roundw
    case rel => exact ⟨k + 1, by omega, by simp, qH ⟨HF.out h1, .inl (by omega)⟩, since_of (Below.drewN hS.below 1)⟩
    case measure => simp [intOf]; omega
   ·rw [decide_eq_false h1] at hless
    have h3 : r = false := by rw [HR.out]; exact decide_eq_false (HN.out h1)
    subst h3
    go_wp2
    go_region
    go_wp2
    go_ret
    exact ⟨rfl, since_of (Below.drewN hS.below 1)⟩
  ·have h3 : r = true := by
    rw [HR.out]
    refine decide_eq_true (up_of_adj l ?_)
    intro i hi _
    exact HT.out.1 i hi (by rcases HT.out.2 with h | h <;> omega)
   subst h3
   have hi1 : ¬ (k : Int) < (l.length : Int) := by omega
   go_wp2
   go_ret
   exact ⟨rfl, hS⟩
end Go.Proofs.YtkejaepmoabikaaGreatDoor.W
namespace Go.Proofs.YtkejaepmoabikaaGreatDoor.W
def BoundedX (k : Nat) (L : List (List UInt8)) : Prop := L.length ≤ k ∧ ∀ y ∈ L, y.length ≤ 1000000
theorem BoundedX.nil (k : Nat) : BoundedX k [] := ⟨Nat.zero_le _, fun y hy => by cases hy⟩
theorem BoundedX.append {k m : Nat} {L M : List (List UInt8)} (h : BoundedX k L) (h2 : BoundedX m M) : BoundedX (k + m) (L ++ M) :=
 ⟨by rw [List.length_append]; have := h.1; have := h2.1; omega, fun y hy => by
  rcases List.mem_append.1 hy with h3 | h3
  ·exact h.2 y h3
  ·exact h2.2 y h3⟩
end Go.Proofs.YtkejaepmoabikaaGreatDoor.W
namespace Go.Proofs.YtkejaepmoabikaaGreatDoor.W
open Go.RowKit
open Lib renaming hid → qH
open _root_.Go.Proofs.Tryz renaming prog → qP
set_option maxHeartbeats 4000000
set_option maxRecDepth 100000
def sLo (a : Int) : Int := if 0 < a then a - 1 else a
def sHi (a n : Int) : Int := if a < n then a + 1 else a
theorem sidesC (a n : Int) (w : World) (h0 : -9223372036854775808 ≤ a) (h2 : a ≤ 9223372036854775807) (h1 : n ≤ 9223372036854775807) :
  Calls qP 106 #[.int .i64 a, .int .i64 n] w fun e w' => e = .returned (.tuple #[.int .i64 (sLo a), .int .i64 (sHi a n)]) ∧ w = w' := by
 by_cases ha : 0 < a
 ·have e1 : sLo a = a - 1 := if_pos ha
  have w1 : IntKind.i64.wrap (a - 1) = a - 1 := IntWalk.i64_in _ (by omega)
  by_cases hn : a < n
  ·have e2 : sHi a n = a + 1 := if_pos hn
   have w2 : IntKind.i64.wrap (a + 1) = a + 1 := IntWalk.i64_in _ (by omega)
   rw [e1, e2]
   clear e1 e2
   go_enter Tryz.func106, Tryz.ntmps106
   go_wp2
   go_ret2
   exact ⟨rfl, rfl⟩
  ·have e2 : sHi a n = a := if_neg hn
   rw [e1, e2]
   clear e1 e2
   go_enter Tryz.func106, Tryz.ntmps106
   go_wp2
   go_ret2
   exact ⟨rfl, rfl⟩
 ·have e1 : sLo a = a := if_neg ha
  by_cases hn : a < n
  ·have e2 : sHi a n = a + 1 := if_pos hn
   have w2 : IntKind.i64.wrap (a + 1) = a + 1 := IntWalk.i64_in _ (by omega)
   rw [e1, e2]
   clear e1 e2
   go_enter Tryz.func106, Tryz.ntmps106
   go_wp2
   go_ret2
   exact ⟨rfl, rfl⟩
  ·have e2 : sHi a n = a := if_neg hn
   rw [e1, e2]
   clear e1 e2
   go_enter Tryz.func106, Tryz.ntmps106
   go_wp2
   go_ret2
   exact ⟨rfl, rfl⟩
theorem hasNo (root p1 p2 : ByteArray) (n pos : Int) (t : Bool) (A1 A2 : Option Addr) (m1 c1 m2 c2 : Nat) (w : World) (h : t = false ∨ m1 ≠ 0 ∨ m2 ≠ 1) :
  Calls qP 55 #[.string root, .agg #[.string p1, .string p2], .agg #[.int .i64 n, .int .i64 pos, .bool t, .slice A1 m1 c1, .slice A2 m2 c2]] w fun e w' => e = .returned (.bool false) ∧ Since w w' := by
 have R : Since w ((w.alloc (.cells #[.string p1, .string p2] 36)).alloc (.cells #[.int .i64 n, .int .i64 pos, .bool t, .slice A1 m1 c1, .slice A2 m2 c2] 112)) := since_of (by go_grown)
 have HR := qH R
 clear R
 cases t with
 | false =>
  clear h
  go_enter Tryz.func55, Tryz.ntmps55
  go_wp2
  go_ret
  exact ⟨rfl, HR.out⟩
 | true =>
  by_cases h1 : m1 = 0
  ·subst h1
   have h2 : ((m2 : Int) != 1) = true := by rw [bne_iff_ne]; rcases h with h | h | h <;> first | cases h | omega
   clear h
   go_enter Tryz.func55, Tryz.ntmps55
   go_wp2
   go_ret
   exact ⟨rfl, HR.out⟩
  ·have h2 : ((m1 : Int) != 0) = true := by rw [bne_iff_ne]; omega
   clear h h1
   go_enter Tryz.func55, Tryz.ntmps55
   go_wp2
   go_ret
   exact ⟨rfl, HR.out⟩
theorem hasYes (root p1 p2 : ByteArray) (n pos : Int) (A1 : Option Addr) (c1 b off c2 : Nat) (u : Value) (w : World) (out : Bool) (hc : w.cell? ⟨b, off, none⟩ = some u)
  (H : Hid (∀ W, Since w W → Calls qP 100 #[.string root, .agg #[.string p1, .string p2], u, .int .i64 pos, .int .i64 n] W fun e w' => e = .returned (.bool out) ∧ Since W w')) :
  Calls qP 55 #[.string root, .agg #[.string p1, .string p2], .agg #[.int .i64 n, .int .i64 pos, .bool true, .slice A1 0 c1, .slice (some ⟨b, off, none⟩) 1 c2]] w fun e w' => e = .returned (.bool out) ∧ Since w w' := by
 have R : Since w ((w.alloc (.cells #[.string p1, .string p2] 36)).alloc (.cells #[.int .i64 n, .int .i64 pos, .bool true, .slice A1 0 c1, .slice (some ⟨b, off, none⟩) 1 c2] 112)) := since_of (by go_grown)
 have k1 := (Blk.new w 36 #[.string p1, .string p2]).alloc (.cells #[.int .i64 n, .int .i64 pos, .bool true, .slice A1 0 c1, .slice (some ⟨b, off, none⟩) 1 c2] 112)
 have k2 := Blk.new (w.alloc (.cells #[.string p1, .string p2] 36)) 112 #[.int .i64 n, .int .i64 pos, .bool true, .slice A1 0 c1, .slice (some ⟨b, off, none⟩) 1 c2]
 rw [show (w.alloc (.cells #[.string p1, .string p2] 36)).heap.size = w.heap.size + 1 by simp] at k2
 have q0 := k1.cell 0
 have q1 := k1.cell 1
 have q2 := k2.cell 0
 have q3 := k2.cell 1
 have q4 := k2.cell 4
 have q5 := R.cell hc
 have HR := qH R
 clear R k1 k2 hc
 go_enter Tryz.func55, Tryz.ntmps55
 go_wp2
 generalize (w.alloc (.cells #[.string p1, .string p2] 36)).alloc (.cells #[.int .i64 n, .int .i64 pos, .bool true, .slice A1 0 c1, .slice (some ⟨b, off, none⟩) 1 c2] 112) = V at *
 have r0 := HR.out
 simp only [List.getElem?_toArray, List.getElem?_cons_zero, List.getElem?_cons_succ] at q0 q1 q2 q3 q4
 go_region_held3 (fun W => W.cell? ⟨w.heap.size, 0, none⟩ = some (.string p1) ∧ W.cell? ⟨w.heap.size, 1, none⟩ = some (.string p2) ∧ W.cell? ⟨w.heap.size + 1, 0, none⟩ = some (.int .i64 n) ∧ W.cell? ⟨w.heap.size + 1, 1, none⟩ = some (.int .i64 pos) ∧ W.cell? ⟨w.heap.size + 1, 4, none⟩ = some (.slice (some ⟨b, off, none⟩) 1 c2) ∧ W.cell? ⟨b, off, none⟩ = some u)
  (first | exact ⟨s5.cell q0, s5.cell q1, s5.cell q2, s5.cell q3, s5.cell q4, s5.cell q5⟩ | go_keep)
  (first
    | (go_at_call 100; refine (H.out _ (by exact r0)).mono ?_; clear H; rintro en w5 ⟨rfl, s5⟩))
 all_goals go_wp2
 all_goals go_ret
 all_goals exact ⟨rfl, since_of (step_below (Below.drewN r0.below 1) s5.below)⟩
theorem hasC (root : List UInt8) (p : KV) (x : Pf) (v : Value) (w : World) (hP : Prf w v x) (hr : Roots w) (hn : x.n ≤ 9223372036854775807) (hq : ∀ q ∈ x.paths, q.length ≤ 1000000 ∧ ∀ y ∈ q, y.length ≤ 70000) :
  Calls qP 55 #[.string (bs root), .agg #[.string p.1, .string p.2], v] w fun e w' => e = .returned (.bool (hasP root p x)) ∧ Since w w' := by
 obtain ⟨n, pos, there, near, paths⟩ := x
 obtain ⟨nv, pv, rfl, ⟨A1, c1, rfl, _, _⟩, ⟨A2, c2, rfl, _, hc⟩⟩ := hP
 simp only at hn hq hc ⊢
 by_cases h : there = true ∧ near = [] ∧ paths.length = 1
 ·obtain ⟨rfl, rfl, h3⟩ := h
  obtain ⟨q, rfl⟩ := List.length_eq_one_iff.1 h3
  obtain ⟨b, off, u, rfl, d, hT, hR⟩ := hc 0 q rfl
  have h4 := hq q (by simp)
  rw [Nat.add_zero] at d
  exact hasYes (bs root) p.1 p.2 n pos A1 c1 b off c2 u w _ d (qH fun W hW => reachC root p q u pos n W ((hT.below hW.below).more hW.2.2.2.1) hR (roots_since hr hW) hn h4.1 h4.2)
 ·have e : hasP root p ⟨n, pos, there, near, paths⟩ = false := by
   match there, near, paths with
   | false, _, _ => rfl
   | true, _ :: _, _ => rfl
   | true, [], [] => rfl
   | true, [], [_] => exact absurd ⟨rfl, rfl, rfl⟩ h
   | true, [], _ :: _ :: _ => rfl
  rw [e]
  refine hasNo (bs root) p.1 p.2 n pos there A1 A2 near.length c1 paths.length c2 w ?_
  cases there with
  | false => exact .inl rfl
  | true =>
   right
   by_cases h1 : near = []
   ·exact .inr fun h2 => h ⟨rfl, h1, h2⟩
   ·exact .inl fun h2 => h1 (List.eq_nil_of_length_eq_zero h2)
def intValsS (l : List Int) : List Value := l.map (Value.int .i64)
def Ints (w : World) (v : Value) (l : List Int) : Prop := ∃ A cap, v = .slice A l.length cap ∧ ∀ i (h : i < l.length), ∃ b off, A = some ⟨b, off, none⟩ ∧ w.cell? ⟨b, off + i, none⟩ = some (.int .i64 l[i])
theorem Ints.below {w w' : World} {v : Value} {l : List Int} (h : Ints w v l) (hb : Below w.heap.size w w') : Ints w' v l := by
 obtain ⟨A, cap, rfl, hc⟩ := h
 refine ⟨A, cap, rfl, fun i hi => ?_⟩
 obtain ⟨b, off, ha, h1⟩ := hc i hi
 exact ⟨b, off, ha, (since_of hb).cell h1⟩
def OwnInts (B : Nat) (v : Value) (l : List Int) (W0 w : World) : Prop := w.ownsRow B 3 1 v l.length (intValsS l) ∧ Below B W0 w ∧ B ≤ w.heap.size
theorem OwnInts.start {w w1 : World} (h : Below w.heap.size w w1) : OwnInts w.heap.size (.slice none 0 0) [] w w1 := ⟨World.ownsRow_nil _ _ _ _, h, h.size⟩
section
variable {B : Nat} {v : Value} {l : List Int} {W0 w w' : World}
theorem OwnInts.after (h : OwnInts B v l W0 w) (k : Below w.heap.size w w') : OwnInts B v l W0 w' := by
 refine ⟨h.1.kept (row := none) ⟨k.os, k.tape, k.output, k.size, fun i hi _ => k.block i hi⟩ (by cases hv : v.ownBlock <;> simp), h.2.1.trans (k.mono h.2.2), Nat.le_trans h.2.2 k.size⟩
theorem OwnInts.alloc (h : OwnInts B v l W0 w) (o : Obj) : OwnInts B v l W0 (w.alloc o) := h.after ((Below.refl _ _).alloc (Nat.le_refl _) _)
theorem OwnInts.below (h : OwnInts W0.heap.size v l W0 w) : Below W0.heap.size W0 w := h.2.1
end
theorem side_cases (key : ByteArray) (pos i : Int) (p : KV) : (i < pos ∧ kc p.1 key = -1 ∧ sideOk key pos i p = true) ∨ (i < pos ∧ kc p.1 key ≠ -1 ∧ sideOk key pos i p = false) ∨
  (¬ i < pos ∧ kc p.1 key = 1 ∧ sideOk key pos i p = true) ∨ (¬ i < pos ∧ kc p.1 key ≠ 1 ∧ sideOk key pos i p = false) := by
 unfold sideOk
 by_cases h : i < pos
 ·rw [if_pos h]
  by_cases hk : kc p.1 key = -1
  ·exact .inl ⟨h, hk, decide_eq_true hk⟩
  ·exact .inr (.inl ⟨h, hk, decide_eq_false hk⟩)
 ·rw [if_neg h]
  by_cases hk : kc p.1 key = 1
  ·exact .inr (.inr (.inl ⟨h, hk, decide_eq_true (kc_lt hk)⟩))
  ·exact .inr (.inr (.inr ⟨h, hk, decide_eq_false fun e => hk (kc_gt e)⟩))
theorem eq_str (a b : ByteArray) : (a.toList == b.toList) = decide (kc a b = 0) := by
 by_cases h : kc a b = 0
 ·rw [decide_eq_true h, kc_zero h]
  exact beq_self_eq_true _
 ·rw [decide_eq_false h]
  exact str_ne fun e => h (by rw [e, kc_self])
theorem nearOk_cons {root : List UInt8} {key : ByteArray} {pos n i : Int} {ps : List KV} {qs : List (List (List UInt8))} {k : Nat} (h1 : k < ps.length) (h2 : k < qs.length) :
  nearOk root key pos n (i + k) (ps.drop k) (qs.drop k) = (sideOk key pos (i + k) ps[k] && reach root ps[k] qs[k] (i + k) n && nearOk root key pos n (i + (k + 1 : Nat)) (ps.drop (k + 1)) (qs.drop (k + 1))) := by
 rw [List.drop_eq_getElem_cons h1, List.drop_eq_getElem_cons h2]
 show (sideOk _ _ _ _ && reach _ _ _ _ _ && nearOk _ _ _ _ _ _ _) = _
 rw [show i + ((k + 1 : Nat) : Int) = i + (k : Int) + 1 by omega]
theorem lacksNo1 (root key : ByteArray) (n pos : Int) (t : Bool) (nv pv : Value) (w : World) (h : t = true ∨ pos < 0 ∨ n < pos) :
  Calls qP 58 #[.string root, .string key, .agg #[.int .i64 n, .int .i64 pos, .bool t, nv, pv]] w fun e w' => e = .returned (.bool false) ∧ Since w w' := by
 have HR := qH (show Since w (w.alloc (.cells #[.int .i64 n, .int .i64 pos, .bool t, nv, pv] 112)) from since_of (by go_grown))
 cases t with
 | true =>
  clear h
  go_enter Tryz.func58, Tryz.ntmps58
  go_wp2
  go_ret
  exact ⟨rfl, HR.out⟩
 | false =>
  by_cases h1 : pos < 0
  ·clear h
   go_enter Tryz.func58, Tryz.ntmps58
   go_wp2
   go_ret
   exact ⟨rfl, HR.out⟩
  ·have h2 : n < pos := by rcases h with h | h | h <;> first | cases h | omega
   clear h
   go_enter Tryz.func58, Tryz.ntmps58
   go_wp2
   go_ret
   exact ⟨rfl, HR.out⟩
theorem lacksNo2 (root key : ByteArray) (n pos lo hi : Int) (A1 A2 : Option Addr) (m1 c1 m2 c2 : Nat) (w : World) (h0 : 0 ≤ pos) (h1 : pos ≤ n) (hn : n ≤ 9223372036854775807) (e1 : sLo pos = lo) (e2 : sHi pos n = hi) (hd : 0 ≤ hi - lo ∧ hi - lo ≤ 2) (h : (m1 : Int) ≠ hi - lo ∨ (m2 : Int) ≠ hi - lo) :
  Calls qP 58 #[.string root, .string key, .agg #[.int .i64 n, .int .i64 pos, .bool false, .slice A1 m1 c1, .slice A2 m2 c2]] w fun e w' => e = .returned (.bool false) ∧ Since w w' := by
 have HR := qH (show Since w (w.alloc (.cells #[.int .i64 n, .int .i64 pos, .bool false, .slice A1 m1 c1, .slice A2 m2 c2] 112)) from since_of (by go_grown))
 have K0 := fun W => sidesC pos n W (by omega) (by omega) hn
 rw [e1, e2] at K0
 have K := qH K0
 have hw : IntKind.i64.wrap (hi - lo) = hi - lo := IntWalk.i64_in _ (by omega)
 have b1 : ¬ pos < 0 := by omega
 have b2 : ¬ n < pos := by omega
 clear K0 e1 e2 hd
 by_cases h3 : (m1 : Int) = hi - lo
 ·have h4 : ((m2 : Int) != hi - lo) = true := by rw [bne_iff_ne]; rcases h with h | h; exact absurd h3 h; exact h
  have h5 : ((m1 : Int) != hi - lo) = false := by rw [h3]; simp
  clear h h3
  go_enter Tryz.func58, Tryz.ntmps58
  go_wp2_with fail
  refine (K.out _).mono ?_
  rintro e w1 ⟨rfl, rfl⟩
  go_wp2
  go_ret
  exact ⟨rfl, HR.out⟩
 ·have h5 : ((m1 : Int) != hi - lo) = true := by rw [bne_iff_ne]; exact h3
  clear h h3
  go_enter Tryz.func58, Tryz.ntmps58
  go_wp2_with fail
  refine (K.out _).mono ?_
  rintro e w1 ⟨rfl, rfl⟩
  go_wp2
  go_ret
  exact ⟨rfl, HR.out⟩
theorem lacksYes (root : List UInt8) (key : ByteArray) (n pos lo hi : Int) (A1 A2 : Option Addr) (c1 c2 : Nat) (near : List KV) (paths : List (List (List UInt8))) (w : World) (h0 : 0 ≤ pos) (h1 : pos ≤ n) (hn : n ≤ 9223372036854775807) (e1 : sLo pos = lo) (e2 : sHi pos n = hi) (hd : 0 ≤ hi - lo ∧ hi - lo ≤ 2 ∧ 0 ≤ lo ∧ hi ≤ n)
  (hl1 : (near.length : Int) = hi - lo) (hl2 : (paths.length : Int) = hi - lo)
  (hc : ∀ k (h : k < near.length), ∃ b off, A1 = some ⟨b, off, none⟩ ∧ w.cell? ⟨b, off + k * 2, none⟩ = some (.string near[k].1) ∧ w.cell? ⟨b, off + k * 2 + 1, none⟩ = some (.string near[k].2))
  (hq : ∀ (k : Nat) q, paths[k]? = some q → ∃ b off u, A2 = some ⟨b, off, none⟩ ∧ w.cell? ⟨b, off + k, none⟩ = some u ∧
    ∀ (p : KV) (i : Int) W, Since w W → Calls qP 100 #[.string (bs root), .agg #[.string p.1, .string p.2], u, .int .i64 i, .int .i64 n] W fun e w' => e = .returned (.bool (reach root p q i n)) ∧ Since W w')
  (HT : Hid (∀ W, Since w W → Calls qP 107 #[.int .i64 0, .string ⟨#[]⟩] W fun e w' => e = .returned (.string (bs (shaOf (topOf 0 [])))) ∧ Since W w')) :
  Calls qP 58 #[.string (bs root), .string key, .agg #[.int .i64 n, .int .i64 pos, .bool false, .slice A1 near.length c1, .slice A2 paths.length c2]] w fun e w' => e = .returned (.bool (nearOk root key pos n lo near paths && (decide (0 < n) || decide (root = shaOf (topOf 0 []))))) ∧ Since w w' := by
 obtain ⟨r, hr⟩ : ∃ r, r = (nearOk root key pos n lo near paths && (decide (0 < n) || decide (root = shaOf (topOf 0 [])))) := ⟨_, rfl⟩
 rw [← hr]
 have HR := qH hr
 have HC := qH hc
 have HQ := qH hq
 have HV := qH (show Since w (w.alloc (.cells #[.int .i64 n, .int .i64 pos, .bool false, .slice A1 near.length c1, .slice A2 paths.length c2] 112)) from since_of (by go_grown))
 have k0 := Blk.new w 112 #[.int .i64 n, .int .i64 pos, .bool false, .slice A1 near.length c1, .slice A2 paths.length c2]
 have q0 := k0.cell 0
 have q1 := k0.cell 1
 have q3 := k0.cell 3
 have q4 := k0.cell 4
 simp only [List.getElem?_toArray, List.getElem?_cons_zero, List.getElem?_cons_succ] at q0 q1 q3 q4
 have K0 := fun W => sidesC pos n W (by omega) (by omega) hn
 rw [e1, e2] at K0
 have K := qH K0
 have hw : IntKind.i64.wrap (hi - lo) = hi - lo := IntWalk.i64_in _ (by omega)
 have b1 : ¬ pos < 0 := by omega
 have b2 : ¬ n < pos := by omega
 have h4 : ((paths.length : Int) != hi - lo) = false := by rw [hl2]; simp
 have h5 : ((near.length : Int) != hi - lo) = false := by rw [hl1]; simp
 have HL := qH (show near.length = paths.length ∧ near.length ≤ 2 ∧ (near.length : Int) = hi - lo by omega)
 have HD := qH hd
 clear K0 e1 e2 hr hc hq k0 hl1 hl2 hd
 go_enter Tryz.func58, Tryz.ntmps58
 go_wp2_with fail
 refine (K.out _).mono ?_
 rintro e w1 ⟨rfl, rfl⟩
 clear K
 go_wp2
 generalize hVV : w.alloc (.cells #[.int .i64 n, .int .i64 pos, .bool false, .slice A1 near.length c1, .slice A2 paths.length c2] 112) = V at *
 clear hVV
 go_loopw [9, 10, 11, 53] (fun _ _ _ i wr => ∃ k : Nat, k ≤ near.length ∧ i = .int .i64 k ∧ Hid (nearOk root key pos n lo near paths = nearOk root key pos n (lo + k) (near.drop k) (paths.drop k)) ∧ Since V wr) (fun _ _ _ i _ => near.length - (intOf i).toNat)
 case atStart => exact ⟨0, Nat.zero_le _, rfl, qH (by rw [Int.natCast_zero, Int.add_zero, List.drop_zero, List.drop_zero]), Since.refl V⟩
 case round =>
  obtain ⟨k, hk, rfl, HI, hS⟩ := hrel
  by_cases hlt : k < near.length
  ·have hlt2 : k < paths.length := by have := HL.out; omega
   obtain ⟨g1, o1, rfl, d1, d2⟩ := HC.out k hlt
   obtain ⟨g2, o2, u, rfl, d3, H⟩ := HQ.out k _ (List.getElem?_eq_getElem hlt2)
   have HS := qH (show Since w wr from since_of (step_below HV.out.below hS.below))
   have z1 := HS.out.cell d1
   have z2 := HS.out.cell d2
   have z3 := HS.out.cell d3
   have y0 := hS.cell q0
   have y1 := hS.cell q1
   have y4 := hS.cell q4
   have HE := qH (HI.out.trans (nearOk_cons (root := root) (key := key) (pos := pos) (n := n) (i := lo) hlt hlt2))
   have HSD := qH (side_cases key pos (lo + k) near[k])
   have HRE := qH (H near[k] (lo + k))
   have i0 : (0 : Int) ≤ (k : Int) := by omega
   have i1 : (k : Int) < (near.length : Int) := by omega
   have i2 : (k : Int) < (paths.length : Int) := by omega
   have wi : IntKind.i64.wrap (lo + (k : Int)) = lo + (k : Int) := IntWalk.i64_in _ (by have := HD.out; have := HL.out; omega)
   have HI2 := qH (show (k : Int) ≤ 1 by have := HL.out; omega)
   have hless := less_str near[k].1 key
   have heq := eq_str near[k].1 key
   generalize reach root near[k] paths[k] (lo + k) n = re at *
   obtain ⟨p, hp⟩ : ∃ p, p = near[k] := ⟨_, rfl⟩
   rw [← hp] at z1 z2 HE HSD HRE hless heq
   obtain ⟨p1, p2⟩ := p
   simp only at z1 z2 HSD HRE hless heq
   generalize hci : lo + (k : Int) = ci at *
   clear d1 d2 d3 H hp HI
   have HB := qH (Blk.new wr 36 #[.string p1, .string p2])
   have HW := qH (show Since w (wr.alloc (.cells #[.string p1, .string p2] 36)) ∧ Since wr (wr.alloc (.cells #[.string p1, .string p2] 36)) from ⟨since_of (HS.out.below.alloc HS.out.2.2.2.1 _), since_of (by go_grown)⟩)
   have x0 : (wr.alloc (.cells #[.string p1, .string p2] 36)).cell? ⟨wr.heap.size, 0, none⟩ = some (.string p1) := HB.out.cell 0
   have x1 : (wr.alloc (.cells #[.string p1, .string p2] 36)).cell? ⟨wr.heap.size, 1, none⟩ = some (.string p2) := HB.out.cell 1
   have y1' := HW.out.2.cell y1
   rcases HSD.out with ⟨s1, s2, s3⟩ | ⟨s1, s2, s3⟩ | ⟨s1, s2, s3⟩ | ⟨s1, s2, s3⟩
   ·rw [decide_eq_true s2] at hless
    clear heq
    rw [s3] at HE
    clear s2
    have rr := HW.out.1
    have y0' := HW.out.2.cell y0
    have y4' := HW.out.2.cell y4
    have z3' := HW.out.2.cell z3
    have SV := qH (show Since V (wr.alloc (.cells #[.string p1, .string p2] 36)) from since_of (step_below hS.below HW.out.2.below))
    clear HSD HB HW s3
    cases re with
    | false =>
     have h3 : r = false := by rw [HR.out, HE.out]; simp
     subst h3
     clear HR HE
     go_wp2
     generalize wr.alloc (.cells #[.string p1, .string p2] 36) = V2 at *
     go_region_held3 (fun W => W.cell? ⟨wr.heap.size, 0, none⟩ = some (.string p1) ∧ W.cell? ⟨wr.heap.size, 1, none⟩ = some (.string p2) ∧ W.cell? ⟨w.heap.size, 4, none⟩ = some (.slice (some ⟨g2, o2, none⟩) paths.length c2) ∧ W.cell? ⟨w.heap.size, 0, none⟩ = some (.int .i64 n) ∧ W.cell? ⟨g2, o2 + k, none⟩ = some u)
      (first | exact ⟨s5.cell x0, s5.cell x1, s5.cell y4', s5.cell y0', s5.cell z3'⟩ | go_keep)
      (first | (go_at_call 100; refine (HRE.out _ (by exact rr)).mono ?_; clear HRE; rintro en w5 ⟨rfl, s5⟩))
     all_goals go_wp2
     all_goals go_ret
     all_goals exact ⟨rfl, since_of (step_below (Below.drewN (step_below HV.out.below SV.out.below) 1) s5.below)⟩
    | true =>
     have hk9 := HI2.out
     have HE2 := qH (show nearOk root key pos n lo near paths = nearOk root key pos n (lo + ((k + 1 : Nat) : Int)) (near.drop (k + 1)) (paths.drop (k + 1)) by rw [HE.out]; simp)
     clear HE
     go_wp2
     generalize wr.alloc (.cells #[.string p1, .string p2] 36) = V2 at *
     go_region_held3 (fun W => W.cell? ⟨wr.heap.size, 0, none⟩ = some (.string p1) ∧ W.cell? ⟨wr.heap.size, 1, none⟩ = some (.string p2) ∧ W.cell? ⟨w.heap.size, 4, none⟩ = some (.slice (some ⟨g2, o2, none⟩) paths.length c2) ∧ W.cell? ⟨w.heap.size, 0, none⟩ = some (.int .i64 n) ∧ W.cell? ⟨g2, o2 + k, none⟩ = some u)
      (first | exact ⟨s5.cell x0, s5.cell x1, s5.cell y4', s5.cell y0', s5.cell z3'⟩ | go_keep)
      (first | (go_at_call 100; refine (HRE.out _ (by exact rr)).mono ?_; clear HRE; rintro en w5 ⟨rfl, s5⟩))
     all_goals go_wp2
     all_goals go_roundw
     case rel => exact ⟨k + 1, by omega, by go_num, HE2, since_of (step_below (Below.drewN SV.out.below 1) s5.below)⟩
     case measure => simp [intOf]; omega
   ·rw [decide_eq_false s2] at hless
    clear heq
    rw [s3] at HE
    clear s2
    have h3 : r = false := by rw [HR.out, HE.out]; simp
    subst h3
    have SV := qH (show Since w (wr.alloc (.cells #[.string p1, .string p2] 36)) from HW.out.1)
    clear HR HE HSD HRE HB HW s3
    go_wp2
    go_ret
    exact ⟨rfl, SV.out⟩
   ·rw [decide_eq_false (by rw [s2]; decide)] at hless
    rw [decide_eq_false (by rw [s2]; decide)] at heq
    rw [s3] at HE
    clear s2
    have rr := HW.out.1
    have y0' := HW.out.2.cell y0
    have y4' := HW.out.2.cell y4
    have z3' := HW.out.2.cell z3
    have SV := qH (show Since V (wr.alloc (.cells #[.string p1, .string p2] 36)) from since_of (step_below hS.below HW.out.2.below))
    clear HSD HB HW s3
    cases re with
    | false =>
     have h3 : r = false := by rw [HR.out, HE.out]; simp
     subst h3
     clear HR HE
     go_wp2
     generalize wr.alloc (.cells #[.string p1, .string p2] 36) = V2 at *
     go_region_held3 (fun W => W.cell? ⟨wr.heap.size, 0, none⟩ = some (.string p1) ∧ W.cell? ⟨wr.heap.size, 1, none⟩ = some (.string p2) ∧ W.cell? ⟨w.heap.size, 4, none⟩ = some (.slice (some ⟨g2, o2, none⟩) paths.length c2) ∧ W.cell? ⟨w.heap.size, 0, none⟩ = some (.int .i64 n) ∧ W.cell? ⟨g2, o2 + k, none⟩ = some u)
      (first | exact ⟨s5.cell x0, s5.cell x1, s5.cell y4', s5.cell y0', s5.cell z3'⟩ | go_keep)
      (first | (go_at_call 100; refine (HRE.out _ (by exact rr)).mono ?_; clear HRE; rintro en w5 ⟨rfl, s5⟩))
     all_goals go_wp2
     all_goals go_ret
     all_goals exact ⟨rfl, since_of (step_below (Below.drewN (step_below HV.out.below SV.out.below) 1) s5.below)⟩
    | true =>
     have hk9 := HI2.out
     have HE2 := qH (show nearOk root key pos n lo near paths = nearOk root key pos n (lo + ((k + 1 : Nat) : Int)) (near.drop (k + 1)) (paths.drop (k + 1)) by rw [HE.out]; simp)
     clear HE
     go_wp2
     generalize wr.alloc (.cells #[.string p1, .string p2] 36) = V2 at *
     go_region_held3 (fun W => W.cell? ⟨wr.heap.size, 0, none⟩ = some (.string p1) ∧ W.cell? ⟨wr.heap.size, 1, none⟩ = some (.string p2) ∧ W.cell? ⟨w.heap.size, 4, none⟩ = some (.slice (some ⟨g2, o2, none⟩) paths.length c2) ∧ W.cell? ⟨w.heap.size, 0, none⟩ = some (.int .i64 n) ∧ W.cell? ⟨g2, o2 + k, none⟩ = some u)
      (first | exact ⟨s5.cell x0, s5.cell x1, s5.cell y4', s5.cell y0', s5.cell z3'⟩ | go_keep)
      (first | (go_at_call 100; refine (HRE.out _ (by exact rr)).mono ?_; clear HRE; rintro en w5 ⟨rfl, s5⟩))
     all_goals go_wp2
     all_goals go_roundw
     case rel => exact ⟨k + 1, by omega, by go_num, HE2, since_of (step_below (Below.drewN SV.out.below 1) s5.below)⟩
     case measure => simp [intOf]; omega
   ·rcases kc_cases p1 key with h6 | h6 | h6
    ·rw [decide_eq_true h6] at hless
     clear heq
     rw [s3] at HE
     clear s2
     have h3 : r = false := by rw [HR.out, HE.out]; simp
     subst h3
     have SV := qH (show Since w (wr.alloc (.cells #[.string p1, .string p2] 36)) from HW.out.1)
     clear HR HE HSD HRE HB HW s3
     go_wp2
     go_ret
     exact ⟨rfl, SV.out⟩
    ·rw [decide_eq_false (by rw [h6]; decide)] at hless
     rw [decide_eq_true h6] at heq
     rw [s3] at HE
     clear s2
     have h3 : r = false := by rw [HR.out, HE.out]; simp
     subst h3
     have SV := qH (show Since w (wr.alloc (.cells #[.string p1, .string p2] 36)) from HW.out.1)
     clear HR HE HSD HRE HB HW s3
     go_wp2
     go_ret
     exact ⟨rfl, SV.out⟩
    ·exact absurd h6 s2
  ·obtain rfl : k = near.length := by omega
   have hall : nearOk root key pos n lo near paths = true := by
    rw [HI.out, List.drop_eq_nil_of_le (Nat.le_refl _)]
    cases paths.drop near.length <;> rfl
   have HS := qH (show Since w wr from since_of (step_below HV.out.below hS.below))
   have y0 := hS.cell q0
   have HR2 := qH (HR.out.trans (show _ = (decide (0 < n) || decide (root = shaOf (topOf 0 []))) by rw [hall, Bool.true_and]))
   clear HI hall HR HC HQ HL HD
   by_cases h6 : 0 < n
   ·have h3 : r = true := by rw [HR2.out, decide_eq_true h6]; rfl
    subst h3
    clear HR2
    go_wp2
    go_ret
    exact ⟨rfl, HS.out⟩
   ·have h8 : decide (0 < n) = false := decide_eq_false h6
    have hr2 := HR2.out
    rw [h8, Bool.false_or] at hr2
    clear HR2 h8
    generalize shaOf (topOf 0 []) = y at *
    by_cases h9 : root = y
    ·have h3 : r = true := by rw [hr2, decide_eq_true h9]
     subst h3 h9
     clear hr2
     go_wp2_with fail
     refine (HT.out _ HS.out).mono ?_
     rintro en w5 ⟨rfl, s5⟩
     go_wp2
     go_ret
     exact ⟨rfl, since_of (step_below HS.out.below s5.below)⟩
    ·have h3 : r = false := by rw [hr2, decide_eq_false h9]
     subst h3
     have hne := str_ne (bs_ne h9)
     clear hr2 h9
     go_wp2_with fail
     refine (HT.out _ HS.out).mono ?_
     rintro en w5 ⟨rfl, s5⟩
     go_wp2
     go_ret
     exact ⟨rfl, since_of (step_below HS.out.below s5.below)⟩
theorem lacksC (root : List UInt8) (key : ByteArray) (x : Pf) (v : Value) (w : World) (hP : Prf w v x) (hr : Roots w) (hn : x.n ≤ 9223372036854775807) (hq : ∀ q ∈ x.paths, q.length ≤ 1000000 ∧ ∀ y ∈ q, y.length ≤ 70000) :
  Calls qP 58 #[.string (bs root), .string key, v] w fun e w' => e = .returned (.bool (lacksP root key x)) ∧ Since w w' := by
 obtain ⟨n, pos, there, near, paths⟩ := x
 obtain ⟨nv, pv, rfl, ⟨A1, c1, rfl, _, hc1⟩, ⟨A2, c2, rfl, _, hc⟩⟩ := hP
 simp only at hn hq hc hc1 ⊢
 by_cases hF : Fits ⟨n, pos, there, near, paths⟩
 ·have e : lacksP root key ⟨n, pos, there, near, paths⟩ = (nearOk root key pos n (sLo pos) near paths && (decide (0 < n) || decide (root = shaOf (topOf 0 [])))) := by
   unfold lacksP
   rw [decide_eq_true hF, Bool.true_and]
   rfl
  rw [e]
  obtain ⟨f1, f2, f3, f4, f5⟩ := hF
  have hb := lo_hi (x := ⟨n, pos, there, near, paths⟩) f2 f3
  simp only at f1 f2 f3 f4 f5
  subst f1
  refine lacksYes root key n pos (sLo pos) (sHi pos n) A1 A2 c1 c2 near paths w f2 f3 hn rfl rfl (by have h1 : loI ⟨n, pos, false, near, paths⟩ = sLo pos := rfl; have h2 : hiI ⟨n, pos, false, near, paths⟩ = sHi pos n := rfl; rw [h1, h2] at hb; simp only at hb; omega) f4 f5 hc1 (fun k q hk => ?_) (qH fun W hW => (topC 0 [] W (roots_since hr hW) (by simp)).mono fun e w' ⟨he, hb⟩ => ⟨he, since_of hb⟩)
  obtain ⟨b, off, u, rfl, d, hT, hR⟩ := hc k q hk
  have h4 := hq q (List.mem_of_getElem? hk)
  exact ⟨b, off, u, rfl, d, fun p i W hW => reachC root p q u i n W ((hT.below hW.below).more hW.2.2.2.1) hR (roots_since hr hW) hn h4.1 h4.2⟩
 ·have e : lacksP root key ⟨n, pos, there, near, paths⟩ = false := by unfold lacksP; rw [decide_eq_false hF]; rfl
  rw [e]
  by_cases h1 : there = true ∨ pos < 0 ∨ n < pos
  ·exact lacksNo1 (bs root) key n pos there _ _ w h1
  ·obtain ⟨h2, h3, h4⟩ : there = false ∧ 0 ≤ pos ∧ pos ≤ n := by
    refine ⟨?_, by omega, by omega⟩
    cases there with
    | false => rfl
    | true => exact absurd (.inl rfl) h1
   subst h2
   have hb := lo_hi (x := ⟨n, pos, false, near, paths⟩) h3 h4
   have h5 : loI ⟨n, pos, false, near, paths⟩ = sLo pos := rfl
   have h6 : hiI ⟨n, pos, false, near, paths⟩ = sHi pos n := rfl
   rw [h5, h6] at hb
   simp only at hb
   refine lacksNo2 (bs root) key n pos (sLo pos) (sHi pos n) A1 A2 near.length c1 paths.length c2 w h3 h4 hn rfl rfl (by omega) ?_
   by_cases h7 : (near.length : Int) = sHi pos n - sLo pos
   ·right
    intro h8
    exact hF ⟨rfl, h3, h4, h7, h8⟩
   ·exact .inl h7
end Go.Proofs.YtkejaepmoabikaaGreatDoor.W
namespace Go.Proofs.YtkejaepmoabikaaGreatDoor.W
open Go.ChangeShapes Go.WideShapes Go.RowKit
theorem list_from : ∀ (k : Nat) (s : ByteArray) (acc : List ByteArray), (listFrom k s acc).2.length ≤ acc.length + k
 | 0, s, acc => by simp [listFrom]
 | k + 1, s, acc => by
  rw [listFrom]
  split
  ·simp
  ·have := list_from k (stText s 0).1.1 (acc ++ [(stText s 0).2])
   simp at this
   omega
theorem list_len (s : ByteArray) (e : Int) : (stList s e).2.length ≤ 256 := by
 have h := (stLen_facts s e 256).1
 unfold stList
 simp only
 split
 ·simp
 ·have := list_from (stLen s e 256).2 (stLen s e 256).1.1 []
  simp at this
  omega
theorem near_len : ∀ (k : Nat) (a : ByteArray × Int) (acc : List KV), (nearFrom k a acc).2.length = acc.length + k
 | 0, a, acc => rfl
 | k + 1, a, acc => by
  simp only [nearFrom]
  rw [near_len k]
  simp
  omega
theorem pths_len : ∀ (k : Nat) (a : ByteArray × Int) (acc : List (List (List UInt8))), (∀ q ∈ acc, q.length ≤ 256) → (pathsFrom k a acc).2.length = acc.length + k ∧ ∀ q ∈ (pathsFrom k a acc).2, q.length ≤ 256
 | 0, a, acc, h => ⟨rfl, h⟩
 | k + 1, a, acc, h => by
  simp only [pathsFrom]
  have := pths_len k (stList a.1 a.2).1 (acc ++ [unb (stList a.1 a.2).2]) (fun q hq => by
   rw [List.mem_append, List.mem_singleton] at hq
   rcases hq with hq | rfl
   ·exact h q hq
   ·have := list_len a.1 a.2
    unfold unb
    rw [List.length_map]
    exact this)
  exact ⟨by rw [this.1]; simp; omega, this.2⟩
theorem list_sz : ∀ (k : Nat) (s : ByteArray) (acc : List ByteArray), (∀ x ∈ acc, x.size ≤ 65536) → ∀ x ∈ (listFrom k s acc).2, x.size ≤ 65536
 | 0, s, acc, h => by simpa [listFrom] using h
 | k + 1, s, acc, h => by
  rw [listFrom]
  split
  ·intro x hx; cases hx
  ·exact list_sz k _ _ fun x hx => by
    rw [List.mem_append, List.mem_singleton] at hx
    rcases hx with hx | rfl
    ·exact h x hx
    ·exact (stText_facts s 0).2
theorem stList_sz (s : ByteArray) (e : Int) : ∀ x ∈ (stList s e).2, x.size ≤ 65536 := by
 unfold stList
 simp only
 split
 ·intro x hx; cases hx
 ·exact list_sz _ _ _ fun x hx => by cases hx
theorem pths_sz : ∀ (k : Nat) (a : ByteArray × Int) (acc : List (List (List UInt8))), (∀ q ∈ acc, ∀ y ∈ q, y.length ≤ 65536) → ∀ q ∈ (pathsFrom k a acc).2, ∀ y ∈ q, y.length ≤ 65536
 | 0, a, acc, h => by simpa [pathsFrom] using h
 | k + 1, a, acc, h => by
  simp only [pathsFrom]
  exact pths_sz k _ _ fun q hq => by
   rw [List.mem_append, List.mem_singleton] at hq
   rcases hq with hq | rfl
   ·exact h q hq
   ·intro y hy
    unfold unb at hy
    rw [List.mem_map] at hy
    obtain ⟨x, hx, rfl⟩ := hy
    rw [size_list]
    exact stList_sz a.1 a.2 x hx
theorem rd_holds (s : ByteArray) : PfIn (rdPf s).1 ∧ ∀ q ∈ (rdPf s).1.paths, q.length ≤ 1000000 ∧ ∀ y ∈ q, y.length ≤ 70000 := by
 have hz : PfIn Pf.zero ∧ ∀ q ∈ Pf.zero.paths, q.length ≤ 1000000 ∧ ∀ y ∈ q, y.length ≤ 70000 := ⟨⟨by decide, by decide, by decide, by decide, Nat.zero_le _, Nat.zero_le _⟩, fun q hq => by cases hq⟩
 unfold rdPf
 simp only
 split
 ·exact hz
 ·rename_i he
  split
  ·exact hz
  ·rename_i hb
   unfold rdTail
   split
   ·exact hz
   ·rename_i hp
    simp only
    split
    ·exact hz
    ·rename_i hd
     have w1 := (stNum_facts s 0).1
     have w2 := (stNum_facts (stNum s 0).1.1 (stNum s 0).1.2).1
     generalize (stNum s 0) = A at *
     generalize (stNum A.1.1 A.1.2) = B at *
     generalize (stNum (stNum B.1.1 B.1.2).1.1 (stNum B.1.1 B.1.2).1.2) = D at *
     generalize (nearFrom D.2 D.1 []).1 = E at *
     have h1 := near_len D.2 D.1 []
     have h2 := pths_len (stNum E.1 E.2).2 (stNum E.1 E.2).1 [] (fun q hq => by cases hq)
     have h5 := pths_sz (stNum E.1 E.2).2 (stNum E.1 E.2).1 [] (fun q hq => by cases hq)
     have h3 := stNum_facts E.1 E.2
     have h4 : (stNum E.1 E.2).2 ≤ 2 := by
      by_cases h : (stNum E.1 E.2).1.2 = 0
      ·have : ¬ 2 < (stNum E.1 E.2).2 := fun h5 => hp ⟨h, h5⟩
       omega
      ·have := h3.2.2 h; omega
     simp at h1 h2
     have hm : (1000000000 : Nat) ≤ maxLen := by decide
     exact ⟨⟨by simp only; omega, by simp only; omega, by simp only; omega, by simp only; omega, by simp only; omega, by simp only; omega⟩, fun q hq => ⟨by have := h2.2 q hq; omega, fun y hy => by have := h5 q hq y hy; omega⟩⟩
end Go.Proofs.YtkejaepmoabikaaGreatDoor.W
namespace Go.Proofs.YtkejaepmoabikaaGreatDoor.W
open Go.RowKit
open Lib renaming hid → qH
open _root_.Go.Proofs.Tryz renaming prog → qP
set_option maxHeartbeats 4000000
set_option maxRecDepth 100000
theorem guardSn : qP.eqGuardType qP.depth 62 = false := by kernel_rfl
theorem guardCl : qP.eqGuardType qP.depth 41 = false := by kernel_rfl
theorem eq_sn2 (a a' : Int) (c c' : ByteArray) (w : World) :
  (Op.equalIn 10000 62 (.agg #[.int .i64 a, .string c]) (.agg #[.int .i64 a', .string c'])).run qP w = .ok (decide (a = a' ∧ c = c')) w := by
 have u1 := Tryz.underlying3
 have u2 := Tryz.underlying9
 have a1 := Tryz.isAgg3
 have a2 := Tryz.isAgg9
 have z1 := Tryz.sizeOf3
 have z2 := Tryz.sizeOf9
 have hS : qP.underlying 62 = some (.struct (qP.fieldsOf 62)) := by kernel_rfl
 have hp : qP.stoodInHeld 62 = false := by kernel_rfl
 rw [show (10000 : Nat) = 9999 + 1 from rfl, run_equalIn_agg w 9999 62 _ _ hS hp]
 simp only [Program.fieldsOf, Tryz.underlying62]
 go_simp
 by_cases h1 : c = c' <;> by_cases h2 : a = a' <;> simp [h1, h2, str_iff]
theorem eq_clt4 (c c' k k' : ByteArray) (a a' : Int) (f f' : Bool) (w : World) :
  (Op.equalIn 10000 41 (.agg #[.string c, .string k, .int .i64 a, .bool f]) (.agg #[.string c', .string k', .int .i64 a', .bool f'])).run qP w = .ok (decide (c = c' ∧ k = k' ∧ a = a' ∧ f = f')) w := by
 have u1 := Tryz.underlying3
 have u2 := Tryz.underlying9
 have u3 := Tryz.underlying4
 have a1 := Tryz.isAgg3
 have a2 := Tryz.isAgg9
 have a3 := Tryz.isAgg4
 have z1 := Tryz.sizeOf3
 have z2 := Tryz.sizeOf9
 have z3 := Tryz.sizeOf4
 have hS : qP.underlying 41 = some (.struct (qP.fieldsOf 41)) := by kernel_rfl
 have hp : qP.stoodInHeld 41 = false := by kernel_rfl
 rw [show (10000 : Nat) = 9999 + 1 from rfl, run_equalIn_agg w 9999 41 _ _ hS hp]
 simp only [Program.fieldsOf, Tryz.underlying41]
 go_simp
 by_cases h1 : c = c' <;> by_cases h2 : a = a' <;> by_cases h3 : k = k' <;> by_cases h4 : f = f' <;> simp [h1, h2, h3, h4, str_iff]
theorem cup_e1 (j : Nat) (id raw : ByteArray) (c1 c2 : ByteArray) (c3 : Int) (c4 : Bool) (e : Int) (he : e ≠ 0) (w : World)
  (A : Hid (∀ W, Since w W → Calls qP 48 #[.pointer (some ⟨j, 0, none⟩), .string id] W fun en w' => en = .returned (.tuple #[.agg #[.string c1, .string c2, .int .i64 c3, .bool c4], .int .i64 e]) ∧ Since W w')) :
  Calls qP 16 #[.pointer (some ⟨j, 0, none⟩), .string id, .string raw] w fun en w' => en = .returned (.int .i64 e) ∧ Since w w' := by
 have hb : (e != 0) = true := by rw [bne_iff_ne]; exact he
 clear he
 go_enter Tryz.func16, Tryz.ntmps16
 go_wp2_with fail
 refine (A.out _ (Since.refl w)).mono ?_
 rintro en w1 ⟨rfl, q⟩
 have C1 := qH (Blk.new w1 41 #[.string c1, .string c2, .int .i64 c3, .bool c4])
 have S1 := qH (since_alloc q (.cells #[.string c1, .string c2, .int .i64 c3, .bool c4] 41))
 clear A q
 go_wp2
 go_ret
 exact ⟨rfl, S1.out⟩
theorem cup_e2 (j : Nat) (id raw : ByteArray) (c1 c2 : ByteArray) (c3 : Int) (c4 : Bool) (h1 : ByteArray) (h2 h3 : Int) (h4 h5 : ByteArray) (e : Int) (w : World)
  (A : Hid (∀ W, Since w W → Calls qP 48 #[.pointer (some ⟨j, 0, none⟩), .string id] W fun en w' => en = .returned (.tuple #[.agg #[.string c1, .string c2, .int .i64 c3, .bool c4], .int .i64 0]) ∧ Since W w'))
  (X : Hid (∀ W, Since w W → Calls qP 49 #[.agg #[.string c1, .string c2, .int .i64 c3, .bool c4], .string raw] W fun en w' => en = .returned (.tuple #[.agg #[.string h1, .int .i64 h2, .int .i64 h3, .string h4, .string h5], .iface 160 (.agg #[.int .i64 e])]) ∧ Since W w'))
  (R : Hid (∀ W, Since w W → Calls qP 50 #[.iface 160 (.agg #[.int .i64 e])] W fun en w' => en = .returned (.int .i64 e) ∧ Since W w')) :
  Calls qP 16 #[.pointer (some ⟨j, 0, none⟩), .string id, .string raw] w fun en w' => en = .returned (.int .i64 e) ∧ Since w w' := by
 go_enter Tryz.func16, Tryz.ntmps16
 go_wp2_with fail
 refine (A.out _ (Since.refl w)).mono ?_
 rintro en w1 ⟨rfl, q⟩
 have C1 := qH (Blk.new w1 41 #[.string c1, .string c2, .int .i64 c3, .bool c4])
 have S1 := qH (since_alloc q (.cells #[.string c1, .string c2, .int .i64 c3, .bool c4] 41))
 clear A q
 have y0 := C1.out.c 0 (v := .string c1) rfl
 have y1 := C1.out.c 1 (v := .string c2) rfl
 have y2 := C1.out.c 2 (v := .int .i64 c3) rfl
 have y3 := C1.out.c 3 (v := .bool c4) rfl
 go_wp2_with fail
 clear y0 y1 y2 y3
 refine (X.out _ S1.out).mono ?_
 rintro en w2 ⟨rfl, q⟩
 have C2 := qH ((C1.out.next q.below).alloc (.cells #[.string h1, .int .i64 h2, .int .i64 h3, .string h4, .string h5] 34))
 have H2 := qH (Blk.new w2 34 #[.string h1, .int .i64 h2, .int .i64 h3, .string h4, .string h5])
 have S2 := qH (since_alloc (since_two S1.out q) (.cells #[.string h1, .int .i64 h2, .int .i64 h3, .string h4, .string h5] 34))
 clear C1 S1 X q
 go_wp2_with fail
 refine (R.out _ S2.out).mono ?_
 rintro en w3 ⟨rfl, q⟩
 have S3 := qH (since_two S2.out q)
 clear C2 H2 S2 R q
 go_wp2
 go_ret
 exact ⟨rfl, S3.out⟩
theorem cup_acc (j : Nat) (id raw : ByteArray) (c1 c2 : ByteArray) (c3 : Int) (c4 : Bool) (h1 : ByteArray) (h2 h3 : Int) (h4 h5 : ByteArray) (x1 : Int) (x2 : ByteArray) (f : Int) (hf : f ≠ 0) (Q : World → Prop) (w : World)
  (A : Hid (∀ W, Since w W → Calls qP 48 #[.pointer (some ⟨j, 0, none⟩), .string id] W fun en w' => en = .returned (.tuple #[.agg #[.string c1, .string c2, .int .i64 c3, .bool c4], .int .i64 0]) ∧ Since W w'))
  (X : Hid (∀ W, Since w W → Calls qP 49 #[.agg #[.string c1, .string c2, .int .i64 c3, .bool c4], .string raw] W fun en w' => en = .returned (.tuple #[.agg #[.string h1, .int .i64 h2, .int .i64 h3, .string h4, .string h5], .nilIface]) ∧ Since W w'))
  (E : Hid (∀ W, Since w W → Calls qP 21 #[.pointer (some ⟨j, 0, none⟩), .string id, .int .i64 h2] W fun en w' => en = .returned (.tuple #[.agg #[.int .i64 x1, .string x2], .int .i64 f]) ∧ Since W w'))
  (AC : Hid (∀ W, Since w W → Calls qP 51 #[.pointer (some ⟨j, 0, none⟩), .string id, .agg #[.string c1, .string c2, .int .i64 c3, .bool c4], .agg #[.string h1, .int .i64 h2, .int .i64 h3, .string h4, .string h5]] W fun en w' => en = .returned (.int .i64 0) ∧ Q w')) :
  Calls qP 16 #[.pointer (some ⟨j, 0, none⟩), .string id, .string raw] w fun en w' => en = .returned (.int .i64 0) ∧ Q w' := by
 have hb : (f != 0) = true := by rw [bne_iff_ne]; exact hf
 clear hf
 go_enter Tryz.func16, Tryz.ntmps16
 go_wp2_with fail
 refine (A.out _ (Since.refl w)).mono ?_
 rintro en w1 ⟨rfl, q⟩
 have C1 := qH (Blk.new w1 41 #[.string c1, .string c2, .int .i64 c3, .bool c4])
 have S1 := qH (since_alloc q (.cells #[.string c1, .string c2, .int .i64 c3, .bool c4] 41))
 clear A q
 have y0 := C1.out.c 0 (v := .string c1) rfl
 have y1 := C1.out.c 1 (v := .string c2) rfl
 have y2 := C1.out.c 2 (v := .int .i64 c3) rfl
 have y3 := C1.out.c 3 (v := .bool c4) rfl
 go_wp2_with fail
 clear y0 y1 y2 y3
 refine (X.out _ S1.out).mono ?_
 rintro en w2 ⟨rfl, q⟩
 have C2 := qH ((C1.out.next q.below).alloc (.cells #[.string h1, .int .i64 h2, .int .i64 h3, .string h4, .string h5] 34))
 have H2 := qH (Blk.new w2 34 #[.string h1, .int .i64 h2, .int .i64 h3, .string h4, .string h5])
 have S2 := qH (since_alloc (since_two S1.out q) (.cells #[.string h1, .int .i64 h2, .int .i64 h3, .string h4, .string h5] 34))
 clear C1 S1 X q
 have o0 := H2.out.c 0 (v := .string h1) rfl
 have o1 := H2.out.c 1 (v := .int .i64 h2) rfl
 have o2 := H2.out.c 2 (v := .int .i64 h3) rfl
 have o3 := H2.out.c 3 (v := .string h4) rfl
 have o4 := H2.out.c 4 (v := .string h5) rfl
 have C3 := qH (C2.out.alloc (.cells #[.int .i64 h3, .string h4] 62))
 have H3 := qH (H2.out.alloc (.cells #[.int .i64 h3, .string h4] 62))
 have zz : (w2.alloc (.cells #[.string h1, .int .i64 h2, .int .i64 h3, .string h4, .string h5] 34)).heap.size = w2.heap.size + 1 := by simp
 have D := Blk.new (w2.alloc (.cells #[.string h1, .int .i64 h2, .int .i64 h3, .string h4, .string h5] 34)) 62 #[.int .i64 h3, .string h4]
 rw [zz] at D
 have D3 := qH D
 clear zz D
 have S3 := qH (since_alloc S2.out (.cells #[.int .i64 h3, .string h4] 62))
 have v1 := H3.out.c 1 (v := .int .i64 h2) rfl
 clear C2 H2 S2
 go_wp2_with fail
 clear o0 o1 o2 o3 o4 v1
 refine (E.out _ S3.out).mono ?_
 rintro en w3 ⟨rfl, q⟩
 have C4 := qH ((C3.out.next q.below).alloc (.cells #[.int .i64 x1, .string x2] 62))
 have H4 := qH ((H3.out.next q.below).alloc (.cells #[.int .i64 x1, .string x2] 62))
 have D4 := qH ((D3.out.next q.below).alloc (.cells #[.int .i64 x1, .string x2] 62))
 have X4 := qH (Blk.new w3 62 #[.int .i64 x1, .string x2])
 have S4 := qH (since_alloc (since_two S3.out q) (.cells #[.int .i64 x1, .string x2] 62))
 clear C3 H3 D3 S3 E q
 have y0 := C4.out.c 0 (v := .string c1) rfl
 have y1 := C4.out.c 1 (v := .string c2) rfl
 have y2 := C4.out.c 2 (v := .int .i64 c3) rfl
 have y3 := C4.out.c 3 (v := .bool c4) rfl
 have o0 := H4.out.c 0 (v := .string h1) rfl
 have o1 := H4.out.c 1 (v := .int .i64 h2) rfl
 have o2 := H4.out.c 2 (v := .int .i64 h3) rfl
 have o3 := H4.out.c 3 (v := .string h4) rfl
 have o4 := H4.out.c 4 (v := .string h5) rfl
 go_wp2_with fail
 refine (AC.out _ S4.out).mono ?_
 rintro en w4 ⟨rfl, q⟩
 clear C4 H4 D4 X4 S4 AC y0 y1 y2 y3 o0 o1 o2 o3 o4
 go_wp2
 go_ret
 exact ⟨rfl, q⟩
theorem cup_same (j : Nat) (id raw : ByteArray) (c1 c2 : ByteArray) (c3 : Int) (c4 : Bool) (h1 : ByteArray) (h2 h3 : Int) (h4 h5 : ByteArray) (w : World)
  (A : Hid (∀ W, Since w W → Calls qP 48 #[.pointer (some ⟨j, 0, none⟩), .string id] W fun en w' => en = .returned (.tuple #[.agg #[.string c1, .string c2, .int .i64 c3, .bool c4], .int .i64 0]) ∧ Since W w'))
  (X : Hid (∀ W, Since w W → Calls qP 49 #[.agg #[.string c1, .string c2, .int .i64 c3, .bool c4], .string raw] W fun en w' => en = .returned (.tuple #[.agg #[.string h1, .int .i64 h2, .int .i64 h3, .string h4, .string h5], .nilIface]) ∧ Since W w'))
  (E : Hid (∀ W, Since w W → Calls qP 21 #[.pointer (some ⟨j, 0, none⟩), .string id, .int .i64 h2] W fun en w' => en = .returned (.tuple #[.agg #[.int .i64 h3, .string h4], .int .i64 0]) ∧ Since W w')) :
  Calls qP 16 #[.pointer (some ⟨j, 0, none⟩), .string id, .string raw] w fun en w' => en = .returned (.int .i64 9) ∧ Since w w' := by
 have EQ : ∀ W : World, (Op.equalIn 10000 62 (.agg #[.int .i64 h3, .string h4]) (.agg #[.int .i64 h3, .string h4])).run qP W = .ok true W := fun W => by rw [eq_sn2]; simp
 have GU := guardSn
 go_enter Tryz.func16, Tryz.ntmps16
 go_wp2_with fail
 refine (A.out _ (Since.refl w)).mono ?_
 rintro en w1 ⟨rfl, q⟩
 have C1 := qH (Blk.new w1 41 #[.string c1, .string c2, .int .i64 c3, .bool c4])
 have S1 := qH (since_alloc q (.cells #[.string c1, .string c2, .int .i64 c3, .bool c4] 41))
 clear A q
 have y0 := C1.out.c 0 (v := .string c1) rfl
 have y1 := C1.out.c 1 (v := .string c2) rfl
 have y2 := C1.out.c 2 (v := .int .i64 c3) rfl
 have y3 := C1.out.c 3 (v := .bool c4) rfl
 go_wp2_with fail
 clear y0 y1 y2 y3
 refine (X.out _ S1.out).mono ?_
 rintro en w2 ⟨rfl, q⟩
 have C2 := qH ((C1.out.next q.below).alloc (.cells #[.string h1, .int .i64 h2, .int .i64 h3, .string h4, .string h5] 34))
 have H2 := qH (Blk.new w2 34 #[.string h1, .int .i64 h2, .int .i64 h3, .string h4, .string h5])
 have S2 := qH (since_alloc (since_two S1.out q) (.cells #[.string h1, .int .i64 h2, .int .i64 h3, .string h4, .string h5] 34))
 clear C1 S1 X q
 have o0 := H2.out.c 0 (v := .string h1) rfl
 have o1 := H2.out.c 1 (v := .int .i64 h2) rfl
 have o2 := H2.out.c 2 (v := .int .i64 h3) rfl
 have o3 := H2.out.c 3 (v := .string h4) rfl
 have o4 := H2.out.c 4 (v := .string h5) rfl
 have C3 := qH (C2.out.alloc (.cells #[.int .i64 h3, .string h4] 62))
 have H3 := qH (H2.out.alloc (.cells #[.int .i64 h3, .string h4] 62))
 have zz : (w2.alloc (.cells #[.string h1, .int .i64 h2, .int .i64 h3, .string h4, .string h5] 34)).heap.size = w2.heap.size + 1 := by simp
 have D := Blk.new (w2.alloc (.cells #[.string h1, .int .i64 h2, .int .i64 h3, .string h4, .string h5] 34)) 62 #[.int .i64 h3, .string h4]
 rw [zz] at D
 have D3 := qH D
 clear zz D
 have S3 := qH (since_alloc S2.out (.cells #[.int .i64 h3, .string h4] 62))
 have v1 := H3.out.c 1 (v := .int .i64 h2) rfl
 clear C2 H2 S2
 go_wp2_with fail
 clear o0 o1 o2 o3 o4 v1
 refine (E.out _ S3.out).mono ?_
 rintro en w3 ⟨rfl, q⟩
 have C4 := qH ((C3.out.next q.below).alloc (.cells #[.int .i64 h3, .string h4] 62))
 have H4 := qH ((H3.out.next q.below).alloc (.cells #[.int .i64 h3, .string h4] 62))
 have D4 := qH ((D3.out.next q.below).alloc (.cells #[.int .i64 h3, .string h4] 62))
 have X4 := qH (Blk.new w3 62 #[.int .i64 h3, .string h4])
 have S4 := qH (since_alloc (since_two S3.out q) (.cells #[.int .i64 h3, .string h4] 62))
 clear C3 H3 D3 S3 E q
 have u0 := D4.out.c 0 (v := .int .i64 h3) rfl
 have u1 := D4.out.c 1 (v := .string h4) rfl
 have z0 := X4.out.c 0 (v := .int .i64 h3) rfl
 have z1 := X4.out.c 1 (v := .string h4) rfl
 go_wp2
 go_ret
 exact ⟨rfl, S4.out⟩
theorem cup_frz (j : Nat) (id raw : ByteArray) (c1 c2 : ByteArray) (c3 : Int) (c4 : Bool) (h1 : ByteArray) (h2 h3 : Int) (h4 h5 : ByteArray) (x1 : Int) (x2 : ByteArray) (hx : ¬ (x1 = h3 ∧ x2 = h4)) (Q : World → Prop) (w : World)
  (A : Hid (∀ W, Since w W → Calls qP 48 #[.pointer (some ⟨j, 0, none⟩), .string id] W fun en w' => en = .returned (.tuple #[.agg #[.string c1, .string c2, .int .i64 c3, .bool c4], .int .i64 0]) ∧ Since W w'))
  (X : Hid (∀ W, Since w W → Calls qP 49 #[.agg #[.string c1, .string c2, .int .i64 c3, .bool c4], .string raw] W fun en w' => en = .returned (.tuple #[.agg #[.string h1, .int .i64 h2, .int .i64 h3, .string h4, .string h5], .nilIface]) ∧ Since W w'))
  (E : Hid (∀ W, Since w W → Calls qP 21 #[.pointer (some ⟨j, 0, none⟩), .string id, .int .i64 h2] W fun en w' => en = .returned (.tuple #[.agg #[.int .i64 x1, .string x2], .int .i64 0]) ∧ Since W w'))
  (ST : Hid (∀ W, Since w W → Calls qP 52 #[.pointer (some ⟨j, 0, none⟩), .string id, .agg #[.string c1, .string c2, .int .i64 c3, .bool true], .slice none 0 0] W fun en w' => en = .returned (.int .i64 0) ∧ Q w')) :
  Calls qP 16 #[.pointer (some ⟨j, 0, none⟩), .string id, .string raw] w fun en w' => en = .returned (.int .i64 0) ∧ Q w' := by
 have EQ : ∀ W : World, (Op.equalIn 10000 62 (.agg #[.int .i64 x1, .string x2]) (.agg #[.int .i64 h3, .string h4])).run qP W = .ok false W := fun W => by rw [eq_sn2, decide_eq_false hx]
 have GU := guardSn
 clear hx
 go_enter Tryz.func16, Tryz.ntmps16
 go_wp2_with fail
 refine (A.out _ (Since.refl w)).mono ?_
 rintro en w1 ⟨rfl, q⟩
 have C1 := qH (Blk.new w1 41 #[.string c1, .string c2, .int .i64 c3, .bool c4])
 have S1 := qH (since_alloc q (.cells #[.string c1, .string c2, .int .i64 c3, .bool c4] 41))
 have Q1 := qH q.below.size
 clear A q
 have y0 := C1.out.c 0 (v := .string c1) rfl
 have y1 := C1.out.c 1 (v := .string c2) rfl
 have y2 := C1.out.c 2 (v := .int .i64 c3) rfl
 have y3 := C1.out.c 3 (v := .bool c4) rfl
 go_wp2_with fail
 clear y0 y1 y2 y3
 refine (X.out _ S1.out).mono ?_
 rintro en w2 ⟨rfl, q⟩
 have C2 := qH ((C1.out.next q.below).alloc (.cells #[.string h1, .int .i64 h2, .int .i64 h3, .string h4, .string h5] 34))
 have H2 := qH (Blk.new w2 34 #[.string h1, .int .i64 h2, .int .i64 h3, .string h4, .string h5])
 have S2 := qH (since_alloc (since_two S1.out q) (.cells #[.string h1, .int .i64 h2, .int .i64 h3, .string h4, .string h5] 34))
 clear C1 S1 X q
 have o0 := H2.out.c 0 (v := .string h1) rfl
 have o1 := H2.out.c 1 (v := .int .i64 h2) rfl
 have o2 := H2.out.c 2 (v := .int .i64 h3) rfl
 have o3 := H2.out.c 3 (v := .string h4) rfl
 have o4 := H2.out.c 4 (v := .string h5) rfl
 have C3 := qH (C2.out.alloc (.cells #[.int .i64 h3, .string h4] 62))
 have H3 := qH (H2.out.alloc (.cells #[.int .i64 h3, .string h4] 62))
 have zz : (w2.alloc (.cells #[.string h1, .int .i64 h2, .int .i64 h3, .string h4, .string h5] 34)).heap.size = w2.heap.size + 1 := by simp
 have D := Blk.new (w2.alloc (.cells #[.string h1, .int .i64 h2, .int .i64 h3, .string h4, .string h5] 34)) 62 #[.int .i64 h3, .string h4]
 rw [zz] at D
 have D3 := qH D
 clear zz D
 have S3 := qH (since_alloc S2.out (.cells #[.int .i64 h3, .string h4] 62))
 have v1 := H3.out.c 1 (v := .int .i64 h2) rfl
 clear C2 H2 S2
 go_wp2_with fail
 clear o0 o1 o2 o3 o4 v1
 refine (E.out _ S3.out).mono ?_
 rintro en w3 ⟨rfl, q⟩
 have C4 := qH ((C3.out.next q.below).alloc (.cells #[.int .i64 x1, .string x2] 62))
 have H4 := qH ((H3.out.next q.below).alloc (.cells #[.int .i64 x1, .string x2] 62))
 have D4 := qH ((D3.out.next q.below).alloc (.cells #[.int .i64 x1, .string x2] 62))
 have X4 := qH (Blk.new w3 62 #[.int .i64 x1, .string x2])
 have S4 := qH (since_alloc (since_two S3.out q) (.cells #[.int .i64 x1, .string x2] 62))
 clear C3 H3 D3 S3 E q
 have u0 := D4.out.c 0 (v := .int .i64 h3) rfl
 have u1 := D4.out.c 1 (v := .string h4) rfl
 have z0 := X4.out.c 0 (v := .int .i64 x1) rfl
 have z1 := X4.out.c 1 (v := .string x2) rfl
 have y0 := C4.out.c 0 (v := .string c1) rfl
 have y1 := C4.out.c 1 (v := .string c2) rfl
 have y2 := C4.out.c 2 (v := .int .i64 c3) rfl
 have y3 := C4.out.c 3 (v := .bool c4) rfl
 have g3 := C4.out.frozen 3
 have C5 := qH (C4.out.set_ 3 (.bool true))
 have S5 := qH (since_put S4.out (p := ⟨w1.heap.size, 3, none⟩) Q1.out (.bool true))
 have k0 := C5.out.c 0 (v := .string c1) rfl
 have k1 := C5.out.c 1 (v := .string c2) rfl
 have k2 := C5.out.c 2 (v := .int .i64 c3) rfl
 have k3 := C5.out.c 3 (v := .bool true) rfl
 clear C4 H4 D4 X4 C5 S4
 go_wp2_with fail
 refine (ST.out _ S5.out).mono ?_
 rintro en w4 ⟨rfl, q⟩
 clear ST S5 y0 y1 y2 y3 z0 z1 u0 u1 k0 k1 k2 k3 g3
 go_wp2
 go_ret
 exact ⟨rfl, q⟩
theorem take_snoc_kv (l : List KV) (i : Nat) (h : i < l.length) : l.take (i + 1) = l.take i ++ [l[i]] := by rw [List.take_succ_eq_append_getElem h]
theorem rSame (a b : Value) (l m : List KV) (w : World) (hP : Prs w a l) (hQ : Prs w b m) (hz : l.length ≤ 1000000000) :
  Calls qP 43 #[a, b] w fun e w' => e = .returned (.bool (decide (l = m))) ∧ Below w.heap.size w w' := by
 obtain ⟨A, cap, rfl, hcap, hc⟩ := hP
 obtain ⟨A', cap', rfl, hcap', hc'⟩ := hQ
 have HC := qH (And.intro hc hc')
 obtain ⟨r, hr⟩ : ∃ r, r = decide (l = m) := ⟨_, rfl⟩
 rw [← hr]
 have HR := qH hr
 clear hc hc' hr
 by_cases hlen : l.length = m.length
 ·have HL := qH hlen
  rw [← hlen]
  have he : ((l.length : Int) == (l.length : Int)) = true := by simp
  clear hlen
  go_enter Tryz.func43, Tryz.ntmps43
  go_wp2
  go_loopw [5] (fun i wr => ∃ k : Nat, k ≤ l.length ∧ i = .int .i64 k ∧ Hid (l.take k = m.take k) ∧ Below w.heap.size w wr) (fun i _ => l.length - (intOf i).toNat)
  case atStart => exact ⟨0, Nat.zero_le _, rfl, qH rfl, Below.refl _ _⟩
  case round =>
   obtain ⟨k, hk, rfl, HT, hbel⟩ := hrel
   by_cases hlt : k < l.length
   ·have hlt' : k < m.length := by have := HL.out; omega
    obtain ⟨b1, off1, rfl, d1, d2⟩ := HC.out.1 k hlt
    obtain ⟨b2, off2, rfl, d3, d4⟩ := HC.out.2 k hlt'
    have c1 := (since_of hbel).cell d1
    have c2 := (since_of hbel).cell d2
    have c3 := (since_of hbel).cell d3
    have c4 := (since_of hbel).cell d4
    have hi0 : (0 : Int) ≤ k := by omega
    have hi1 : (k : Int) < (l.length : Int) := by omega
    have hw : IntKind.i64.wrap ((k : Int) + 1) = (k : Int) + 1 := IntWalk.i64_in _ (by omega)
    have HF := qH (And.intro (take_snoc_kv l k hlt) (take_snoc_kv m k hlt'))
    have HG := qH (show l = m → l[k] = m[k] from fun e => by subst e; rfl)
    obtain ⟨⟨x1, x2⟩, hx⟩ : ∃ x : KV, x = l[k] := ⟨_, rfl⟩
    obtain ⟨⟨y1, y2⟩, hy⟩ : ∃ y : KV, y = m[k] := ⟨_, rfl⟩
    rw [← hx] at c1 c2 HF HG
    rw [← hy] at c3 c4 HF HG
    simp only at c1 c2 c3 c4 HF HG
    clear d1 d2 d3 d4 hx hy
    by_cases h1 : x1 = y1
    ·by_cases h2 : x2 = y2
     ·subst h1 h2
      go_wp2
      go_region
      go_wp2
      go_roundw
      case rel => exact ⟨k + 1, by omega, by simp, qH (by rw [HF.out.1, HF.out.2, HT.out]), hbel.drew⟩
      case measure => simp [intOf]; omega
     ·have HN := qH (show r = false by rw [HR.out]; exact decide_eq_false (fun e => h2 (congrArg Prod.snd (HG.out e))))
      subst h1
      have h2 := str_ne h2
      go_wp2
      go_region
      go_wp2
      go_ret
      exact ⟨by rw [HN.out]; rfl, hbel.drew⟩
    ·have HN := qH (show r = false by rw [HR.out]; exact decide_eq_false (fun e => h1 (congrArg Prod.fst (HG.out e))))
     have h1 := str_ne h1
     go_wp2
     go_region
     go_wp2
     go_ret
     exact ⟨by rw [HN.out]; rfl, hbel.drew⟩
   ·obtain rfl : k = l.length := by omega
    have hi1 : ¬ (l.length : Int) < (l.length : Int) := by omega
    go_wp2
    go_ret
    have h1 : l = m := by have := HT.out; rw [List.take_length, HL.out, List.take_length] at this; exact this
    have h2 : r = true := by rw [HR.out]; exact decide_eq_true h1
    exact ⟨by rw [h2]; rfl, hbel⟩
 ·have he : ((l.length : Int) == (m.length : Int)) = false := by simp; omega
  have HN := qH (show r = false by rw [HR.out]; exact decide_eq_false (fun e => hlen (by rw [e])))
  clear hlen HR
  go_enter Tryz.func43, Tryz.ntmps43
  go_wp2
  go_ret
  exact ⟨by rw [HN.out]; rfl, Below.refl _ _⟩
end Go.Proofs.YtkejaepmoabikaaGreatDoor.W
namespace Go.Proofs.YtkejaepmoabikaaGreatDoor.W
open Go.RowKit
open Classical in
noncomputable def bldAny (l : List KV) (key : ByteArray) : Pf := if Up l then bld l key else Pf.zero
end Go.Proofs.YtkejaepmoabikaaGreatDoor.W
namespace Go.Proofs.YtkejaepmoabikaaGreatDoor.W
open Go.RowKit
open Lib renaming hid → qH
open _root_.Go.Proofs.Tryz renaming prog → qP
set_option maxHeartbeats 1000000
set_option maxRecDepth 100000
theorem nearItems_at {l : List KV} {k : Nat} (h : k < l.length) : nearItems (l.take (k + 1)) = nearItems (l.take k) ++ [encText l[k].1, encText l[k].2] := by
 rw [List.take_succ_eq_append_getElem h]
 unfold nearItems
 rw [List.flatMap_append]
 rfl
theorem pathItems_at {l : List (List (List UInt8))} {k : Nat} (h : k < l.length) : pathItems (l.take (k + 1)) = pathItems (l.take k) ++ [encJoin (bss l[k])] := by
 rw [List.take_succ_eq_append_getElem h]
 unfold pathItems
 rw [List.map_append]
 rfl
theorem rJoin (v : Value) (ss : List ByteArray) (w : World) (hv : Txs w w.heap.size v ss) (hm : ss.length ≤ 9223372036854775807) :
  Calls qP 103 #[v] w fun e w' => e = .returned (retSE (encJoin ss)) ∧ Below w.heap.size w w' := by
 obtain ⟨A, cap, rfl, hc⟩ := hv
 have HCell := qH hc
 clear hc
 by_cases hl : ss.length ≤ 256
 ·have hr := rNum ss.length w
  rw [encNum_small ss.length (by omega)] at hr
  have HA := qH hr
  clear hr
  go_enter Tryz.func103, Tryz.ntmps103
  go_wp2_with fail
  refine HA.out.mono ?_
  rintro e w1 ⟨rfl, hb⟩
  unfold retSE
  go_wp2
  go_loopw [4, 6, 7, 8] (fun s i _ _ wr => ∃ k : Nat, k ≤ ss.length ∧ i = .int .i64 k ∧ Good ss k ∧ s = .string (bs (jpart ss k)) ∧ Below w.heap.size w wr) (fun _ i _ _ _ => ss.length - (intOf i).toNat)
  case atStart => exact ⟨0, Nat.zero_le _, rfl, fun i h hi => absurd hi (by omega), by rw [jpart_zero], hb⟩
  case round =>
   obtain ⟨k, hk, rfl, hg, rfl, hbel⟩ := hrel
   by_cases hlt : k < ss.length
   ·obtain ⟨b, off, rfl, hbk, hcw⟩ := HCell.out k hlt
    have hcell : wr.cell? ⟨b, off + k, none⟩ = some (.string ss[k]) := (hbel.cell (p := ⟨b, off + k, none⟩) hbk).trans hcw
    clear hcw
    have hr := rText ss[k] wr
    by_cases hs : ss[k].size ≤ 65536
    ·rw [show encText ss[k] = (text ss[k].data.toList, 0) by simp [encText, hs]] at hr
     have HT := qH hr
     clear hr
     have hjl := jpart_len ss hl k hk hg
     have htl := text_len ss[k] hs
     have hadd := fun W => run_add W (jpart ss k) (text ss[k].data.toList) (by omega)
     rw [← jpart_succ ss k hlt] at hadd
     go_wp2_with fail
     refine HT.out.mono ?_
     rintro e w2 ⟨rfl, hb2⟩
     unfold retSE
     have hb3 := hbel.trans (hb2.mono hbel.size)
     go_wp2
     go_roundw
     case rel => exact ⟨k + 1, by omega, by go_num, hg.succ hlt hs, rfl, hb3⟩
     case measure => simp [intOf]; omega
    ·rw [show encText ss[k] = ([], 4) by simp [encText, hs]] at hr
     have HT := qH hr
     clear hr
     have HE := qH (encJoin_bad hlt hs)
     go_wp2_with fail
     refine HT.out.mono ?_
     rintro e w2 ⟨rfl, hb2⟩
     unfold retSE
     have hb3 := hbel.trans (hb2.mono hbel.size)
     go_wp2
     go_ret2
     exact ⟨by rw [HE.out]; rfl, hb3⟩
   ·obtain rfl : k = ss.length := by omega
    have HE := qH (encJoin_ok hl hg)
    go_wp2
    go_ret2
    exact ⟨by rw [HE.out]; rfl, hbel⟩
 ·have HE := qH (show encJoin ss = ([], 4) by simp [encJoin, hl])
  go_enter Tryz.func103, Tryz.ntmps103
  go_wp2
  go_ret2
  exact ⟨by rw [HE.out]; rfl, Below.refl _ _⟩
end Go.Proofs.YtkejaepmoabikaaGreatDoor.W
namespace Go.Proofs.YtkejaepmoabikaaGreatDoor.W
theorem encNumOk {n : Int} (h0 : 0 ≤ n) (h : n ≤ 9007199254740992) : (encNum n).1 = num n.toNat := by unfold encNum; rw [if_pos ⟨h0, h⟩]
theorem encTextOk {s : ByteArray} (h : s.size ≤ 65536) : (encText s).1 = text s.data.toList := by unfold encText; rw [if_pos h]
theorem fz_nat (b : Bool) : fz b = ((if b then 1 else 0 : Nat) : Int) := by cases b <;> rfl
theorem rd_clt {c : Clt} (h1 : c.chain.size ≤ 65536) (h2 : c.key.size ≤ 65536) (h3 : 0 ≤ c.height) (h4 : c.height ≤ 9007199254740992) : rdClt (bs (cltTx c)) = some c := by
 have b1 := stText_back c.chain.data.toList (by rw [size_list]; exact h1) (text c.key.data.toList ++ (num c.height.toNat ++ (num (if c.frozen then 1 else 0))))
 have b2 := stText_back c.key.data.toList (by rw [size_list]; exact h2) (num c.height.toNat ++ (num (if c.frozen then 1 else 0)))
 have b3 := stNum_back c.height.toNat (by omega) (num (if c.frozen then 1 else 0))
 have b4 := stNum_back (if c.frozen then 1 else 0) (by split <;> omega) []
 rw [List.append_nil] at b4
 unfold cltTx
 rw [encTextOk h1, encTextOk h2, encNumOk h3 h4, encNumOk (by unfold fz; split <;> omega) (by unfold fz; split <;> omega)]
 rw [show (fz c.frozen).toNat = if c.frozen then 1 else 0 by rw [fz_nat]; simp]
 simp only [List.append_assoc]
 unfold rdClt
 simp only [b1, b2, b3, b4, bs_of]
 rw [if_neg (by simp [stDone, bs_size]; split <;> omega), Int.toNat_of_nonneg h3]
 cases c with
 | mk ch k ht f => cases f <;> simp
theorem rd_sn {t : Int} {r : ByteArray} (h1 : 0 ≤ t) (h2 : t ≤ 9007199254740992) (h3 : r.size ≤ 65536) : rdSn (bs (snTx t r)) = some ⟨t, r⟩ := by
 have b1 := stNum_back t.toNat (by omega) (text r.data.toList)
 have b2 := stText_back r.data.toList (by rw [size_list]; exact h3) []
 rw [List.append_nil] at b2
 unfold snTx
 rw [encNumOk h1 h2, encTextOk h3]
 unfold rdSn
 simp only [b1, b2, bs_of]
 rw [if_neg (by simp [stDone, bs_size]), Int.toNat_of_nonneg h1]
theorem rd_cnt_none : rdCnt ⟨#[]⟩ = 0 := by decide +kernel
theorem bs_inj14 {a b : List UInt8} (h : bs a = bs b) : a = b := by
 have := congrArg (fun x : ByteArray => x.data.toList) h
 simpa [bs_data] using this
theorem ba_inj {a b : ByteArray} (h : a.data.toList = b.data.toList) : a = b := by rw [← bs_of a, ← bs_of b, h]
theorem pk_inj {w v : ByteArray} {ps qs : List ByteArray} (h : bs (pkOf w ps) = bs (pkOf v qs)) : w.data.toList = v.data.toList ∧ ps.map (·.data.toList) = qs.map (·.data.toList) := key_inj (bs_inj14 h)
theorem kClt_inj {a b : ByteArray} (h : kClt a = kClt b) : a = b := by
 have := (pk_inj h).2
 simp only [List.map_cons, List.map_nil, List.cons.injEq, and_true] at this
 exact ba_inj this
theorem kClt_next (a : ByteArray) : kClt a ≠ kNext := fun h => by have := (pk_inj h).1; exact absurd this (by decide)
theorem kClt_seen (a b : ByteArray) (n : Int) : kClt a ≠ kSeen b n := fun h => by have := (pk_inj h).1; exact absurd this (by decide)
theorem kSeen_next (b : ByteArray) (n : Int) : kSeen b n ≠ kNext := fun h => by have := (pk_inj h).1; exact absurd this (by decide)
theorem kSeen_inj {a b : ByteArray} {n m : Int} (h : kSeen a n = kSeen b m) : a = b ∧ nTx n = nTx m := by
 have := (pk_inj h).2
 simp only [List.map_cons, List.map_nil, List.cons.injEq, and_true] at this
 exact ⟨ba_inj this.1, ba_inj this.2⟩
theorem lget_lset (L : List KV) (k v k' : ByteArray) : lget (lset L k v) k' = if k' = k then some v else lget L k' := by
 induction L with
 | nil =>
  unfold lset lget
  by_cases h : k' = k
  ·subst h; simp
  ·have : ¬ k = k' := fun e => h e.symm
   simp [h, this]
 | cons x r ih =>
  unfold lset
  split
  ·by_cases h : k' = k
   ·subst h; simp [lget]
   ·have h2 : ¬ k = k' := fun e => h e.symm
    rw [if_neg h]
    simp [lget, h2]
  ·rename_i h1
   split
   ·rename_i h2
    have e := kc_zero h2
    by_cases h : k' = k
    ·subst h; simp [lget]
    ·have h3 : ¬ k = k' := fun e => h e.symm
     rw [if_neg h]
     have h4 : ¬ x.1 = k' := fun e2 => h3 (e.trans e2)
     simp [lget, h3, h4]
   ·rename_i h2
    by_cases hx : x.1 = k'
    ·by_cases h : k' = k
     ·exfalso
      subst h
      subst hx
      exact h2 (by rw [kc_self])
     ·rw [if_neg h]
      simp [lget, hx]
    ·have e1 : lget (x :: lset r k v) k' = lget (lset r k v) k' := by simp [lget, hx]
     have e2 : lget (x :: r) k' = lget r k' := by simp [lget, hx]
     rw [e1, e2, ih]
end Go.Proofs.YtkejaepmoabikaaGreatDoor.W
namespace Go.Proofs.YtkejaepmoabikaaGreatDoor.W
open Go.RowKit
open Lib renaming hid → qH
open _root_.Go.Proofs.Tryz renaming prog → qP
set_option maxHeartbeats 2000000
set_option maxRecDepth 100000
section
variable {w : World} {S : Nat → Prop} {j m : Nat} {Lv : List (List KV)} {L : List KV} {g : Nat} {t : TypeId} {cs : Array Value}
theorem Jr.set (h : Jr w S j Lv L m) (hB : Blk w g t cs) (ht : t ≠ 238) (hn : ¬ S g) (i : Nat) (v : Value) : Jr (w.setCell ⟨g, i, none⟩ v) S j Lv L m := by
 obtain ⟨b, u, s, us, ns, h1, rfl, h3, h4, h5⟩ := h
 refine ⟨b, u, s, us, ns, h1.moved (fun g' cs' hb => ?_) (fun k hk => Below.heap_setCell w ⟨g, i, none⟩ v k (fun e => ?_)), rfl, h3, h4, h5⟩
 ·exact hb.far (p := ⟨g, i, none⟩) (fun e => by
   simp only at e
   subst e
   exact ht (blk_type hB hb)) v
 ·simp only at e
  subst e
  exact hn hk
theorem Jr.put4 {a0 a1 a2 a3 : Value} (h : Jr w S j Lv L m) (hB : Blk w g t #[a0, a1, a2, a3]) (ht : t ≠ 238) (hn : ¬ S g) (v0 v1 v2 v3 : Value) : Jr ((((w.setCell ⟨g, 0, none⟩ v0).setCell ⟨g, 1, none⟩ v1).setCell ⟨g, 2, none⟩ v2).setCell ⟨g, 3, none⟩ v3) S j Lv L m :=
 (((h.set hB ht hn 0 v0).set (hB.set_ 0 v0) ht hn 1 v1).set ((hB.set_ 0 v0).set_ 1 v1) ht hn 2 v2).set (((hB.set_ 0 v0).set_ 1 v1).set_ 2 v2) ht hn 3 v3
theorem heap_put4 (W : World) {b g : Nat} (hg : g ≠ b) (v0 v1 v2 v3 : Value) :
  ((((W.setCell ⟨b, 0, none⟩ v0).setCell ⟨b, 1, none⟩ v1).setCell ⟨b, 2, none⟩ v2).setCell ⟨b, 3, none⟩ v3).heap[g]? = W.heap[g]? :=
 (((Below.heap_setCell _ ⟨b, 3, none⟩ v3 g hg).trans (Below.heap_setCell _ ⟨b, 2, none⟩ v2 g hg)).trans (Below.heap_setCell _ ⟨b, 1, none⟩ v1 g hg)).trans (Below.heap_setCell _ ⟨b, 0, none⟩ v0 g hg)
theorem no_str {p : Option Addr} {A A2 : Option Addr} {a c a2 c2 : Nat} {N : Int} (hB : Blk w g t #[.pointer p, .slice A a c, .slice A2 a2 c2, .int .i64 N]) : ∀ off s, w.cell? ⟨g, off, none⟩ ≠ some (.string s) := fun off s e => by
 have h1 := (hB.cell off).symm.trans e
 match off, h1 with
 | 0, h1 => simp at h1
 | 1, h1 => simp at h1
 | 2, h1 => simp at h1
 | 3, h1 => simp at h1
 | _ + 4, h1 => simp at h1
theorem Prs.put4 {v : Value} {l : List KV} {p : Option Addr} {A A2 : Option Addr} {a c a2 c2 : Nat} {N : Int} (h : Prs w v l) (hB : Blk w g t #[.pointer p, .slice A a c, .slice A2 a2 c2, .int .i64 N]) (v0 v1 v2 v3 : Value) : Prs ((((w.setCell ⟨g, 0, none⟩ v0).setCell ⟨g, 1, none⟩ v1).setCell ⟨g, 2, none⟩ v2).setCell ⟨g, 3, none⟩ v3) v l :=
 h.kept_by (b := g) (fun _ hk => heap_put4 w hk v0 v1 v2 v3) (no_str hB)
theorem Prs.set1 {v : Value} {l : List KV} {p : Option Addr} {A A2 : Option Addr} {a c a2 c2 : Nat} {N : Int} (h : Prs w v l) (hB : Blk w g t #[.pointer p, .slice A a c, .slice A2 a2 c2, .int .i64 N]) (i : Nat) (u : Value) : Prs (w.setCell ⟨g, i, none⟩ u) v l :=
 h.kept_by (b := g) (fun k hk => Below.heap_setCell w ⟨g, i, none⟩ u k hk) (no_str hB)
theorem KeepS.undrew {V w' : World} (h : KeepS S V.drew w') : KeepS S V w' := ⟨h.os, h.tape, h.output, h.size, h.block⟩
theorem KeepS.put4 {w' : World} {b : Nat} (h : KeepS S w w') (hb : w.heap.size ≤ b) (v0 v1 v2 v3 : Value) : KeepS S w ((((w'.setCell ⟨b, 0, none⟩ v0).setCell ⟨b, 1, none⟩ v1).setCell ⟨b, 2, none⟩ v2).setCell ⟨b, 3, none⟩ v3) :=
 ⟨h.os, h.tape, h.output, by have := h.size; simpa [World.setCell] using this, fun i hi hn => (heap_put4 w' (by omega) v0 v1 v2 v3).trans (h.block i hi hn)⟩
theorem Prs.out_of {w' : World} {v : Value} {l : List KV} (h : Prs w v l) (k : KeepS S w w') (hn : ∀ g, v.ownBlock = some g → ¬ S g) : Prs w' v l := by
 by_cases hl : l = []
 ·subst hl
  obtain ⟨A, cap, rfl, hc, _⟩ := h
  exact ⟨A, cap, rfl, hc, fun i hi => by simp at hi⟩
 ·exact h.moved fun g hg => k.block g (h.lt hl g hg) (hn g hg)
end
theorem int_und : qP.underlying 131 = some (.slice (qP.elem 131)) := by kernel_rfl
theorem int_elem : qP.elem 131 = 3 := by kernel_rfl
theorem int_cells : qP.cellsOf 3 = 1 := by kernel_rfl
section
variable {w w1 w2 : World} {j b : Nat} {u u' s s' : Value} {L : List KV} {us us' : List Undo} {ns ns' : List Nat}
theorem JAt.setU (h : JAt w j b u s L us ns) (own : w.ownsRow 0 263 1 u' us'.length (undoVals us')) (hn : u'.ownBlock ≠ some j) : JAt (w.setCell ⟨j, 1, none⟩ u') j b u' s L us' ns := by
 obtain ⟨n1, n2, n3, n4, n5⟩ := h.nj
 have gr := only_set (only_refl w (some j)) 1 u'
 refine ⟨h.blk.set_ 1 u', ?_, own_keep own (fun g e => Below.heap_setCell w ⟨j, 1, none⟩ u' g (fun e2 => hn (by rw [e]; exact congrArg some e2))), own_keep h.starts (fun g e => Below.heap_setCell w ⟨j, 1, none⟩ u' g (fun e2 => n3 (by rw [e]; exact congrArg some e2)))⟩
 obtain ⟨p, t, h2, h3, h4⟩ := h.store
 exact ⟨p, t, (Below.heap_setCell w ⟨j, 1, none⟩ u' b (Ne.symm n1)).trans h2, h3.kept (h.kept (KeepS.of_grown gr (fun r e => by cases e; exact .inl (.inl rfl)))), h4⟩
theorem JAt.setS (h : JAt w j b u s L us ns) (own : w.ownsRow 0 3 1 s' ns'.length (intVals ns')) (hn : s'.ownBlock ≠ some j) : JAt (w.setCell ⟨j, 2, none⟩ s') j b u s' L us ns' := by
 obtain ⟨n1, n2, n3, n4, n5⟩ := h.nj
 have gr := only_set (only_refl w (some j)) 2 s'
 refine ⟨h.blk.set_ 2 s', ?_, own_keep h.undos (fun g e => Below.heap_setCell w ⟨j, 2, none⟩ s' g (fun e2 => n2 (by rw [e]; exact congrArg some e2))), own_keep own (fun g e => Below.heap_setCell w ⟨j, 2, none⟩ s' g (fun e2 => hn (by rw [e]; exact congrArg some e2)))⟩
 obtain ⟨p, t, h2, h3, h4⟩ := h.store
 exact ⟨p, t, (Below.heap_setCell w ⟨j, 2, none⟩ s' b (Ne.symm n1)).trans h2, h3.kept (h.kept (KeepS.of_grown gr (fun r e => by cases e; exact .inl (.inl rfl)))), h4⟩
theorem keep_j (w : World) (j b : Nat) (u s : Value) (i : Nat) (x : Value) : KeepS (jset j b u s) w (w.setCell ⟨j, i, none⟩ x) := KeepS.of_grown (only_set (only_refl w (some j)) i x) (fun r e => by cases e; exact .inl (.inl rfl))
theorem JAt.drew (h : JAt w j b u s L us ns) : JAt w.drew j b u s L us ns := h.below ((Below.refl _ w).drew)
theorem keepS_drew (S : Nat → Prop) (w : World) : KeepS S w w.drew := KeepS.of_below S ((Below.refl _ w).drew)
theorem grows_less (hu : ∀ g, u'.ownBlock = some g → u.ownBlock = some g) (hs : ∀ g, s'.ownBlock = some g → s.ownBlock = some g) : Grows (jset j b u s) (jset j b u' s') w := fun i hi => by
 rcases hi with hi | hi | hi | hi
 ·exact .inl (.inl hi)
 ·exact .inl (.inr (.inl hi))
 ·exact .inl (.inr (.inr (.inl (hu i hi))))
 ·exact .inl (.inr (.inr (.inr (hs i hi))))
end
theorem leaveC (j b : Nat) (u s : Value) (L : List KV) (us : List Undo) (ns : List Nat) (n : Nat) (w : World) (h : JAt w j b u s L us (ns ++ [n])) (hz : ns.length + 1 ≤ 1000000000) :
  Calls qP 183 #[.pointer (some ⟨j, 0, none⟩)] w fun e w' => (∃ x, e = .returned x) ∧ JStep w j b u s L (if ns = [] then [] else us) ns w' := by
 have HJ := qH h
 have hlen : (ns ++ [n]).length = ns.length + 1 := by simp
 obtain ⟨g, cap, hs, own, hcap⟩ := own_take (k := ns.length) h.starts (by omega) (by omega)
 rw [hlen] at hs hcap
 subst hs
 have own1 : w.ownsRow 0 3 1 (.slice (some ⟨g, 0, none⟩) ns.length cap) ns.length (intVals ns) := by
  have : (intVals (ns ++ [n])).take ns.length = intVals ns := by unfold intVals; rw [← List.map_take, List.take_left]
  rw [this] at own; exact own
 clear own
 have c2 : w.cell? ⟨j, 2, none⟩ = some (.slice (some ⟨g, 0, none⟩) (ns.length + 1) cap) := h.blk.cell 2
 have f2 : w.frozen? ⟨j, 2, none⟩ = false := h.blk.frozen 2
 have hw : IntKind.i64.wrap (((ns.length + 1 : Nat) : Int) - 1) = (ns.length : Int) := by rw [IntWalk.i64_in _ (by omega)]; omega
 obtain ⟨i0, hi0, _⟩ := info_parts infoInt
 have hsl := vls_upto (P := qP) int_und int_elem hi0 int_cells (some ⟨g, 0, none⟩) (ns.length + 1) cap ns.length (by omega)
 have J1 := (h.setS own1 (fun e => h.nj.2.2.1 e)).drew
 clear h hlen
 obtain ⟨W1, hW1⟩ : ∃ W1, W1 = (w.setCell ⟨j, 2, none⟩ (.slice (some ⟨g, 0, none⟩) ns.length cap)).drew := ⟨_, rfl⟩
 rw [← hW1] at J1
 have k1 : KeepS (jset j b u (.slice (some ⟨g, 0, none⟩) (ns.length + 1) cap)) w W1 := by rw [hW1]; exact (keep_j _ _ _ _ _ _ _).step (keepS_drew _ _)
 have HW := qH hW1
 have d2 : W1.cell? ⟨j, 2, none⟩ = some (.slice (some ⟨g, 0, none⟩) ns.length cap) := J1.blk.cell 2
 have e1 : W1.cell? ⟨j, 1, none⟩ = some u := J1.blk.cell 1
 have e2 : W1.frozen? ⟨j, 1, none⟩ = false := J1.blk.frozen 1
 have e3 : W1.frozen? ⟨j, 2, none⟩ = false := J1.blk.frozen 2
 have hJ1 := qH J1
 clear hW1 J1
 go_enter Tryz.func183, Tryz.ntmps183
 go_wp2_with fail
 go_region
 all_goals rw [← HW.out]
 all_goals clear c2 f2 hsl hw
 ·by_cases hn : ns = []
  ·subst hn
   have J2 := hJ1.out.setU (us' := []) (World.ownsRow_nil _ _ _ _) (fun e => by cases e)
   have J3 := J2.setS (ns' := []) (World.ownsRow_nil _ _ _ _) (fun e => by cases e)
   have z1 : (W1.setCell ⟨j, 1, none⟩ (.slice none 0 0)).frozen? ⟨j, 2, none⟩ = false := J2.blk.frozen 2
   have z2 : (W1.setCell ⟨j, 1, none⟩ (.slice none 0 0)).cell? ⟨j, 2, none⟩ = some (.slice (some ⟨g, 0, none⟩) 0 cap) := J2.blk.cell 2
   have R := qH (show JStep w j b u (.slice (some ⟨g, 0, none⟩) (0 + 1) cap) L [] [] ((W1.setCell ⟨j, 1, none⟩ (.slice none 0 0)).setCell ⟨j, 2, none⟩ (.slice none 0 0)) from
    ⟨_, _, J3, (k1.step (keep_j _ _ _ _ _ _ _)).step (keep_j _ _ _ _ _ _ _), grows_less (fun _ e => by cases e) (fun _ e => by cases e)⟩)
   clear J2 J3 k1
   simp only [List.length_nil] at d2
   go_wp2
   go_returns
   exact ⟨⟨_, rfl⟩, by simpa using R.out⟩
  ·have hne : ((ns.length : Int) == 0) = false := by
    rw [beq_eq_false_iff_ne]
    have : ns.length ≠ 0 := fun e => hn (List.eq_nil_of_length_eq_zero e)
    omega
   go_wp2
   go_returns
   exact ⟨⟨_, rfl⟩, ⟨_, _, hJ1.out, k1, grows_less (fun _ e => e) (fun _ e => e)⟩⟩
end Go.Proofs.YtkejaepmoabikaaGreatDoor.W
