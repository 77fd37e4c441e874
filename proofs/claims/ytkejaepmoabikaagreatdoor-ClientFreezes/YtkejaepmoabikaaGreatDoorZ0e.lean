import Derived.Deep.WholeRow
import Derived.BigRegion
import Derived.Deep.RegionHeld3
import Derived.StillTailTactics
import Derived.IntWalk
import Derived.Lib.LazyBuf
import Derived.Test.YtkejaepmoabikaaGreatDoorZ0d
import Derived.Test.YtkejaepmoabikaaGreatDoorZ0b
import Derived.Test.YtkejaepmoabikaaGreatDoorZ0a
namespace Go.Proofs.YtkejaepmoabikaaGreatDoor.W
open Go.RowKit
open Lib renaming hid → qH
open _root_.Go.Proofs.Tryz renaming prog → qP
set_option maxHeartbeats 8000000
set_option maxRecDepth 100000
def wv (l : List Nat) : Array Value := (l.map fun x : Nat => Value.int .u32 (x : Int)).toArray
theorem wv_size (l : List Nat) : (wv l).size = l.length := by simp [wv]
theorem wv_at (l : List Nat) (i : Nat) (h : i < l.length) : (wv l)[i]? = some (.int .u32 (nth l i)) := by
 unfold wv
 rw [List.getElem?_toArray, List.getElem?_map, nth_lt l i h]
 rfl
theorem wv_set (l : List Nat) (i v : Nat) : (wv l).setIfInBounds i (.int .u32 (v : Int)) = wv (l.set i v) := by
 apply Array.toList_inj.1
 simp [wv, List.map_set]
theorem wv_one (l : List Nat) : (wv l).all (·.oneCell') = true := by
 rw [Array.all_eq_true_iff_forall_mem]
 intro v hv
 simp [wv] at hv
 obtain ⟨x, _, rfl⟩ := hv
 rfl
def SchedAt (l : List UInt8) (w : World) (t : Nat) (wr : World) : Prop :=
 Blk wr (w.heap.size + 1) 226 (wv (arr l t)) ∧ Blk wr w.heap.size 226 (wv (List.replicate 64 0)) ∧ Below w.heap.size w wr ∧ wr.heap.size = w.heap.size + 2
theorem SchedAt.start (l : List UInt8) (w : World) : SchedAt l w 0 ((w.alloc (.cells (wv (List.replicate 64 0)) 226)).alloc (.cells (wv (List.replicate 64 0)) 226)) := by
 refine ⟨?_, ?_, ?_, ?_⟩
 ·have h := Blk.new (w.alloc (.cells (wv (List.replicate 64 0)) 226)) 226 (wv (List.replicate 64 0))
  rw [show (w.alloc (.cells (wv (List.replicate 64 0)) 226)).heap.size = w.heap.size + 1 by simp] at h
  exact h
 ·exact (Blk.new w 226 (wv (List.replicate 64 0))).alloc _
 ·exact ((Below.refl _ _).alloc (Nat.le_refl _) _).alloc (by simp) _
 ·simp
theorem SchedAt.put {l : List UInt8} {w wr : World} {t : Nat} (h : SchedAt l w t wr) (x : Nat) (hx : x = wordNo l (arr l t) t) : SchedAt l w (t + 1) (wr.setCell ⟨w.heap.size + 1, t, none⟩ (.int .u32 (x : Int))) := by
 subst hx
 obtain ⟨h1, h2, h3, h4⟩ := h
 refine ⟨?_, h2.far (by simp) _, h3.setCell (by simp) _, by simpa [World.setCell] using h4⟩
 have := h1.set_ t (.int .u32 (wordNo l (arr l t) t : Nat))
 rw [wv_set] at this
 exact this
theorem SchedAt.cell {l : List UInt8} {w wr : World} {t : Nat} (h : SchedAt l w t wr) (i : Nat) (hi : i < 64) : wr.cell? ⟨w.heap.size + 1, i, none⟩ = some (.int .u32 (nth (arr l t) i)) := by
 rw [h.1.cell i, wv_at _ _ (by rw [arr_len]; exact hi)]
theorem SchedAt.frozen {l : List UInt8} {w wr : World} {t : Nat} (h : SchedAt l w t wr) (i : Nat) : wr.frozen? ⟨w.heap.size + 1, i, none⟩ = false := h.1.frozen i
theorem SchedAt.drewN {l : List UInt8} {w wr : World} {t : Nat} (h : SchedAt l w t wr) (n : Nat) : SchedAt l w t (wr.drewN n) := ⟨h.1, h.2.1, Below.drewN h.2.2.1 n, h.2.2.2⟩
theorem SchedAt.drew {l : List UInt8} {w wr : World} {t : Nat} (h : SchedAt l w t wr) : SchedAt l w t wr.drew := h.drewN 1
theorem info64 : (qP.info? 226).map (·.size) = some 64 := by kernel_rfl
theorem info8 : (qP.info? 189).map (·.size) = some 8 := by kernel_rfl
theorem below_setRow {B : Nat} {a w : World} {g : Nat} {cs : Array Value} (h : Below B a w) (hg : B ≤ g) : Below B a (w.setRow g cs) :=
 ⟨h.os, h.tape, h.output, by have := h.size; simpa [World.setRow] using this, fun i hi => (setRow_other w g i cs (by omega)).trans (h.block i hi)⟩
theorem word4 (s : ByteArray) (k : Nat) (w : World) (hk : k < 16) (hs : s.size ≤ maxLen) :
  Calls qP 231 #[.string s, .int .i64 (4 * (k : Int))] w fun e w' => e = .returned (.int .u32 (wordTo s.data.toList (4 * k) 4)) ∧ w = w' := by
 have h := word s (4 * k) w (by omega) hs
 rwa [show ((4 * k : Nat) : Int) = 4 * (k : Int) by omega] at h
theorem rot2 (x : Nat) (w : World) : Calls qP 230 #[.int .u32 x, .int .i64 (-2)] w fun e w' => e = .returned (.int .u32 (rotr x 2)) ∧ w = w' := rot x 2 30 (-2) (by decide +kernel) rfl w
theorem rot6 (x : Nat) (w : World) : Calls qP 230 #[.int .u32 x, .int .i64 (-6)] w fun e w' => e = .returned (.int .u32 (rotr x 6)) ∧ w = w' := rot x 6 26 (-6) (by decide +kernel) rfl w
theorem rot7 (x : Nat) (w : World) : Calls qP 230 #[.int .u32 x, .int .i64 (-7)] w fun e w' => e = .returned (.int .u32 (rotr x 7)) ∧ w = w' := rot x 7 25 (-7) (by decide +kernel) rfl w
theorem rot11 (x : Nat) (w : World) : Calls qP 230 #[.int .u32 x, .int .i64 (-11)] w fun e w' => e = .returned (.int .u32 (rotr x 11)) ∧ w = w' := rot x 11 21 (-11) (by decide +kernel) rfl w
theorem rot13 (x : Nat) (w : World) : Calls qP 230 #[.int .u32 x, .int .i64 (-13)] w fun e w' => e = .returned (.int .u32 (rotr x 13)) ∧ w = w' := rot x 13 19 (-13) (by decide +kernel) rfl w
theorem rot17 (x : Nat) (w : World) : Calls qP 230 #[.int .u32 x, .int .i64 (-17)] w fun e w' => e = .returned (.int .u32 (rotr x 17)) ∧ w = w' := rot x 17 15 (-17) (by decide +kernel) rfl w
theorem rot18 (x : Nat) (w : World) : Calls qP 230 #[.int .u32 x, .int .i64 (-18)] w fun e w' => e = .returned (.int .u32 (rotr x 18)) ∧ w = w' := rot x 18 14 (-18) (by decide +kernel) rfl w
theorem rot19 (x : Nat) (w : World) : Calls qP 230 #[.int .u32 x, .int .i64 (-19)] w fun e w' => e = .returned (.int .u32 (rotr x 19)) ∧ w = w' := rot x 19 13 (-19) (by decide +kernel) rfl w
theorem rot22 (x : Nat) (w : World) : Calls qP 230 #[.int .u32 x, .int .i64 (-22)] w fun e w' => e = .returned (.int .u32 (rotr x 22)) ∧ w = w' := rot x 22 10 (-22) (by decide +kernel) rfl w
theorem rot25 (x : Nat) (w : World) : Calls qP 230 #[.int .u32 x, .int .i64 (-25)] w fun e w' => e = .returned (.int .u32 (rotr x 25)) ∧ w = w' := rot x 25 7 (-25) (by decide +kernel) rfl w
theorem schedule (s : ByteArray) (w : World) (hs : s.size ≤ maxLen) :
  Calls qP 208 #[.string s] w fun e w' => e = .returned (.agg (wv (arr s.data.toList 64))) ∧ Below w.heap.size w w' := by
 go_enter Tryz.func208, Tryz.ntmps208
 go_wp2
 go_loopw [10] (fun i wr => ∃ k : Nat, k ≤ 16 ∧ i = .int .i64 k ∧ SchedAt s.data.toList w k wr) (fun i _ => 16 - (intOf i).toNat)
 case atStart => exact ⟨0, Nat.zero_le _, rfl, SchedAt.start _ w⟩
 case round =>
  obtain ⟨k, hk, rfl, hS⟩ := hrel
  by_cases hlt : k < 16
  ·have hc := hS.cell k (by omega)
   have hf := hS.frozen k
   have HS := qH hS
   clear hS
   go_wp2_with fail
   refine (word4 s k wr hlt hs).mono ?_
   rintro e w1 ⟨rfl, rfl⟩
   go_wp2
   go_roundw
   case rel => exact ⟨k + 1, by omega, by go_num, HS.out.put _ (by unfold wordNo; rw [if_pos hlt])⟩
   case measure => simp [intOf]; omega
  ·obtain rfl : k = 16 := by omega
   have HS := qH hS
   clear hS
   rw [show ((16 : Nat) : Int) = (16 : Int) from rfl]
   go_wp2
   go_loopw [5] (fun i wr => ∃ k : Nat, 16 ≤ k ∧ k ≤ 64 ∧ i = .int .i64 k ∧ SchedAt s.data.toList w k wr) (fun i _ => 64 - (intOf i).toNat)
   case atStart => exact ⟨16, by omega, by omega, rfl, HS.out⟩
   case round =>
    clear HS
    obtain ⟨k, hk0, hk, rfl, hS⟩ := hrel
    by_cases hlt : k < 64
    ·obtain ⟨y, hy⟩ : ∃ y, nth (arr s.data.toList k) (k - 2) = y := ⟨_, rfl⟩
     obtain ⟨x, hx⟩ : ∃ x, nth (arr s.data.toList k) (k - 15) = x := ⟨_, rfl⟩
     obtain ⟨a, ha⟩ : ∃ a, nth (arr s.data.toList k) (k - 7) = a := ⟨_, rfl⟩
     obtain ⟨b, hb⟩ : ∃ b, nth (arr s.data.toList k) (k - 16) = b := ⟨_, rfl⟩
     have c2 := hS.cell (k - 2) (by omega)
     have c15 := hS.cell (k - 15) (by omega)
     rw [hy] at c2
     rw [hx] at c15
     have EV := qH (show wadd (wadd (wadd (wxor (wxor (rotr y 17) (rotr y 19)) (wshr y 10)) a) (wxor (wxor (rotr x 7) (rotr x 18)) (wshr x 3))) b = wordNo s.data.toList (arr s.data.toList k) k by
      unfold wordNo nextW
      rw [if_neg (by omega), hy, hx, ha, hb]
      rfl)
     have HA := qH ha
     have HB := qH hb
     have HS := qH hS
     clear hS hy hx ha hb
     have n2 : ((k : Int) - 2).toNat = k - 2 := by omega
     have n15 : ((k : Int) - 15).toNat = k - 15 := by omega
     have p2 : 0 ≤ (k : Int) - 2 := by omega
     have p15 : 0 ≤ (k : Int) - 15 := by omega
     have q2 : (k : Int) - 2 < 64 := by omega
     have q15 : (k : Int) - 15 < 64 := by omega
     go_wp2
     go_quiet (fail)
     have HS2 := qH (HS.out.drewN nq)
     clear HS c2 c15 n2 n15 p2 p15 q2 q15
     generalize wr.drewN nq = w2 at *
     go_wp2_with fail
     refine (rot7 x w2).mono ?_
     rintro e w3 ⟨rfl, rfl⟩
     go_wp2_with fail
     refine (rot18 x w2).mono ?_
     rintro e w3 ⟨rfl, rfl⟩
     have hxor := r_xor
     have hr3 := r_shr x 3
     have hr10 := r_shr y 10
     simp only [show (2 : Int) ^ 3 = 8 by decide] at hr3
     simp only [show (2 : Int) ^ 10 = 1024 by decide] at hr10
     go_wp2_with fail
     refine (rot17 y w2).mono ?_
     rintro e w3 ⟨rfl, rfl⟩
     go_wp2_with fail
     refine (rot19 y w2).mono ?_
     rintro e w3 ⟨rfl, rfl⟩
     go_wp2
     clear hxor hr3 hr10
     have c7 := HS2.out.cell (k - 7) (by omega)
     have c16 := HS2.out.cell (k - 16) (by omega)
     have ck := HS2.out.cell k (by omega)
     have fk := HS2.out.frozen k
     rw [HA.out] at c7
     rw [HB.out] at c16
     have n7 : ((k : Int) - 7).toNat = k - 7 := by omega
     have n16 : ((k : Int) - 16).toNat = k - 16 := by omega
     have p7 : 0 ≤ (k : Int) - 7 := by omega
     have p16 : 0 ≤ (k : Int) - 16 := by omega
     have q7 : (k : Int) - 7 < 64 := by omega
     have q16 : (k : Int) - 16 < 64 := by omega
     have hadd := r_add
     go_region
     have HS3 := qH (HS2.out.put _ EV.out).drew
     clear HS2 c7 c16 ck fk n7 n16 p7 p16 q7 q16 hadd HA HB EV
     generalize World.drew _ = w4 at *
     go_wp2
     go_roundw
     case rel => exact ⟨k + 1, by omega, by omega, by go_num, HS3.out⟩
     case measure => simp [intOf]; omega
    ·obtain rfl : k = 64 := by omega
     have HS := qH hS
     clear hS
     go_wp2_with (first
      | (refine wpList_load_row rfl 226 _ rfl (w.heap.size + 1) rfl 226 _ (0, 0) _ HS.out.1 Tryz.underlying226 rfl (by rw [wv_size, arr_len]; exact info64) ?_)
      | (refine wpList_store_row rfl 226 _ _ rfl w.heap.size (wv (arr s.data.toList 64)) rfl rfl 226 (wv (List.replicate 64 0)) HS.out.2.1 (by rw [wv_size, arr_len]; exact info64) (by rw [wv_size, wv_size, arr_len, List.length_replicate]) (wv_one _) ?_))
     have hb : Below w.heap.size w (wr.setRow w.heap.size (wv (arr s.data.toList 64))) := below_setRow HS.out.2.2.1 (Nat.le_refl _)
     exact bodyPost_ret (v := .agg (wv (arr s.data.toList 64))) (results_cell_row Tryz.results208 _ _ w.heap.size 226 _ (0, 0) _ rfl (setRow_heap _ _ _ _ _ _ HS.out.2.1) Tryz.underlying226 rfl (by rw [wv_size, arr_len]; exact info64)) rfl ⟨rfl, hb⟩
def Roots (w : World) : Prop := ∀ i : Nat, i < 64 → w.cell? ⟨2, i, none⟩ = some (.int .u32 (nth kk i))
theorem Roots.below {w w' : World} {B : Nat} (h : Roots w) (hb : Below B w w') (hB : 2 < B) : Roots w' := fun i hi => (hb.cell (p := ⟨2, i, none⟩) hB).trans (h i hi)
theorem Roots.pos {w : World} (h : Roots w) : 2 < w.heap.size := World.block_lt_of_cell? w _ (h 0 (by omega))
theorem Roots.next {w w' : World} (h : Roots w) (hb : Below w.heap.size w w') : Roots w' := h.below hb h.pos
def RoAt (hs ws : List Nat) (w wr : World) : Prop :=
 Blk wr w.heap.size 189 (wv hs) ∧ Blk wr (w.heap.size + 1) 226 (wv ws) ∧ Blk wr (w.heap.size + 1 + 1) 189 (wv (List.replicate 8 0)) ∧ Below w.heap.size w wr
theorem RoAt.start (hs ws : List Nat) (w : World) : RoAt hs ws w (((w.alloc (.cells (wv hs) 189)).alloc (.cells (wv ws) 226)).alloc (.cells (wv (List.replicate 8 0)) 189)) := by
 have e1 : (w.alloc (.cells (wv hs) 189)).heap.size = w.heap.size + 1 := by simp
 have e2 : ((w.alloc (.cells (wv hs) 189)).alloc (.cells (wv ws) 226)).heap.size = w.heap.size + 1 + 1 := by simp
 refine ⟨?_, ?_, ?_, ?_⟩
 ·exact ((Blk.new w 189 (wv hs)).alloc _).alloc _
 ·have h := Blk.new (w.alloc (.cells (wv hs) 189)) 226 (wv ws)
  rw [e1] at h
  exact h.alloc _
 ·have h := Blk.new ((w.alloc (.cells (wv hs) 189)).alloc (.cells (wv ws) 226)) 189 (wv (List.replicate 8 0))
  rw [e2] at h
  exact h
 ·exact (((Below.refl _ _).alloc (Nat.le_refl _) _).alloc (by simp) _).alloc (by simp; omega) _
theorem RoAt.drewN {hs ws : List Nat} {w wr : World} (h : RoAt hs ws w wr) (n : Nat) : RoAt hs ws w (wr.drewN n) := ⟨h.1, h.2.1, h.2.2.1, Below.drewN h.2.2.2 n⟩
theorem RoAt.reg {hs ws : List Nat} {w wr : World} (h : RoAt hs ws w wr) (i : Nat) (hi : i < hs.length) : wr.cell? ⟨w.heap.size, i, none⟩ = some (.int .u32 (nth hs i)) := by
 rw [h.1.cell i, wv_at _ _ hi]
theorem RoAt.word {hs ws : List Nat} {w wr : World} (h : RoAt hs ws w wr) (i : Nat) (hi : i < ws.length) : wr.cell? ⟨w.heap.size + 1, i, none⟩ = some (.int .u32 (nth ws i)) := by
 rw [h.2.1.cell i, wv_at _ _ hi]
theorem zero8 : (#[.int .u32 0, .int .u32 0, .int .u32 0, .int .u32 0, .int .u32 0, .int .u32 0, .int .u32 0, .int .u32 0] : Array Value) = wv (List.replicate 8 0) := rfl
theorem rds_step (ws : List Nat) (r : Reg) (t a b c d e f g h x y : Nat) (hq : rds ws r t = ⟨a, b, c, d, e, f, g, h⟩)
  (hx : x = wadd (wadd (wadd (wadd h (wxor (wxor (rotr e 6) (rotr e 11)) (rotr e 25))) (wxor (wand e f) (wand (wnot e) g))) (nth kk t)) (nth ws t))
  (hy : y = wadd (wxor (wxor (rotr a 2) (rotr a 13)) (rotr a 22)) (wxor (wxor (wand a b) (wand a c)) (wand b c))) :
  rds ws r (t + 1) = ⟨wadd x y, a, b, c, wadd d x, e, f, g⟩ := by
 show rnd (nth kk t) (nth ws t) (rds ws r t) = _
 rw [hq, hx, hy]
 rfl
theorem rounds (hs ws : List Nat) (w : World) (hr : Roots w) (h8 : hs.length = 8) (h64 : ws.length = 64) :
  Calls qP 207 #[.agg (wv hs), .agg (wv ws)] w fun e w' => e = .returned (.agg (wv (rds ws (regOf hs) 64).list)) ∧ Below w.heap.size w w' := by
 obtain ⟨r, hr0⟩ : ∃ r, regOf hs = r := ⟨_, rfl⟩
 rw [hr0]
 obtain ⟨a0, a1, a2, a3, a4, a5, a6, a7⟩ := r
 have z0 : nth hs 0 = a0 := congrArg Reg.a hr0
 have z1 : nth hs 1 = a1 := congrArg Reg.b hr0
 have z2 : nth hs 2 = a2 := congrArg Reg.c hr0
 have z3 : nth hs 3 = a3 := congrArg Reg.d hr0
 have z4 : nth hs 4 = a4 := congrArg Reg.e hr0
 have z5 : nth hs 5 = a5 := congrArg Reg.f hr0
 have z6 : nth hs 6 = a6 := congrArg Reg.g hr0
 have z7 : nth hs 7 = a7 := congrArg Reg.h hr0
 have HZ := qH (And.intro z0 (And.intro z1 (And.intro z2 (And.intro z3 (And.intro z4 (And.intro z5 (And.intro z6 z7)))))))
 have H8 := qH h8
 have H64 := qH h64
 have HR := qH hr
 clear h8 h64 hr hr0 z0 z1 z2 z3 z4 z5 z6 z7
 go_enter Tryz.func207, Tryz.ntmps207
 go_wp2
 have HD := qH (RoAt.start hs ws w)
 rw [zero8]
 generalize ((w.alloc (Obj.cells (wv hs) 189)).alloc (Obj.cells (wv ws) 226)).alloc (Obj.cells (wv (List.replicate 8 0)) 189) = w1 at *
 have c0 := HD.out.reg 0 (by rw [H8.out]; omega)
 have c1 := HD.out.reg 1 (by rw [H8.out]; omega)
 have c2 := HD.out.reg 2 (by rw [H8.out]; omega)
 have c3 := HD.out.reg 3 (by rw [H8.out]; omega)
 rw [HZ.out.1] at c0
 rw [HZ.out.2.1] at c1
 rw [HZ.out.2.2.1] at c2
 rw [HZ.out.2.2.2.1] at c3
 go_quiet (fail)
 have HD2 := qH (HD.out.drewN nq)
 clear HD c0 c1 c2 c3
 generalize w1.drewN nq = w2 at *
 go_wp2
 have c4 := HD2.out.reg 4 (by rw [H8.out]; omega)
 have c5 := HD2.out.reg 5 (by rw [H8.out]; omega)
 have c6 := HD2.out.reg 6 (by rw [H8.out]; omega)
 have c7 := HD2.out.reg 7 (by rw [H8.out]; omega)
 rw [HZ.out.2.2.2.2.1] at c4
 rw [HZ.out.2.2.2.2.2.1] at c5
 rw [HZ.out.2.2.2.2.2.2.1] at c6
 rw [HZ.out.2.2.2.2.2.2.2] at c7
 go_quiet (fail)
 have HD3 := qH (HD2.out.drewN nq)
 clear HD2 c4 c5 c6 c7 HZ
 generalize w2.drewN _ = w3 at *
 go_wp2
 go_loopw [5, 6, 7, 8, 9, 10, 11, 12, 36] (fun s5 s6 s7 s8 s9 s10 s11 s12 i wr => ∃ t a b c d e f g z : Nat, t ≤ 64 ∧ i = .int .i64 t ∧ s5 = .int .u32 a ∧ s6 = .int .u32 b ∧ s7 = .int .u32 c ∧ s8 = .int .u32 d ∧ s9 = .int .u32 e ∧ s10 = .int .u32 f ∧ s11 = .int .u32 g ∧ s12 = .int .u32 z ∧ Hid (rds ws ⟨a0, a1, a2, a3, a4, a5, a6, a7⟩ t = ⟨a, b, c, d, e, f, g, z⟩) ∧ RoAt hs ws w wr) (fun _ _ _ _ _ _ _ _ i _ => 64 - (intOf i).toNat)
 case atStart => exact ⟨0, a0, a1, a2, a3, a4, a5, a6, a7, Nat.zero_le _, rfl, rfl, rfl, rfl, rfl, rfl, rfl, rfl, rfl, qH rfl, HD3.out⟩
 case round =>
  clear HD3
  obtain ⟨t, a, b, c, d, e, f, g, z, ht, rfl, rfl, rfl, rfl, rfl, rfl, rfl, rfl, rfl, hq, hD⟩ := hrel
  by_cases hlt : t < 64
  ·have HD := qH hD
   clear hD
   go_wp2_with fail
   refine (rot6 e wr).mono ?_
   rintro e0 w4 ⟨rfl, rfl⟩
   go_wp2_with fail
   refine (rot11 e wr).mono ?_
   rintro e0 w4 ⟨rfl, rfl⟩
   have hxor := r_xor
   have hand := r_and
   have hnot := r_not
   go_wp2_with fail
   refine (rot25 e wr).mono ?_
   rintro e0 w4 ⟨rfl, rfl⟩
   go_wp2
   clear hnot
   obtain ⟨kt, hkt⟩ : ∃ kt, nth kk t = kt := ⟨_, rfl⟩
   obtain ⟨wt, hwt⟩ : ∃ wt, nth ws t = wt := ⟨_, rfl⟩
   have ck := (HR.out.below HD.out.2.2.2 HR.out.pos) t hlt
   have cw := HD.out.word t (by rw [H64.out]; exact hlt)
   rw [hkt] at ck
   rw [hwt] at cw
   have HK := qH hkt
   have HW := qH hwt
   clear hkt hwt
   have tl : (t : Int) < 64 := by omega
   have hadd := r_add
   go_quiet (fail)
   have HD5 := qH (HD.out.drewN nq)
   clear HD ck cw hadd
   generalize wr.drewN nq = w5 at *
   obtain ⟨x, hx⟩ : ∃ x, wadd (wadd (wadd (wadd z (wxor (wxor (rotr e 6) (rotr e 11)) (rotr e 25))) (wxor (wand e f) (wand (wnot e) g))) kt) wt = x := ⟨_, rfl⟩
   simp only [r_add, hx]
   have HX := qH hx
   clear hx
   go_wp2_with fail
   refine (rot2 a w5).mono ?_
   rintro e0 w4 ⟨rfl, rfl⟩
   go_wp2_with fail
   refine (rot13 a w5).mono ?_
   rintro e0 w4 ⟨rfl, rfl⟩
   go_wp2_with fail
   refine (rot22 a w5).mono ?_
   rintro e0 w4 ⟨rfl, rfl⟩
   have hadd := r_add
   go_wp2
   go_roundw
   case rel => exact ⟨t + 1, _, a, b, c, _, e, f, g, by omega, by go_num, rfl, rfl, rfl, rfl, rfl, rfl, rfl, rfl, qH (rds_step _ _ _ _ _ _ _ _ _ _ _ _ _ hq.out (by rw [HK.out, HW.out]; exact HX.out.symm) rfl), HD5.out⟩
   case measure => simp [intOf]; omega
  ·obtain rfl : t = 64 := by omega
   have HD := qH hD
   clear hD
   go_wp2_with (refine wpList_store_row rfl 189 _ _ rfl (w.heap.size + 1 + 1) (wv [a, b, c, d, e, f, g, z]) rfl rfl 189 (wv (List.replicate 8 0)) HD.out.2.2.1 (by rw [wv_size]; exact info8) (by rw [wv_size, wv_size]; rfl) (wv_one _) ?_)
   have hb : Below w.heap.size w (wr.setRow (w.heap.size + 1 + 1) (wv [a, b, c, d, e, f, g, z])) := below_setRow HD.out.2.2.2 (by omega)
   exact bodyPost_ret (v := .agg (wv [a, b, c, d, e, f, g, z])) (results_cell_row Tryz.results207 _ _ (w.heap.size + 1 + 1) 189 _ (0, 0) _ rfl (setRow_heap _ _ _ _ _ _ HD.out.2.2.1) Tryz.underlying189 rfl (by rw [wv_size]; exact info8)) rfl ⟨by rw [hq.out]; rfl, hb⟩
theorem Roots.alloc {w : World} (h : Roots w) (o : Obj) : Roots (w.alloc o) := h.next ((Below.refl _ _).alloc (Nat.le_refl _) o)
theorem Roots.drew {w : World} (h : Roots w) : Roots w.drew := h
theorem Roots.drewN {w : World} (h : Roots w) (n : Nat) : Roots (w.drewN n) := h
def BlAt (hs : List Nat) (w wr : World) : Prop :=
 Blk wr w.heap.size 189 (wv hs) ∧ Blk wr (w.heap.size + 1) 189 (wv (List.replicate 8 0)) ∧ Below w.heap.size w wr ∧ w.heap.size + 2 ≤ wr.heap.size
theorem BlAt.start (hs : List Nat) (w : World) : BlAt hs w ((w.alloc (.cells (wv hs) 189)).alloc (.cells (wv (List.replicate 8 0)) 189)) := by
 have e1 : (w.alloc (.cells (wv hs) 189)).heap.size = w.heap.size + 1 := by simp
 refine ⟨?_, ?_, ?_, ?_⟩
 ·exact (Blk.new w 189 (wv hs)).alloc _
 ·have h := Blk.new (w.alloc (.cells (wv hs) 189)) 189 (wv (List.replicate 8 0))
  rw [e1] at h
  exact h
 ·exact ((Below.refl _ _).alloc (Nat.le_refl _) _).alloc (by simp) _
 ·simp
theorem BlAt.next {hs : List Nat} {w wr w' : World} (h : BlAt hs w wr) (hb : Below wr.heap.size wr w') : BlAt hs w w' :=
 ⟨h.1.below hb h.1.lt, h.2.1.below hb h.2.1.lt, h.2.2.1.trans (hb.mono (by have := h.2.2.2; omega)), Nat.le_trans h.2.2.2 hb.size⟩
theorem BlAt.alloc {hs : List Nat} {w wr : World} (h : BlAt hs w wr) (o : Obj) : BlAt hs w (wr.alloc o) := h.next ((Below.refl _ _).alloc (Nat.le_refl _) o)
theorem BlAt.reg {hs : List Nat} {w wr : World} (h : BlAt hs w wr) (i : Nat) (hi : i < hs.length) : wr.cell? ⟨w.heap.size, i, none⟩ = some (.int .u32 (nth hs i)) := by
 rw [h.1.cell i, wv_at _ _ hi]
theorem BlAt.cells {a0 a1 a2 a3 a4 a5 a6 a7 : Nat} {w w' : World} (h : BlAt [a0, a1, a2, a3, a4, a5, a6, a7] w w') :
  w'.cell? ⟨w.heap.size, 0, none⟩ = some (.int .u32 a0) ∧ w'.cell? ⟨w.heap.size, 1, none⟩ = some (.int .u32 a1) ∧ w'.cell? ⟨w.heap.size, 2, none⟩ = some (.int .u32 a2) ∧ w'.cell? ⟨w.heap.size, 3, none⟩ = some (.int .u32 a3) ∧ w'.cell? ⟨w.heap.size, 4, none⟩ = some (.int .u32 a4) ∧ w'.cell? ⟨w.heap.size, 5, none⟩ = some (.int .u32 a5) ∧ w'.cell? ⟨w.heap.size, 6, none⟩ = some (.int .u32 a6) ∧ w'.cell? ⟨w.heap.size, 7, none⟩ = some (.int .u32 a7) :=
 ⟨h.reg 0 (by simp), h.reg 1 (by simp), h.reg 2 (by simp), h.reg 3 (by simp), h.reg 4 (by simp), h.reg 5 (by simp), h.reg 6 (by simp), h.reg 7 (by simp)⟩
theorem BlAt.drew {hs : List Nat} {w wr : World} (h : BlAt hs w wr) : BlAt hs w wr.drew := ⟨h.1, h.2.1, Below.drewN h.2.2.1 1, h.2.2.2⟩
theorem Blk.next {w w' : World} {g : Nat} {t : TypeId} {cs : Array Value} (h : Blk w g t cs) (hb : Below w.heap.size w w') : Blk w' g t cs := h.below hb h.lt
theorem Blk.setRow_far {w : World} {g k : Nat} {t : TypeId} {cs ds : Array Value} (h : Blk w g t cs) (hk : g ≠ k) : Blk (w.setRow k ds) g t cs := (setRow_other w k g ds hk).trans h
def FinAt (hs work : List Nat) (w : World) (G : Nat) (wr : World) : Prop := BlAt hs w wr ∧ Blk wr G 189 (wv work) ∧ w.heap.size + 2 ≤ G
theorem FinAt.start {hs work : List Nat} {w wr : World} {G : Nat} (h : BlAt hs w wr) (hG : Blk wr G 189 (wv (List.replicate 8 0))) (hge : w.heap.size + 2 ≤ G) : FinAt hs work w G (wr.setRow G (wv work)) :=
 ⟨⟨h.1.setRow_far (by omega), h.2.1.setRow_far (by omega), below_setRow h.2.2.1 (by omega), by simpa using h.2.2.2⟩, setRow_heap _ _ _ _ _ _ hG, hge⟩
theorem FinAt.last {hs work : List Nat} {w wr : World} (h : BlAt hs w wr) : FinAt hs work w wr.heap.size (wr.alloc (.cells (wv work) 189)) := ⟨h.alloc _, Blk.new _ _ _, h.2.2.2⟩
def Zero8 (W : World) (G : Nat) : Prop := Blk W G 189 (wv (List.replicate 8 0))
theorem store_old (work : List Nat) (hl : work.length = 8) (W : World) (G : Nat) (hG : Zero8 W G) :
  (storeCells ⟨G, 0, none⟩ (wv work).toList).run qP W = .ok () (W.setRow G (wv work)) := by
 have h := run_storeCells_from (P := qP) G 189 (wv work).toList 0 (wv (List.replicate 8 0)) W hG (by simp [wv, hl]) (fun v hv => (Array.all_eq_true_iff_forall_mem.1 (wv_one work)) v (by simpa using hv))
 simpa using h
theorem store_new (work : List Nat) (hl : work.length = 8) (W : World) :
  (storeCells ⟨W.heap.size, 0, none⟩ (wv work).toList).run qP (W.alloc (.cells (wv (List.replicate 8 0)) 189)) = .ok () (W.alloc (.cells (wv work) 189)) := by
 rw [store_old work hl _ _ (Blk.new W 189 _), World.setRow_alloc_new]
theorem FinAt.put {hs work : List Nat} {w wr : World} {G i : Nat} (h : FinAt (addTo hs work i) work w G wr) : FinAt (addTo hs work (i + 1)) work w G (wr.setCell ⟨w.heap.size, i, none⟩ (.int .u32 (wadd (nth (addTo hs work i) i) (nth work i) : Nat))) := by
 obtain ⟨⟨h1, h2, h3, h4⟩, h5, h6⟩ := h
 refine ⟨⟨?_, h2.far (by simp) _, h3.setCell (by simp) _, by simpa [World.setCell] using h4⟩, h5.far (by simp; omega) _, h6⟩
 have := h1.set_ i (.int .u32 (wadd (nth (addTo hs work i) i) (nth work i) : Nat))
 rw [wv_set] at this
 exact this
theorem FinAt.drew {hs work : List Nat} {w wr : World} {G : Nat} (h : FinAt hs work w G wr) : FinAt hs work w G wr.drew := ⟨h.1.drew, h.2.1, h.2.2⟩
theorem block_this (a0 a1 a2 a3 a4 a5 a6 a7 : Nat) (s : ByteArray) (w : World) (hr : Roots w) (hs : s.size ≤ maxLen) (out : List Nat) (HO : Hid (blk [a0, a1, a2, a3, a4, a5, a6, a7] s.data.toList = out)) :
  Calls qP 187 #[.agg (wv [a0, a1, a2, a3, a4, a5, a6, a7]), .string s] w fun e w' => e = .returned (.agg (wv out)) ∧ Below w.heap.size w w' := by
 have HR := qH (hr.alloc (.cells (wv [a0, a1, a2, a3, a4, a5, a6, a7]) 189) |>.alloc (.cells (wv (List.replicate 8 0)) 189))
 have HB := qH (BlAt.start [a0, a1, a2, a3, a4, a5, a6, a7] w)
 clear hr
 go_enter Tryz.func187, Tryz.ntmps187
 go_wp2
 rw [zero8]
 generalize (w.alloc (Obj.cells (wv [a0, a1, a2, a3, a4, a5, a6, a7]) 189)).alloc (Obj.cells (wv (List.replicate 8 0)) 189) = w1 at *
 have X0 := qH HB.out.drew
 have s1 := store_old (rds (arr s.data.toList 64) (regOf [a0, a1, a2, a3, a4, a5, a6, a7]) 64).list rfl
 have s2 := store_new (rds (arr s.data.toList 64) (regOf [a0, a1, a2, a3, a4, a5, a6, a7]) 64).list rfl
 rw [← zero8] at s2
 have c0 : w1.cell? ⟨w.heap.size, 0, none⟩ = some (.int .u32 a0) := HB.out.reg 0 (by simp)
 have c1 : w1.cell? ⟨w.heap.size, 1, none⟩ = some (.int .u32 a1) := HB.out.reg 1 (by simp)
 have c2 : w1.cell? ⟨w.heap.size, 2, none⟩ = some (.int .u32 a2) := HB.out.reg 2 (by simp)
 have c3 : w1.cell? ⟨w.heap.size, 3, none⟩ = some (.int .u32 a3) := HB.out.reg 3 (by simp)
 have c4 : w1.cell? ⟨w.heap.size, 4, none⟩ = some (.int .u32 a4) := HB.out.reg 4 (by simp)
 have c5 : w1.cell? ⟨w.heap.size, 5, none⟩ = some (.int .u32 a5) := HB.out.reg 5 (by simp)
 have c6 : w1.cell? ⟨w.heap.size, 6, none⟩ = some (.int .u32 a6) := HB.out.reg 6 (by simp)
 have c7 : w1.cell? ⟨w.heap.size, 7, none⟩ = some (.int .u32 a7) := HB.out.reg 7 (by simp)
 go_region_held3 (fun w' => w'.cell? ⟨w.heap.size, 0, none⟩ = some (.int .u32 a0) ∧ w'.cell? ⟨w.heap.size, 1, none⟩ = some (.int .u32 a1) ∧ w'.cell? ⟨w.heap.size, 2, none⟩ = some (.int .u32 a2) ∧ w'.cell? ⟨w.heap.size, 3, none⟩ = some (.int .u32 a3) ∧ w'.cell? ⟨w.heap.size, 4, none⟩ = some (.int .u32 a4) ∧ w'.cell? ⟨w.heap.size, 5, none⟩ = some (.int .u32 a5) ∧ w'.cell? ⟨w.heap.size, 6, none⟩ = some (.int .u32 a6) ∧ w'.cell? ⟨w.heap.size, 7, none⟩ = some (.int .u32 a7))
  (first
    | exact BlAt.cells (X0.out.next b4)
    | exact BlAt.cells ((X0.out.alloc _).next b4)
    | exact BlAt.cells ((X0.out.next b4).alloc _)
    | exact BlAt.cells ((X0.out.next b4).next b5)
    | exact BlAt.cells (((X0.out.alloc _).next b4).next b5)
    | exact BlAt.cells (((X0.out.next b4).alloc _).next b5)
    | exact BlAt.cells (((X0.out.next b4).next b5).alloc _)
    | exact BlAt.cells (((X0.out.next b4).next b5).alloc _)
    | exact BlAt.cells (FinAt.start (work := (rds (arr s.data.toList 64) (regOf [a0, a1, a2, a3, a4, a5, a6, a7]) 64).list) (((X0.out.alloc _).next b4).next b5) hz X0.out.2.2.2).1
    | exact BlAt.cells (FinAt.start (work := (rds (arr s.data.toList 64) (regOf [a0, a1, a2, a3, a4, a5, a6, a7]) 64).list) (((X0.out.next b4).alloc _).next b5) hz (X0.out.next b4).2.2.2).1
    | go_keep)
  (first
    | (go_at_call 208; refine (schedule s _ hs).mono ?_; rintro en w4 ⟨rfl, b4⟩)
    | (go_at_call 207; refine (rounds [a0, a1, a2, a3, a4, a5, a6, a7] (arr s.data.toList 64) _ (HR.out.drew.next b4) rfl (arr_len _ _)).mono ?_; rintro en w5 ⟨rfl, b5⟩)
    | (go_at_call 207; refine (rounds [a0, a1, a2, a3, a4, a5, a6, a7] (arr s.data.toList 64) _ ((HR.out.drew.alloc _).next b4) rfl (arr_len _ _)).mono ?_; rintro en w5 ⟨rfl, b5⟩; have hz : Zero8 w5 w1.heap.size := ((Blk.new w1.drew _ _).next b4).next b5)
    | (go_at_call 207; refine (rounds [a0, a1, a2, a3, a4, a5, a6, a7] (arr s.data.toList 64) _ ((HR.out.drew.next b4).alloc _) rfl (arr_len _ _)).mono ?_; rintro en w5 ⟨rfl, b5⟩; have hz : Zero8 w5 w4.heap.size := (Blk.new w4 _ _).next b5))
 have hF := qH (FinAt.last (work := (rds (arr s.data.toList 64) (regOf [a0, a1, a2, a3, a4, a5, a6, a7]) 64).list) ((X0.out.next b4).next b5))
 clear b4 b5 s1 s2 X0 HR HB c0 c1 c2 c3 c4 c5 c6 c7
 generalize w5.alloc (Obj.cells (wv (rds (arr s.data.toList 64) (regOf [a0, a1, a2, a3, a4, a5, a6, a7]) 64).list) 189) = w6 at *
 generalize w5.heap.size = G at *
 clear w5 w4 w1
 rotate_left
 have hF := qH (FinAt.start (work := (rds (arr s.data.toList 64) (regOf [a0, a1, a2, a3, a4, a5, a6, a7]) 64).list) (((X0.out.next b4).alloc _).next b5) hz (X0.out.next b4).2.2.2)
 clear hz b4 b5 s1 s2 X0 HR HB c0 c1 c2 c3 c4 c5 c6 c7
 generalize w5.setRow w4.heap.size (wv (rds (arr s.data.toList 64) (regOf [a0, a1, a2, a3, a4, a5, a6, a7]) 64).list) = w6 at *
 generalize w4.heap.size = G at *
 clear w5 w4 w1
 rotate_left
 have hF := qH (show FinAt [a0, a1, a2, a3, a4, a5, a6, a7] _ w w1.heap.size _ from FinAt.start (work := (rds (arr s.data.toList 64) (regOf [a0, a1, a2, a3, a4, a5, a6, a7]) 64).list) (((X0.out.alloc _).next b4).next b5) hz X0.out.2.2.2)
 clear hz b4 b5 s1 s2 X0 HR HB c0 c1 c2 c3 c4 c5 c6 c7
 generalize w5.setRow w1.heap.size (wv (rds (arr s.data.toList 64) (regOf [a0, a1, a2, a3, a4, a5, a6, a7]) 64).list) = w6 at *
 generalize w1.heap.size = G at *
 clear w5 w4 w1
 rotate_left
 all_goals
  obtain ⟨work, hwork⟩ : ∃ work, (rds (arr s.data.toList 64) (regOf [a0, a1, a2, a3, a4, a5, a6, a7]) 64).list = work := ⟨_, rfl⟩
  have HL := qH (show work.length = 8 by rw [← hwork]; rfl)
  have HO2 := qH (show addTo [a0, a1, a2, a3, a4, a5, a6, a7] work 8 = out by rw [← hwork]; exact HO.out)
  rw [hwork] at hF
  simp only [hwork]
  clear hwork HO
  go_wp2
  go_loopw [11] (fun i wr => ∃ k : Nat, k ≤ 8 ∧ i = .int .i64 k ∧ FinAt (addTo [a0, a1, a2, a3, a4, a5, a6, a7] work k) work w G wr) (fun i _ => 8 - (intOf i).toNat)
  case atStart => exact ⟨0, Nat.zero_le _, rfl, hF.out⟩
  case round =>
   clear hF
   obtain ⟨k, hk, rfl, hF⟩ := hrel
   by_cases hlt : k < 8
   ·have c1 := hF.1.reg k (by rw [addTo_len]; exact hlt)
    have c2 : wr.cell? ⟨G, k, none⟩ = some (.int .u32 (nth work k)) := by rw [hF.2.1.cell k, wv_at _ _ (by rw [HL.out]; exact hlt)]
    have f1 : wr.frozen? ⟨w.heap.size, k, none⟩ = false := hF.1.1.frozen k
    have HF2 := qH hF.put.drew
    obtain ⟨x, hx⟩ : ∃ x, nth (addTo [a0, a1, a2, a3, a4, a5, a6, a7] work k) k = x := ⟨_, rfl⟩
    obtain ⟨y, hy⟩ : ∃ y, nth work k = y := ⟨_, rfl⟩
    rw [hx] at c1
    rw [hy] at c2
    rw [hx, hy] at HF2
    have hl8 : (k : Int) < 8 := by omega
    have hadd := r_add
    clear hF hx hy
    go_wp2
    go_region
    clear c1 c2 f1 hadd
    generalize World.drew _ = w7 at *
    go_wp2
    go_roundw
    case rel => exact ⟨k + 1, by omega, by go_num, HF2.out⟩
    case measure => simp [intOf]; omega
   ·obtain rfl : k = 8 := by omega
    rw [HO2.out] at hF
    have HQ := qH (show out.length = 8 by rw [← HO2.out, addTo_len]; rfl)
    have HF := qH hF
    clear hF
    go_wp2_with (first
     | (refine wpList_load_row rfl 189 _ rfl w.heap.size rfl 189 _ (0, 0) _ HF.out.1.1 Tryz.underlying189 rfl (by rw [wv_size, HQ.out]; exact info8) ?_)
     | (refine wpList_store_row rfl 189 _ _ rfl (w.heap.size + 1) (wv out) rfl rfl 189 (wv (List.replicate 8 0)) HF.out.1.2.1 (by rw [wv_size, HQ.out]; exact info8) (by rw [wv_size, wv_size, HQ.out]; rfl) (wv_one _) ?_))
    have hb : Below w.heap.size w (wr.setRow (w.heap.size + 1) (wv out)) := below_setRow HF.out.1.2.2.1 (by omega)
    exact bodyPost_ret (v := .agg (wv out)) (results_cell_row Tryz.results187 _ _ (w.heap.size + 1) 189 _ (0, 0) _ rfl (setRow_heap _ _ _ _ _ _ HF.out.1.2.1) Tryz.underlying189 rfl (by rw [wv_size, HQ.out]; exact info8)) rfl ⟨rfl, hb⟩
theorem block (hs : List Nat) (s : ByteArray) (w : World) (hr : Roots w) (hz : s.size ≤ maxLen) (h8 : hs.length = 8) :
  Calls qP 187 #[.agg (wv hs), .string s] w fun e w' => e = .returned (.agg (wv (blk hs s.data.toList))) ∧ Below w.heap.size w w' := by
 match hs, h8 with
 | [a0, a1, a2, a3, a4, a5, a6, a7], _ => exact block_this a0 a1 a2 a3 a4 a5 a6 a7 s w hr hz _ (qH rfl)
theorem rKey_this2 (b : Nat) (p : ByteArray) (k : List UInt8) (w : World) (c0 : w.cell? ⟨b, 0, none⟩ = some (.string p))
  (H : Hid (∀ W, Since w W → Calls qP 89 #[.string p, .slice (some ⟨b, 1, none⟩) 1 1] W fun e w' => e = .returned (.string (bs k)) ∧ Since w w'))
  (hs : ∀ W, (Instr.slice 74 (.slice (some ⟨b, 0, none⟩) 2 2) (some (.int .i64 1)) none none).run qP W = .ok (.slice (some ⟨b, 1, none⟩) 1 1) W) :
  Calls qP 39 #[.slice (some ⟨b, 0, none⟩) 2 2] w fun e w' => e = .returned (.string (bs k)) ∧ Since w w' := by
 have r0 := Since.refl w
 go_enter Tryz.func39, Tryz.ntmps39
 go_wp2
 go_region_held3 (fun W => W.cell? ⟨b, 0, none⟩ = some (.string p))
  (first | exact s3.cell c0 | go_keep)
  (first
    | (go_at_call 89; refine (H.out _ (by exact r0)).mono ?_; clear H; rintro en w3 ⟨rfl, s3⟩))
 all_goals go_wp2
 all_goals go_ret
 all_goals exact ⟨rfl, s3⟩
theorem rKey_this3 (b : Nat) (p : ByteArray) (k : List UInt8) (w : World) (c0 : w.cell? ⟨b, 0, none⟩ = some (.string p))
  (H : Hid (∀ W, Since w W → Calls qP 89 #[.string p, .slice (some ⟨b, 1, none⟩) 2 2] W fun e w' => e = .returned (.string (bs k)) ∧ Since w w'))
  (hs : ∀ W, (Instr.slice 74 (.slice (some ⟨b, 0, none⟩) 3 3) (some (.int .i64 1)) none none).run qP W = .ok (.slice (some ⟨b, 1, none⟩) 2 2) W) :
  Calls qP 39 #[.slice (some ⟨b, 0, none⟩) 3 3] w fun e w' => e = .returned (.string (bs k)) ∧ Since w w' := by
 have r0 := Since.refl w
 go_enter Tryz.func39, Tryz.ntmps39
 go_wp2
 go_region_held3 (fun W => W.cell? ⟨b, 0, none⟩ = some (.string p))
  (first | exact s3.cell c0 | go_keep)
  (first
    | (go_at_call 89; refine (H.out _ (by exact r0)).mono ?_; clear H; rintro en w3 ⟨rfl, s3⟩))
 all_goals go_wp2
 all_goals go_ret
 all_goals exact ⟨rfl, s3⟩
theorem txs1 {w : World} {b : Nat} {p x : ByteArray} (h : Blk w b 9 #[.string p, .string x]) : Txs w w.heap.size (.slice (some ⟨b, 1, none⟩) 1 1) [x] :=
 ⟨_, 1, rfl, fun i hi => by
  have : i = 0 := by simpa using hi
  subst this
  exact ⟨b, 1, rfl, h.lt, (h.cell 1).trans rfl⟩⟩
theorem txs2 {w : World} {b : Nat} {p x y : ByteArray} (h : Blk w b 9 #[.string p, .string x, .string y]) : Txs w w.heap.size (.slice (some ⟨b, 1, none⟩) 2 2) [x, y] :=
 ⟨_, 2, rfl, fun i hi => by
  match i, hi with
  | 0, _ => exact ⟨b, 1, rfl, h.lt, (h.cell 1).trans rfl⟩
  | 1, _ => exact ⟨b, 1, rfl, h.lt, (h.cell 2).trans rfl⟩⟩
theorem tail_cut (b k1 : Nat) (hk : 1 ≤ k1) (W : World) : (Instr.slice 74 (.slice (some ⟨b, 0, none⟩) (k1 + 1) (k1 + 1)) (some (.int .i64 1)) none none).run qP W = .ok (.slice (some ⟨b, 1, none⟩) k1 k1) W := by
 obtain ⟨i0, hi0, hz0, hz1, hz2⟩ := info_parts infoStr
 have hE : qP.elem 74 = 9 := by kernel_rfl
 have hr := run_slice_l (P := qP) (w := W) 74 (some ⟨b, 0, none⟩) (k1 + 1) (k1 + 1) (by kernel_rfl) .i64 1 (by omega) (by omega)
 rw [hE, run_sizeOf W hi0, show qP.cellsOf 9 = 1 by kernel_rfl] at hr
 rw [hr]
 simp only [Result.andThen, sliced]
 rw [if_neg (by omega)]
 simp [Addr.add]
theorem rKey2 (p x : ByteArray) (b : Nat) (w : World) (h : Blk w b 9 #[.string p, .string x]) (hp : p.size ≤ 1000000) (hx : x.size ≤ 1000000) :
  Calls qP 39 #[.slice (some ⟨b, 0, none⟩) 2 2] w fun e w' => e = .returned (.string (bs (pkOf p [x]))) ∧ Since w w' :=
 rKey_this2 b p _ w ((h.cell 0).trans rfl) (qH fun W hW => (rPJoin p _ [x] W (txs1 (h.next hW.below)) (by simp [tot]; omega)).mono fun _ _ ⟨he, hb⟩ => ⟨he, since_two hW (since_of hb)⟩) (tail_cut b 1 (by omega))
theorem rKey3 (p x y : ByteArray) (b : Nat) (w : World) (h : Blk w b 9 #[.string p, .string x, .string y]) (hp : p.size ≤ 1000000) (hx : x.size ≤ 1000000) (hy : y.size ≤ 1000000) :
  Calls qP 39 #[.slice (some ⟨b, 0, none⟩) 3 3] w fun e w' => e = .returned (.string (bs (pkOf p [x, y]))) ∧ Since w w' :=
 rKey_this3 b p _ w ((h.cell 0).trans rfl) (qH fun W hW => (rPJoin p _ [x, y] W (txs2 (h.next hW.below)) (by simp [tot]; omega)).mono fun _ _ ⟨he, hb⟩ => ⟨he, since_two hW (since_of hb)⟩) (tail_cut b 2 (by omega))
theorem rPutF14 (s : Value) (l : List KV) (k v : ByteArray) (w : World) (hP : Prs w s l) (hu : Up l) (hz : l.length + 1 ≤ 1000000000) :
  Calls qP 26 #[s, .string k, .string v] w fun e w' => ∃ v', e = .returned v' ∧ Prs w' v' (lset l k v) ∧ Since w w' ∧ ∀ g, v'.ownBlock = some g → w.heap.size ≤ g := by
 have H := qH (rSet s l k v w hP hu hz)
 obtain ⟨A, cap, rfl, _, _⟩ := hP
 go_enter Tryz.func26, Tryz.ntmps26
 go_wp2_with fail
 refine H.out.mono ?_
 rintro e w1 ⟨v', rfl, h⟩
 go_wp2
 go_ret
 exact ⟨_, rfl, h.prs, since_of h.below, fun g hg => (h.1.lt g hg).1⟩
theorem rPut14 (s : Value) (l : List KV) (k v : ByteArray) (w : World) (hP : Prs w s l) (hu : Up l) (hz : l.length + 1 ≤ 1000000000) :
  Calls qP 26 #[s, .string k, .string v] w fun e w' => ∃ v', e = .returned v' ∧ Prs w' v' (lset l k v) ∧ Since w w' :=
 (rPutF14 s l k v w hP hu hz).mono fun _ _ ⟨v', h1, h2, h3, _⟩ => ⟨v', h1, h2, h3⟩
theorem rNum_of (n : Int) (x : List UInt8) (f : Int) (w : World)
  (H : Hid (Calls qP 123 #[.int .i64 n] w fun e w' => e = .returned (.tuple #[.string (bs x), .int .i64 f]) ∧ Below w.heap.size w w')) :
  Calls qP 78 #[.int .i64 n] w fun e w' => e = .returned (.string (bs x)) ∧ Since w w' := by
 go_enter Tryz.func78, Tryz.ntmps78
 go_wp2_with fail
 refine H.out.mono ?_
 rintro e w1 ⟨rfl, b1⟩
 go_wp2
 go_ret
 exact ⟨rfl, since_of b1⟩
theorem rNum14 (n : Int) (w : World) : Calls qP 78 #[.int .i64 n] w fun e w' => e = .returned (.string (bs (encNum n).1)) ∧ Since w w' := rNum_of n _ _ w (qH (rNum n w))
theorem rText_of (n : ByteArray) (x : List UInt8) (f : Int) (w : World)
  (H : Hid (Calls qP 93 #[.string n] w fun e w' => e = .returned (.tuple #[.string (bs x), .int .i64 f]) ∧ Below w.heap.size w w')) :
  Calls qP 79 #[.string n] w fun e w' => e = .returned (.string (bs x)) ∧ Since w w' := by
 go_enter Tryz.func79, Tryz.ntmps79
 go_wp2_with fail
 refine H.out.mono ?_
 rintro e w1 ⟨rfl, b1⟩
 go_wp2
 go_ret
 exact ⟨rfl, since_of b1⟩
theorem rText14 (n : ByteArray) (w : World) : Calls qP 79 #[.string n] w fun e w' => e = .returned (.string (bs (encText n).1)) ∧ Since w w' := rText_of n _ _ w (qH (rText n w))
theorem enc_cases (x : ByteArray) : (encText x).2 = 0 ∨ (encText x).2 = 4 := by
 unfold encText
 split
 ·exact .inl rfl
 ·exact .inr rfl
theorem rhText_this (s t : List UInt8) (f : Int) (x : ByteArray) (w : World) (hf : f = 0 ∨ f = 4) (hs : s.length ≤ 1000000000) (ht : t.length ≤ 100000)
  (K : Hid (∀ W, Calls qP 93 #[.string x] W fun e w' => e = .returned (.tuple #[.string (bs t), .int .i64 f]) ∧ Below W.heap.size W w')) :
  Calls qP 47 #[.string (bs s), .int .i64 0, .string x] w fun en w' => en = .returned (retSE (radd (s, 0) (t, f))) ∧ Below w.heap.size w w' := by
 rcases hf with rfl | rfl
 ·have hr : radd (s, 0) (t, 0) = (s ++ t, 0) := by simp [radd]
  have a1 : ∀ W, (Op.stringOp .add (bs s) (bs t)).run qP W = .ok (.string (bs (s ++ t))) W := fun W => run_add W s t (by omega)
  rw [hr]
  unfold retSE
  clear hr hs ht
  go_enter Tryz.func47, Tryz.ntmps47
  go_wp2_with fail
  refine (K.out _).mono ?_
  rintro en w1 ⟨rfl, b1⟩
  go_wp2
  go_ret2
  exact ⟨rfl, b1⟩
 ·have hr : radd (s, 0) (t, 4) = ([], 4) := by simp [radd]
  rw [hr]
  unfold retSE
  clear hr hs ht
  go_enter Tryz.func47, Tryz.ntmps47
  go_wp2_with fail
  refine (K.out _).mono ?_
  rintro en w1 ⟨rfl, b1⟩
  go_wp2
  go_ret2
  exact ⟨rfl, b1⟩
theorem rhText (s : List UInt8) (x : ByteArray) (w : World) (hs : s.length ≤ 1000000000) :
  Calls qP 47 #[.string (bs s), .int .i64 0, .string x] w fun en w' => en = .returned (retSE (radd (s, 0) (encText x))) ∧ Since w w' :=
 (rhText_this s (encText x).1 (encText x).2 x w (enc_cases x) hs (by have := encText_len x; omega) (qH fun W => rText x W)).mono fun e w' ⟨he, hb⟩ => ⟨he, since_of hb⟩
theorem rhNum_this (s t : List UInt8) (e f : Int) (x : Int) (w : World) (hs : s.length ≤ 1000000000) (ht : t.length ≤ 100000)
  (K : Hid (∀ W, Calls qP 123 #[.int .i64 x] W fun e w' => e = .returned (.tuple #[.string (bs t), .int .i64 f]) ∧ Below W.heap.size W w')) :
  Calls qP 91 #[.string (bs s), .int .i64 e, .int .i64 x] w fun en w' => en = .returned (retSE (radd (s, e) (t, f))) ∧ Below w.heap.size w w' := by
 by_cases he : e = 0
 ·subst he
  by_cases hf : f = 0
  ·subst hf
   have hr : radd (s, 0) (t, 0) = (s ++ t, 0) := by simp [radd]
   have a1 : ∀ W, (Op.stringOp .add (bs s) (bs t)).run qP W = .ok (.string (bs (s ++ t))) W := fun W => run_add W s t (by omega)
   rw [hr]
   unfold retSE
   clear hr hs ht
   go_enter Tryz.func91, Tryz.ntmps91
   go_wp2_with fail
   refine (K.out _).mono ?_
   rintro en w1 ⟨rfl, b1⟩
   go_wp2
   go_ret2
   exact ⟨rfl, b1⟩
  ·have hr : radd (s, 0) (t, f) = ([], f) := by simp [radd, hf]
   have hfn : (f != 0) = true := by rw [bne_iff_ne]; exact hf
   rw [hr]
   unfold retSE
   clear hr hs ht hf
   go_enter Tryz.func91, Tryz.ntmps91
   go_wp2_with fail
   refine (K.out _).mono ?_
   rintro en w1 ⟨rfl, b1⟩
   go_wp2
   go_ret2
   exact ⟨rfl, b1⟩
 ·have hr : radd (s, e) (t, f) = ([], e) := by simp [radd, he]
  have hen : (e != 0) = true := by rw [bne_iff_ne]; exact he
  rw [hr]
  unfold retSE
  clear hr hs ht he
  go_enter Tryz.func91, Tryz.ntmps91
  go_wp2_with fail
  refine (K.out _).mono ?_
  rintro en w1 ⟨rfl, b1⟩
  go_wp2
  go_ret2
  exact ⟨rfl, b1⟩
theorem rhNum (st : List UInt8 × Int) (x : Int) (w : World) (hs : st.1.length ≤ 1000000000) :
  Calls qP 91 #[.string (bs st.1), .int .i64 st.2, .int .i64 x] w fun en w' => en = .returned (retSE (radd st (encNum x))) ∧ Since w w' :=
 (rhNum_this st.1 (encNum x).1 st.2 (encNum x).2 x w hs (by have := encNum_len x; omega) (qH fun W => rNum x W)).mono fun e w' ⟨he, hb⟩ => ⟨he, since_of hb⟩
theorem rBody (h : Hdr) (w : World) : Calls qP 45 #[hdV h] w fun e w' => e = .returned (retSE (bodyOf h)) ∧ Since w w' := by
 obtain ⟨chain, height, time, root, mac⟩ := h
 have HB := qH (Blk.new w 34 #[.string chain, .int .i64 height, .int .i64 time, .string root, .string mac])
 have HS := qH (show Since w (w.alloc (.cells #[.string chain, .int .i64 height, .int .i64 time, .string root, .string mac] 34)) from since_of ((Below.refl _ w).alloc (Nat.le_refl _) _))
 have K1 := qH (fun W => rhText [] chain W (by simp))
 have l1 := radd_len ([], 0) (encText chain)
 have t1 := encText_len chain
 unfold bodyOf
 simp only [List.length_nil] at l1 ⊢
 obtain ⟨s1, e1⟩ : ∃ s, s = radd ([], 0) (encText chain) := ⟨_, rfl⟩
 rw [← e1] at K1 l1 ⊢
 have K2 := qH (fun W => rhNum s1 height W (by omega))
 have l2 := radd_len s1 (encNum height)
 have t2 := encNum_len height
 obtain ⟨s2, e2⟩ : ∃ s, s = radd s1 (encNum height) := ⟨_, rfl⟩
 rw [← e2] at K2 l2 ⊢
 have K3 := qH (fun W => rhNum s2 time W (by omega))
 have l3 := radd_len s2 (encNum time)
 have t3 := encNum_len time
 obtain ⟨⟨a3, f3⟩, e3⟩ : ∃ s, s = radd s2 (encNum time) := ⟨_, rfl⟩
 rw [← e3] at K3 l3 ⊢
 have HL := qH (show a3.length ≤ 1000000 by simp only at l3; omega)
 have K4 := qH (fun W => rhText a3 root W (by have := HL.out; omega))
 obtain ⟨z, ez⟩ : ∃ s, s = radd (a3, f3) (encText root) := ⟨_, rfl⟩
 rw [← ez]
 unfold retSE at K1 K2 K3 K4 ⊢
 unfold hdV
 clear l1 l2 l3 t1 t2 t3 e1 e2 e3 HL
 go_enter Tryz.func45, Tryz.ntmps45
 go_wp2_with fail
 refine (K1.out _).mono ?_
 rintro e w1 ⟨rfl, q1⟩
 have S1 := qH (show Since w w1 from since_of (step_below HS.out.below q1.below))
 have X1 := HB.out.next q1.below
 have y1 : w1.cell? ⟨w.heap.size, 1, none⟩ = some (.int .i64 height) := X1.cell 1
 clear HB HS q1 K1
 go_wp2_with fail
 refine (K2.out _).mono ?_
 rintro e w2 ⟨rfl, q2⟩
 have S2 := qH (show Since w w2 from since_of (step_below S1.out.below q2.below))
 have X2 := X1.next q2.below
 have y2 : w2.cell? ⟨w.heap.size, 2, none⟩ = some (.int .i64 time) := X2.cell 2
 clear q2 K2 S1 X1 y1
 go_wp2_with fail
 refine (K3.out _).mono ?_
 rintro e w3 ⟨rfl, q3⟩
 have S3 := qH (show Since w w3 from since_of (step_below S2.out.below q3.below))
 have X3 := X2.next q3.below
 have y3 : w3.cell? ⟨w.heap.size, 3, none⟩ = some (.string root) := X3.cell 3
 clear q3 K3 S2 X2 y2 X3
 by_cases he : f3 = 0
 ·subst he
  go_wp2_with fail
  refine (K4.out _).mono ?_
  rintro e w4 ⟨rfl, q4⟩
  have R := qH (show Since w w4 from since_of (step_below S3.out.below q4.below))
  rw [← ez]
  clear q4 K4 S3 y3 ez
  go_wp2
  go_ret2
  exact ⟨rfl, R.out⟩
 ·have hen : (f3 != 0) = true := by rw [bne_iff_ne]; exact he
  rw [radd_bad (s := (a3, f3)) (p := encText root) he] at ez
  subst ez
  clear he K4
  go_wp2
  go_ret2
  exact ⟨rfl, S3.out⟩
theorem rHPut (h : Hdr) (w : World) : Calls qP 15 #[hdV h] w fun e w' => e = .returned (retSE (encHd h)) ∧ Since w w' := by
 have K1 := qH (fun W => rBody h W)
 have hl := body_len h
 unfold encHd
 obtain ⟨⟨a3, f3⟩, e3⟩ : ∃ s, s = bodyOf h := ⟨_, rfl⟩
 rw [← e3] at K1 hl ⊢
 obtain ⟨chain, height, time, root, mac⟩ := h
 have HB := qH (Blk.new w 34 #[.string chain, .int .i64 height, .int .i64 time, .string root, .string mac])
 have HS := qH (show Since w (w.alloc (.cells #[.string chain, .int .i64 height, .int .i64 time, .string root, .string mac] 34)) from since_of ((Below.refl _ w).alloc (Nat.le_refl _) _))
 have K4 := qH (fun W => rhText a3 mac W (by simp only at hl; omega))
 obtain ⟨z, ez⟩ : ∃ s, s = radd (a3, f3) (encText mac) := ⟨_, rfl⟩
 rw [← ez]
 have y0 := HB.out.cell 0
 have y1 := HB.out.cell 1
 have y2 := HB.out.cell 2
 have y3 := HB.out.cell 3
 have y4 := HB.out.cell 4
 simp only [List.getElem?_toArray, List.getElem?_cons_zero, List.getElem?_cons_succ] at y0 y1 y2 y3 y4
 unfold retSE hdV at *
 clear hl e3
 go_enter Tryz.func15, Tryz.ntmps15
 go_wp2_with fail
 refine (K1.out _).mono ?_
 rintro e w1 ⟨rfl, q1⟩
 have S1 := qH (show Since w w1 from since_of (step_below HS.out.below q1.below))
 have X1 := HB.out.next q1.below
 clear y0 y1 y2 y3 y4 HB HS q1 K1
 have y4 : w1.cell? ⟨w.heap.size, 4, none⟩ = some (.string mac) := X1.cell 4
 by_cases he : f3 = 0
 ·subst he
  go_wp2_with fail
  refine (K4.out _).mono ?_
  rintro e w4 ⟨rfl, q4⟩
  have R := qH (show Since w w4 from since_of (step_below S1.out.below q4.below))
  rw [← ez]
  clear q4 K4 S1 y4 X1 ez
  go_wp2
  go_ret2
  exact ⟨rfl, R.out⟩
 ·have hen : (f3 != 0) = true := by rw [bne_iff_ne]; exact he
  rw [radd_bad (s := (a3, f3)) (p := encText mac) he] at ez
  subst ez
  clear he K4
  go_wp2
  go_ret2
  exact ⟨rfl, S1.out⟩
theorem made_eq (n : Nat) : (madeCells (Value.int .u8 0).cells n).toList = cells (List.replicate n 0) := by
 apply List.ext_getElem?
 intro i
 simp only [madeCells, cells, Array.getElem?_toList, Array.getElem?_map, List.getElem?_map, List.getElem?_replicate, Array.getElem?_range]
 split
 ·simp [Value.cells, Nat.mod_one]
 ·rfl
theorem OwnBuf_pad (z : Nat) (hz : z < 64) (w : World) :
  Lib.OwnBuf w.heap.size 5 (.slice (some ⟨w.heap.size, 0, none⟩) (z + 1) (z + 9)) (z + 1) (cells (128 :: List.replicate z 0)) w (w.alloc (.cells ((madeCells (Value.int .u8 0).cells (z + 9)).setIfInBounds 0 (.int .u8 128)) 5)) := by
 have hB : Blk (w.alloc (.cells ((madeCells (Value.int .u8 0).cells (z + 9)).setIfInBounds 0 (.int .u8 128)) 5)) w.heap.size 5 ((madeCells (Value.int .u8 0).cells (z + 9)).setIfInBounds 0 (.int .u8 128)) := Blk.new _ _ _
 refine ⟨⟨by simp [cells], .inr ⟨w.heap.size, z + 9, _, (0, 0), rfl, Nat.le_refl _, hB, Nat.zero_le _, by omega, by unfold maxLen; omega, by simp [size_madeCells], ?_⟩⟩, (Below.refl _ _).alloc (Nat.le_refl _) _, by simp⟩
 rw [Array.toList_setIfInBounds, made_eq, Nat.mul_one]
 show Value.int .u8 128 :: (cells (List.replicate (z + 8) 0)).take z = Value.int .u8 128 :: cells (List.replicate z 0)
 unfold cells
 rw [← List.map_take, List.take_replicate, Nat.min_eq_left (by omega)]
theorem made_cell (n : Nat) (hn : 0 < n) : (madeCells (Value.int .u8 0).cells n)[0]? = some (.int .u8 0) := by
 rw [← Array.getElem?_toList, made_eq]
 obtain ⟨m, rfl⟩ : ∃ m, n = m + 1 := ⟨n - 1, by omega⟩
 rfl
theorem pad_len (z m k : Nat) : ((128 : UInt8) :: (List.replicate z 0 ++ by8 m k)).length = z + 1 + k := by
 simp [by8_len]
 omega
theorem pad_more (z m k c : Nat) (hc : m / 2 ^ (56 - 8 * k) % 256 = c) : cells (128 :: (List.replicate z 0 ++ by8 m (k + 1))) = cells (128 :: (List.replicate z 0 ++ by8 m k)) ++ [.int .u8 c] := by
 have e : (UInt8.ofNat (m / 2 ^ (56 - 8 * k) % 256)).toNat = c := by rw [W.toNat_ofNat (Nat.mod_lt _ (by decide)), hc]
 show cells (128 :: (List.replicate z 0 ++ (by8 m k ++ [UInt8.ofNat (m / 2 ^ (56 - 8 * k) % 256)]))) = _
 generalize UInt8.ofNat (m / 2 ^ (56 - 8 * k) % 256) = b at *
 simp [cells, e]
theorem pad_step {B z m k c : Nat} {v : Value} {W0 w : World} (hc : m / 2 ^ (56 - 8 * k) % 256 = c) (h : Lib.OwnBuf B 5 v (z + 1 + k + 1) (cells (128 :: (List.replicate z 0 ++ by8 m k)) ++ [.int .u8 c]) W0 w) :
  Lib.OwnBuf B 5 v (z + 1 + (k + 1)) (cells (128 :: (List.replicate z 0 ++ by8 m (k + 1)))) W0 w := by
 rw [pad_more z m k c hc]
 exact h
theorem pad_this (n m z : Nat) (hn : n ≤ 9223372036854775807) (HZ : Hid (zs n = z)) (HM : Hid (n * 8 % 18446744073709551616 = m)) (w : World) :
  Calls qP 186 #[.int .i64 n] w fun e w' => e = .returned (.string (bs (128 :: List.replicate z 0 ++ by8 m 8))) ∧ Below w.heap.size w w' := by
 have hz : z < 64 := by rw [← HZ.out]; exact zs_lt n
 have ez : ((119 : Int) - (n : Int) % 64) % 64 = (z : Int) := by rw [← HZ.out]; unfold zs; omega
 obtain ⟨i0, hi, hz0, hz1, hz2⟩ := info_parts infoU8
 have hmk : ∀ W : World, (Instr.makeSlice 121 (.int .i64 (1 + (z : Int))) (.int .i64 (1 + (z : Int) + 8))).run qP W = .ok (.slice (some ⟨W.heap.size, 0, none⟩) (z + 1) (z + 9)) (W.alloc (.cells (madeCells (Value.int .u8 0).cells (z + 9)) 5)) := fun W => by
  have hr := run_make (P := qP) W 121 5 i0 _ Tryz.underlying121 hi hz0 .i64 .i64 (1 + (z : Int)) (1 + (z : Int) + 8) (by omega) (by omega) (by rw [hz2]; omega) (by omega)
  rw [hz1, show (1 + (z : Int)).toNat = z + 1 by omega, show (1 + (z : Int) + 8).toNat = z + 9 by omega, Nat.mul_one] at hr
  exact hr
 have hc := made_cell (z + 9) (by omega)
 have hO := OwnBuf_pad z hz w
 generalize madeCells (Value.int .u8 0).cells (z + 9) = M at *
 have HO := qH hO
 clear hO
 have eM : IntKind.u64.wrap ((n : Int) * 8) = (m : Int) := by rw [IntKind.wrap_u64, ← HM.out]; omega
 go_enter Tryz.func186, Tryz.ntmps186
 go_wp2
 simp only [ez]
 clear ez eM hmk hc
 go_loopw [4, 24] (fun v i wr => ∃ k : Nat, k ≤ 8 ∧ i = .int .i64 k ∧ Lib.OwnBuf w.heap.size 5 v (z + 1 + k) (cells (128 :: List.replicate z 0 ++ by8 m k)) w wr) (fun _ i _ => 8 - (intOf i).toNat)
 case atStart => exact ⟨0, Nat.zero_le _, rfl, by simpa [by8] using HO.out⟩
 case round =>
  clear HO
  obtain ⟨k, hk, rfl, hown⟩ := hrel
  by_cases hlt : k < 8
  ·have n1 : ((56 : Int) - 8 * (k : Int)).toNat = 56 - 8 * k := by omega
   have p1 : 0 ≤ (56 : Int) - 8 * (k : Int) := by omega
   have q1 : (56 : Int) - 8 * (k : Int) ≤ 64 := by omega
   obtain ⟨c, hc⟩ : ∃ c, m / 2 ^ (56 - 8 * k) % 256 = c := ⟨_, rfl⟩
   have ec : (m : Int) / 2 ^ (56 - 8 * k) % 256 = (c : Int) := by
    rw [← hc, Int.natCast_emod, Int.natCast_ediv, Int.natCast_pow]
    rfl
   have HC := qH hc
   clear hc
   go_wp2_with (at_builtin; go_must (refine Lib.wpList_append_byte rfl _ _ 121 rfl w.heap.size 5 i0 Tryz.underlying121 hi hz0 hz1 hz2 u4 (z + 1 + k) _ rfl w wr _ hown rfl (by omega) ?_))
   intro v2 w2 h2
   have R := pad_step HC.out h2
   clear h2 hown ec n1 p1 q1
   go_wp2
   go_roundw
   case rel => exact ⟨k + 1, by omega, by go_num, R⟩
   case measure => simp [intOf]; omega
  ·obtain rfl : k = 8 := by omega
   have hst := run_string w.heap.size u4 (128 :: (List.replicate z 0 ++ by8 m 8)) w wr (by
    have := hown
    rw [pad_len]
    exact this)
   go_wp2
   go_ret
   exact ⟨rfl, hown.2.1⟩
theorem pad (n : Nat) (hn : n ≤ 9223372036854775807) (w : World) :
  Calls qP 186 #[.int .i64 n] w fun e w' => e = .returned (.string (bs (padOf n))) ∧ Below w.heap.size w w' :=
 pad_this n _ _ hn (qH rfl) (qH rfl) w
theorem wpList_append_four {P : Program} {ops : Array Oper} {rest : List Oper} {o : Oper} {a : Act} {Q : Exit → Act → World → Prop} (hgd : o.guard = none) (s x : Operand) (t : TypeId)
  (ho : o.op = .call { callee := .builtin .append, args := #[s, x], argTypes := #[t, t] })
  (B : Nat) (e : TypeId) (i : TypeInfo) (ht : P.underlying t = some (.slice e)) (hi : P.info? e = some i) (hz : i.zero = some (.int .u8 0)) (hsize : i.size = 1) (hby : i.bytes = 1)
  (v : Value) (n : Nat) (xs : List Value) (hs : a.eval s = v) (W0 w0 : World) (c d f g : Int) (hb : Lib.OwnBuf B e v n xs W0 w0)
  (hx : a.eval x = .slice (some ⟨w0.heap.size, 0, none⟩) 4 4) (hlen : n + 4 ≤ 140737488355328)
  (h : ∀ v' w', Lib.OwnBuf B e v' (n + 4) (xs ++ [.int .u8 c, .int .u8 d, .int .u8 f, .int .u8 g]) W0 w' → wpList P ops Q rest (a.put o.dst v') w') : wpList P ops Q (o :: rest) a (w0.alloc (.cells #[.int .u8 c, .int .u8 d, .int .u8 f, .int .u8 g] e)) := by
 have hb' := hb.alloc (.cells #[.int .u8 c, .int .u8 d, .int .u8 f, .int .u8 g] e)
 refine wpList_append_ownF _ hgd s x t ho B e i (.int .u8 0) 1 1 ht hi hz hsize hby rfl (by decide) v n xs hs hb'.1 ⟨w0.heap.size, 0, none⟩ 4 4 [.int .u8 c, .int .u8 d, .int .u8 f, .int .u8 g] hx rfl ?_ ?_ (by unfold maxLen; omega) (by omega) hb'.2.2 ?_
 ·intro j u hj
  match j, hj with
  | 0, hj => simp at hj; subst hj; simp [Addr.add]
  | 1, hj => simp at hj; subst hj; simp [Addr.add]
  | 2, hj => simp at hj; subst hj; simp [Addr.add]
  | 3, hj => simp at hj; subst hj; simp [Addr.add]
  | (j + 4), hj => simp at hj
 ·intro u hu
  simp at hu
  rcases hu with rfl | rfl | rfl | rfl <;> rfl
 ·intro v' w' ho' hg _
  exact h v' w' (hb'.grown ho' hg)
def SumAt (p : List UInt8) (w : World) (k : Nat) (wr : World) : Prop := Blk wr w.heap.size 189 (wv (blks p k)) ∧ Below w.heap.size w wr
theorem SumAt.drew {p : List UInt8} {w wr : World} {k : Nat} (h : SumAt p w k wr) : SumAt p w k wr.drew := ⟨h.1, Below.drewN h.2 1⟩
theorem SumAt.reg {p : List UInt8} {w wr : World} {k : Nat} (h : SumAt p w k wr) (i : Nat) (hi : i < 8) : wr.cell? ⟨w.heap.size, i, none⟩ = some (.int .u32 (nth (blks p k) i)) := by
 rw [h.1.cell i, wv_at _ _ (by rw [blks_len]; exact hi)]
theorem extract_data (p : ByteArray) (a b : Nat) : (p.extract a b).data.toList = (p.data.toList.drop a).take (b - a) := by
 rw [ByteArray.data_extract, Array.toList_extract, List.extract_eq_take_drop]
theorem SumAt.step {p : ByteArray} {w w2 w3 : World} {k : Nat} (h : SumAt p.data.toList w k w2) (b : Below w2.heap.size w2 w3) : SumAt p.data.toList w (k + 1) (w3.setRow w.heap.size (wv (blk (blks p.data.toList k) (p.extract (64 * k) (64 * k + 64)).data.toList))) := by
 refine ⟨?_, below_setRow (h.2.trans (b.mono h.2.size)) (Nat.le_refl _)⟩
 have e : blks p.data.toList (k + 1) = blk (blks p.data.toList k) (p.extract (64 * k) (64 * k + 64)).data.toList := by
  rw [extract_data, show 64 * k + 64 - 64 * k = 64 by omega]
  rfl
 rw [e]
 exact setRow_heap _ _ _ _ _ _ (h.1.next b)
theorem at_next (k : Nat) : Value.int .i64 (64 * (k : Int) + 64) = Value.int .i64 ((64 * (k + 1) : Nat) : Int) := by rw [show ((64 * (k + 1) : Nat) : Int) = 64 * (k : Int) + 64 by omega]
theorem out_start {w wr : World} {v : Value} {w2 : World} (hb : Below w.heap.size w wr) (h : Lib.OwnBuf wr.heap.size 5 v 0 [] wr w2) : Lib.OwnBuf w.heap.size 5 v 0 [] w w2 := by
 obtain ⟨h1, h2, h3⟩ := h
 refine ⟨⟨h1.1, ?_⟩, hb.trans (h2.mono hb.size), Nat.le_trans hb.size h3⟩
 rcases h1.2 with hn | ⟨g, cap, cur, fz, e1, e2, rest⟩
 ·exact .inl hn
 ·exact .inr ⟨g, cap, cur, fz, e1, Nat.le_trans hb.size e2, rest⟩
theorem info32 : (qP.info? 188).map (fun i => (i.zero, i.size, i.bytes)) = some (some (.int .u32 0), 1, 4) := by kernel_rfl
theorem run_index_word (w : World) (hs : List Nat) (i : Nat) (hi : i < hs.length) (h8 : hs.length = 8) :
  (Instr.index 189 (.agg (wv hs)) (.int .i64 (i : Int))).run qP w = .ok (.int .u32 (nth hs i)) w := by
 obtain ⟨i0, hi0, _, hz1, _⟩ := info_parts info32
 have hn : 0 ≤ (i : Int) ∧ (i : Int) < ((8 : Nat) : Int) := by omega
 have hl : i < 8 := by omega
 simp [Instr.index, run_underlying Tryz.underlying189, asIntOf, hl, sizeOf, typeInfo, hi0, hz1, isAgg, run_underlying Tryz.underlying188, wv_at hs i hi, go_sem]
theorem by4_cells (x b0 b1 b2 b3 : Nat) (h0 : x / 16777216 % 256 = b0) (h1 : x / 65536 % 256 = b1) (h2 : x / 256 % 256 = b2) (h3 : x % 256 = b3) : cells (by4 x) = [.int .u8 b0, .int .u8 b1, .int .u8 b2, .int .u8 b3] := by
 unfold by4 cells
 simp only [List.map_cons, List.map_nil]
 rw [h0, h1, h2, h3, W.toNat_ofNat (by omega), W.toNat_ofNat (by omega), W.toNat_ofNat (by omega), W.toNat_ofNat (by omega)]
theorem out_step {hh : List Nat} {j x : Nat} {B : Nat} {l : List Value} {v : Value} {W0 w : World} (hx : nth hh j = x) (hl : cells (by4 x) = l) (h : Lib.OwnBuf B 5 v (4 * j + 4) (cells (outTo hh j) ++ l) W0 w) : Lib.OwnBuf B 5 v (4 * (j + 1)) (cells (outTo hh (j + 1))) W0 w := by
 rw [show outTo hh (j + 1) = outTo hh j ++ by4 (nth hh j) from rfl, cells_append, hx, hl]
 exact h
theorem eight {l : List Nat} (h : l.length = 8) : ∃ a0 a1 a2 a3 a4 a5 a6 a7, l = [a0, a1, a2, a3, a4, a5, a6, a7] := by
 match l, h with
 | [a0, a1, a2, a3, a4, a5, a6, a7], _ => exact ⟨_, _, _, _, _, _, _, _, rfl⟩
theorem sum_this (s p : ByteArray) (nb : Nat) (w : World) (hr : Roots w) (hs : s.size ≤ 1099511627776) (HP : Hid (p = bs (padded s.data.toList))) (hp : p.size = 64 * nb) (out : List UInt8) (HO : Hid (outTo (blks p.data.toList nb) 8 = out)) :
  Calls qP 152 #[.string s] w fun e w' => e = .returned (.string (bs out)) ∧ Below w.heap.size w w' := by
 have hps : p.size ≤ 1099511627776 + 72 := by
  have h1 := padOf_len s.size
  have h2 := zs_lt s.size
  rw [HP.out, bs_size, padded, List.length_append, size_list]
  omega
 have hadd : ∀ W : World, (Op.stringOp .add s (bs (padOf s.size))).run qP W = .ok (.string p) W := fun W => by
  have h := run_add W s.data.toList (padOf s.size) (by have h1 := padOf_len s.size; have h2 := zs_lt s.size; rw [size_list]; omega)
  rw [bs_of] at h
  rw [h, HP.out, padded, size_list]
 obtain ⟨i0, hi, hz0, hz1, hz2⟩ := info_parts infoU8
 have HR := qH hr
 have HPAD := qH (pad s.size (by omega) (w.alloc (.cells (wv regs0) 189)))
 have HPS := qH hp
 have H0 := qH (Blk.new w 189 (wv regs0))
 have HB0 := qH ((Below.refl w.heap.size w).alloc (Nat.le_refl _) (.cells (wv regs0) 189))
 clear hr hp HP
 go_enter Tryz.func152, Tryz.ntmps152
 go_wp2_with fail
 refine HPAD.out.mono ?_
 rintro e w2 ⟨rfl, b2⟩
 have HS := qH (show SumAt p.data.toList w 0 w2 from ⟨H0.out.next b2, HB0.out.trans (b2.mono (by simp))⟩)
 clear HPAD H0 HB0 b2
 go_wp2
 clear hadd
 go_loopw [5] (fun i wr => ∃ k : Nat, k ≤ nb ∧ i = .int .i64 ((64 * k : Nat) : Int) ∧ SumAt p.data.toList w k wr) (fun i _ => p.size - (intOf i).toNat)
 case atStart => exact ⟨0, Nat.zero_le _, rfl, HS.out⟩
 case round =>
  clear HS
  obtain ⟨k, hk, rfl, hS⟩ := hrel
  by_cases hlt : k < nb
  ·have t1 : 64 * (k : Int) < (p.size : Int) := by have := HPS.out; omega
   have t2 : 64 * (k : Int) + 64 ≤ (p.size : Int) := by have := HPS.out; omega
   have n1 : (64 * (k : Int)).toNat = 64 * k := by omega
   have n2 : (64 * (k : Int) + 64).toNat = 64 * k + 64 := by omega
   have p1 : 0 ≤ 64 * (k : Int) := by omega
   have p2 : 0 ≤ 64 * (k : Int) + 64 := by omega
   have p3 : 64 * (k : Int) ≤ 64 * (k : Int) + 64 := by omega
   have wr1 : IntKind.i64.wrap (64 * (k : Int) + 64) = 64 * (k : Int) + 64 := IntWalk.i64_in _ (by omega)
   have HS := qH hS.drew
   have hc := hS.drew
   obtain ⟨a0, a1, a2, a3, a4, a5, a6, a7, ha⟩ := eight (blks_len p.data.toList k)
   have c0 := hc.reg 0 (by decide)
   have c1 := hc.reg 1 (by decide)
   have c2 := hc.reg 2 (by decide)
   have c3 := hc.reg 3 (by decide)
   have c4 := hc.reg 4 (by decide)
   have c5 := hc.reg 5 (by decide)
   have c6 := hc.reg 6 (by decide)
   have c7 := hc.reg 7 (by decide)
   rw [ha] at c0 c1 c2 c3 c4 c5 c6 c7
   replace c0 : wr.drew.cell? ⟨w.heap.size, 0, none⟩ = some (.int .u32 a0) := c0
   replace c1 : wr.drew.cell? ⟨w.heap.size, 1, none⟩ = some (.int .u32 a1) := c1
   replace c2 : wr.drew.cell? ⟨w.heap.size, 2, none⟩ = some (.int .u32 a2) := c2
   replace c3 : wr.drew.cell? ⟨w.heap.size, 3, none⟩ = some (.int .u32 a3) := c3
   replace c4 : wr.drew.cell? ⟨w.heap.size, 4, none⟩ = some (.int .u32 a4) := c4
   replace c5 : wr.drew.cell? ⟨w.heap.size, 5, none⟩ = some (.int .u32 a5) := c5
   replace c6 : wr.drew.cell? ⟨w.heap.size, 6, none⟩ = some (.int .u32 a6) := c6
   replace c7 : wr.drew.cell? ⟨w.heap.size, 7, none⟩ = some (.int .u32 a7) := c7
   have HA := qH ha
   have HRW := qH (HR.out.below hc.2 HR.out.pos)
   clear hc hS ha
   go_wp2
   refine wp_region_still_tail 6 (by kernel_rfl) (by kernel_rfl) ?_
   simp only [List.take_succ_cons, List.take_zero, List.drop_succ_cons, List.drop_zero]
   change wpStill _ _ wr.drew (fun a' => wpList _ _ _ _ a' wr.drew) _ _
   generalize wr.drew = w3 at *
   repeat still_step
   refine wpStill_nil ?_
   clear c0 c1 c2 c3 c4 c5 c6 c7 p1 p2 p3 n1 n2 wr1
   go_wp2_with fail
   obtain ⟨o8, h8⟩ : ∃ o8, blk [a0, a1, a2, a3, a4, a5, a6, a7] (p.extract (64 * k) (64 * k + 64)).data.toList = o8 := ⟨_, rfl⟩
   have l8 : o8.length = 8 := by rw [← h8, blk_len _ _ rfl]
   have H8 := qH h8
   have L8 := qH l8
   clear h8 l8
   refine (block_this a0 a1 a2 a3 a4 a5 a6 a7 (p.extract (64 * k) (64 * k + 64)) w3 HRW.out (by rw [ByteArray.size_extract]; unfold maxLen; omega) o8 H8).mono ?_
   rintro e w4 ⟨rfl, b4⟩
   have R := qH (HS.out.step b4)
   rw [HA.out, H8.out] at R
   have hB := HS.out.1.next b4
   rw [HA.out] at hB
   have HB := qH hB
   clear hB HS HA HRW b4 H8
   go_wp2_with (refine wpList_store_row rfl 189 _ _ rfl w.heap.size (wv o8) rfl rfl 189 _ HB.out (by rw [wv_size, L8.out]; exact info8) (by rw [wv_size, wv_size, L8.out]; rfl) (wv_one _) ?_)
   go_roundw
   case rel => exact ⟨k + 1, by omega, at_next k, R.out⟩
   case measure =>
    show p.size - (64 * (k : Int) + 64).toNat < p.size - ((64 * k : Nat) : Int).toNat
    omega
  ·obtain rfl : k = nb := by omega
   have t1 : ¬ 64 * (k : Int) < (p.size : Int) := by have := HPS.out; omega
   have HS := qH hS
   have hmk : ∀ W : World, (Instr.makeSlice 121 (.int .i64 0) (.int .i64 32)).run qP W = .ok (.slice (some ⟨W.heap.size, 0, none⟩) 0 32) (W.alloc (.cells (madeCells (Value.int .u8 0).cells 32) 5)) := fun W => run_make0 32 (by omega) W
   have HOW := OwnBuf_made 32 (by unfold maxLen; omega) wr
   generalize madeCells (Value.int .u8 0).cells 32 = M at *
   have HB := qH (hS.1.alloc (.cells M 5))
   have HW := qH (out_start hS.2 HOW)
   have H8 := qH (blks_len p.data.toList k)
   clear hS HOW HS
   generalize blks p.data.toList k = hh at *
   go_wp2_with (refine wpList_load_row rfl 189 _ rfl w.heap.size rfl 189 _ (0, 0) _ HB.out Tryz.underlying189 rfl (by rw [wv_size, H8.out]; exact info8) ?_)
   clear HB hmk
   go_loopw [6, 30] (fun v i wr => ∃ j : Nat, j ≤ 8 ∧ i = .int .i64 j ∧ Lib.OwnBuf w.heap.size 5 v (4 * j) (cells (outTo hh j)) w wr) (fun _ i _ => 8 - (intOf i).toNat)
   case atStart => exact ⟨0, Nat.zero_le _, rfl, HW.out⟩
   case round =>
    clear HW
    obtain ⟨j, hj, rfl, hown⟩ := hrel
    by_cases hjl : j < 8
    ·obtain ⟨x, hx⟩ : ∃ x, nth hh j = x := ⟨_, rfl⟩
     have hix := run_index_word wr hh j (by rw [H8.out]; exact hjl) H8.out
     rw [hx] at hix
     obtain ⟨b0, h0⟩ : ∃ b, x / 16777216 % 256 = b := ⟨_, rfl⟩
     obtain ⟨b1, h1⟩ : ∃ b, x / 65536 % 256 = b := ⟨_, rfl⟩
     obtain ⟨b2, h2⟩ : ∃ b, x / 256 % 256 = b := ⟨_, rfl⟩
     obtain ⟨b3, h3⟩ : ∃ b, x % 256 = b := ⟨_, rfl⟩
     have e0 : (x : Int) / 16777216 % 256 = (b0 : Int) := by omega
     have e1 : (x : Int) / 65536 % 256 = (b1 : Int) := by omega
     have e2 : (x : Int) / 256 % 256 = (b2 : Int) := by omega
     have e3 : (x : Int) % 256 = (b3 : Int) := by omega
     have HX := qH (by4_cells x b0 b1 b2 b3 h0 h1 h2 h3)
     have HN := qH hx
     clear h0 h1 h2 h3 hx
     go_wp2_with (at_builtin; go_must (refine wpList_append_four rfl _ _ 121 rfl w.heap.size 5 i0 Tryz.underlying121 hi hz0 hz1 hz2 u6 (4 * j) _ rfl w wr _ _ _ _ hown rfl (by omega) ?_))
     intro v5 w5 h5
     have R := out_step HN.out HX.out h5
     clear h5 hown e0 e1 e2 e3 hix HX HN
     go_wp2
     go_roundw
     case rel => exact ⟨j + 1, by omega, by go_num, R⟩
     case measure => simp [intOf]; omega
    ·obtain rfl : j = 8 := by omega
     have hst := run_string w.heap.size u6 (outTo hh 8) w _ (by rw [outTo_len]; exact hown)
     rw [HO.out] at hst
     go_wp2
     go_ret
     exact ⟨rfl, hown.2.1⟩
theorem sum (s : ByteArray) (w : World) (hr : Roots w) (hs : s.size ≤ 1099511627776) :
  Calls qP 152 #[.string s] w fun e w' => e = .returned (.string (bs (shaOf s.data.toList))) ∧ Below w.heap.size w w' := by
 refine sum_this s (bs (padded s.data.toList)) ((padded s.data.toList).length / 64) w hr hs (qH rfl) ?_ _ (qH rfl)
 rw [bs_size]
 exact padded_len _
def bv (l : List UInt8) : Array Value := (cells l).toArray
theorem bv_size (l : List UInt8) : (bv l).size = l.length := by simp [bv, cells]
theorem bv_at (l : List UInt8) (i : Nat) (c : UInt8) (h : l[i]? = some c) : (bv l)[i]? = some (.int .u8 c.toNat) := by
 unfold bv cells
 rw [List.getElem?_toArray, List.getElem?_map, h]
 rfl
theorem bv_set (l : List UInt8) (i : Nat) (c : UInt8) : (bv l).setIfInBounds i (.int .u8 c.toNat) = bv (l.set i c) := by
 apply Array.toList_inj.1
 simp [bv, cells, List.map_set]
theorem bv_one (l : List UInt8) : (bv l).all (·.oneCell') = true := by
 rw [Array.all_eq_true_iff_forall_mem]
 intro v hv
 simp [bv, cells] at hv
 obtain ⟨x, _, rfl⟩ := hv
 rfl
theorem size_u8 (w : World) : (Go.sizeOf 5).run qP w = .ok 1 w := by
 obtain ⟨i0, hi, _, hz1, _⟩ := info_parts infoU8
 simp [Go.sizeOf, typeInfo, hi, hz1, go_sem]
theorem setCells_row (g : Nat) (t : TypeId) : ∀ (vs : List Value) (pre post : List Value) (w : World), Blk w g t (pre ++ post).toArray → vs.length ≤ post.length →
  Blk (w.setCells g pre.length vs) g t (pre ++ (vs ++ post.drop vs.length)).toArray := by
 intro vs
 induction vs with
 | nil => intro pre post w h _; simpa [World.setCells] using h
 | cons v vs ih =>
  intro pre post w h hl
  match post, hl with
  | p :: post, hl =>
   have h1 := h.set_ pre.length v
   rw [show (pre ++ p :: post).toArray.setIfInBounds pre.length v = ((pre ++ [v]) ++ post).toArray by simp] at h1
   have h2 := ih (pre ++ [v]) post (w.setCell ⟨g, pre.length, none⟩ v) h1 (by simpa using hl)
   rw [show (pre ++ [v]).length = pre.length + 1 by simp] at h2
   simpa [World.setCells] using h2
theorem info64b : (qP.info? 272).map (·.size) = some 64 := by kernel_rfl
theorem copy_key (w : World) (g : Nat) (ty : TypeId) (k : ByteArray) (hk : k.size ≤ 64) (h : Blk w g 272 (bv (List.replicate 64 0))) :
  ∃ w', (Builtin.copy_ #[121, 9] ty #[.slice (some ⟨g, 0, none⟩) 64 64, .string k]).run qP w = .ok (.int .i64 (k.size : Int)) w' ∧ Blk w' g 272 (bv (fill k.data.toList)) ∧ w' = w.setCells g 0 (cells k.data.toList) := by
 refine ⟨w.setCells g 0 (cells k.data.toList), ?_, ?_, rfl⟩
 ·have hr := run_copy_string (P := qP) w 121 9 ty 5 g 0 64 64 k Tryz.underlying121 size_u8 hk
   (fun j hj => by rw [Nat.zero_add, h.cell j, bv_at _ j 0 (by rw [List.getElem?_replicate, if_pos (by omega)])]; rfl) (fun j hj => h.frozen _)
  exact hr
 ·have h2 := setCells_row g 272 (cells k.data.toList) [] (cells (List.replicate 64 0)) w h (by rw [cells_len, cells_len, size_list, List.length_replicate]; exact hk)
  have e : [] ++ (cells k.data.toList ++ (cells (List.replicate 64 0)).drop (cells k.data.toList).length) = cells (fill k.data.toList) := by
   unfold fill
   rw [cells_append, cells_len, List.nil_append]
   congr 1
   unfold cells
   rw [← List.map_drop, List.drop_replicate]
  rw [e] at h2
  exact h2
theorem zero64b : (#[.int .u8 0, .int .u8 0, .int .u8 0, .int .u8 0, .int .u8 0, .int .u8 0, .int .u8 0, .int .u8 0, .int .u8 0, .int .u8 0, .int .u8 0, .int .u8 0, .int .u8 0, .int .u8 0, .int .u8 0, .int .u8 0, .int .u8 0, .int .u8 0, .int .u8 0, .int .u8 0, .int .u8 0, .int .u8 0, .int .u8 0, .int .u8 0, .int .u8 0, .int .u8 0, .int .u8 0, .int .u8 0, .int .u8 0, .int .u8 0, .int .u8 0, .int .u8 0, .int .u8 0, .int .u8 0, .int .u8 0, .int .u8 0, .int .u8 0, .int .u8 0, .int .u8 0, .int .u8 0, .int .u8 0, .int .u8 0, .int .u8 0, .int .u8 0, .int .u8 0, .int .u8 0, .int .u8 0, .int .u8 0, .int .u8 0, .int .u8 0, .int .u8 0, .int .u8 0, .int .u8 0, .int .u8 0, .int .u8 0, .int .u8 0, .int .u8 0, .int .u8 0, .int .u8 0, .int .u8 0, .int .u8 0, .int .u8 0, .int .u8 0, .int .u8 0] : Array Value) = bv (List.replicate 64 0) := rfl
def FlAt (w wr : World) : Prop := Blk wr w.heap.size 272 (bv (List.replicate 64 0)) ∧ Below w.heap.size w wr
theorem FlAt.start (w : World) : FlAt w (w.alloc (.cells (bv (List.replicate 64 0)) 272)) := ⟨Blk.new w _ _, (Below.refl _ _).alloc (Nat.le_refl _) _⟩
theorem FlAt.next {w wr w' : World} (h : FlAt w wr) (hb : Below wr.heap.size wr w') : FlAt w w' := ⟨h.1.next hb, h.2.trans (hb.mono h.2.size)⟩
theorem FlAt.alloc {w wr : World} (h : FlAt w wr) (o : Obj) : FlAt w (wr.alloc o) := h.next ((Below.refl _ _).alloc (Nat.le_refl _) o)
theorem FlAt.setCells {w wr : World} (h : FlAt w wr) {G : Nat} (hG : w.heap.size < G) {vs : List Value} {o : Nat} : FlAt w (wr.setCells G o vs) :=
 have hb := below_setCells hG vs o wr (Below.refl _ _)
 ⟨h.1.below hb (Nat.lt_succ_self _), h.2.trans (hb.mono (Nat.le_succ _))⟩
theorem filled_short (k : ByteArray) (w : World) (hk : k.size ≤ 64) :
  Calls qP 201 #[.string k] w fun e w' => e = .returned (.agg (bv (fill k.data.toList))) ∧ Below w.heap.size w w' := by
 have HF := qH ((FlAt.start w).alloc (.cells (bv (List.replicate 64 0)) 272))
 have hg := Blk.new (w.alloc (.cells (bv (List.replicate 64 0)) 272)) 272 (bv (List.replicate 64 0))
 rw [show (w.alloc (.cells (bv (List.replicate 64 0)) 272)).heap.size = w.heap.size + 1 by simp] at hg
 have HG := qH hg
 have HGE := qH (Nat.lt_succ_self w.heap.size)
 have hk1 : ¬ (64 : Int) < (k.size : Int) := by omega
 clear hg
 go_enter Tryz.func201, Tryz.ntmps201
 go_wp2_with fail
 rw [zero64b]
 generalize (w.alloc (.cells (bv (List.replicate 64 0)) 272)).alloc (.cells (bv (List.replicate 64 0)) 272) = w2 at *
 obtain ⟨w3, hcp, hb3, hw3⟩ := copy_key w2 (w.heap.size + 1) 3 k hk HG.out
 have hf3 : FlAt w w3 := by rw [hw3]; exact HF.out.setCells HGE.out
 have H3 := qH hb3
 have HF3 := qH hf3
 have HL := qH (fill_len k.data.toList (by rw [size_list]; exact hk))
 clear hb3 hf3 hw3 HG HF
 obtain ⟨f, hf⟩ : ∃ f, fill k.data.toList = f := ⟨_, rfl⟩
 rw [hf] at H3 HL
 have HE := qH hf
 clear hf
 rw [hcp]
 go_wp2_with (first
  | (refine wpList_load_row rfl 272 _ rfl (w.heap.size + 1) rfl 272 _ (0, 0) _ H3.out Tryz.underlying272 rfl (by rw [bv_size, HL.out]; exact info64b) ?_)
  | (refine wpList_store_row rfl 272 _ _ rfl w.heap.size (bv f) rfl rfl 272 (bv (List.replicate 64 0)) HF3.out.1 (by rw [bv_size, HL.out]; exact info64b) (by rw [bv_size, bv_size, HL.out, List.length_replicate]) (bv_one _) ?_))
 have hb : Below w.heap.size w (w3.setRow w.heap.size (bv f)) := below_setRow HF3.out.2 (Nat.le_refl _)
 exact bodyPost_ret (v := .agg (bv f)) (results_cell_row Tryz.results201 _ _ w.heap.size 272 _ (0, 0) _ rfl (setRow_heap _ _ _ _ _ _ HF3.out.1) Tryz.underlying272 rfl (by rw [bv_size, HL.out]; exact info64b)) rfl ⟨by rw [HE.out], hb⟩
theorem filled_long (k : ByteArray) (w : World) (hr : Roots w) (hk : 64 < k.size) (hs : k.size ≤ 1099511627776) (q : ByteArray) (HQ : Hid (q = bs (shaOf k.data.toList))) :
  Calls qP 201 #[.string k] w fun e w' => e = .returned (.agg (bv (fill q.data.toList))) ∧ Below w.heap.size w w' := by
 have hq : q.size ≤ 64 := by rw [HQ.out, bs_size, shaOf_len]; omega
 have R := qH (sum k (w.alloc (.cells (bv (List.replicate 64 0)) 272)) (hr.alloc _) hs)
 rw [← HQ.out] at R
 have HF0 := qH (FlAt.start w)
 have hk1 : (64 : Int) < (k.size : Int) := by omega
 have HGT := qH (show w.heap.size < (w.alloc (.cells (bv (List.replicate 64 0)) 272)).heap.size by simp)
 clear HQ hr
 go_enter Tryz.func201, Tryz.ntmps201
 go_wp2_with fail
 rw [zero64b]
 generalize w.alloc (.cells (bv (List.replicate 64 0)) 272) = w1 at *
 refine R.out.mono ?_
 rintro e w5 ⟨rfl, b5⟩
 have HF := qH ((HF0.out.next b5).alloc (.cells (bv (List.replicate 64 0)) 272))
 have HG := qH (Blk.new w5 272 (bv (List.replicate 64 0)))
 have HGE := qH (Nat.lt_of_lt_of_le HGT.out b5.size)
 clear HF0 b5 R HGT
 go_wp2_with fail
 rw [zero64b]
 generalize w5.alloc (.cells (bv (List.replicate 64 0)) 272) = w2 at *
 obtain ⟨w3, hcp, hb3, hw3⟩ := copy_key w2 w5.heap.size 3 q hq HG.out
 have hf3 : FlAt w w3 := by rw [hw3]; exact HF.out.setCells HGE.out
 have H3 := qH hb3
 have HF3 := qH hf3
 have HL := qH (fill_len q.data.toList (by rw [size_list]; exact hq))
 clear hb3 hf3 hw3 HG HF
 obtain ⟨f, hf⟩ : ∃ f, fill q.data.toList = f := ⟨_, rfl⟩
 rw [hf] at H3 HL
 have HE := qH hf
 clear hf
 rw [hcp]
 go_wp2_with (first
  | (refine wpList_load_row rfl 272 _ rfl w5.heap.size rfl 272 _ (0, 0) _ H3.out Tryz.underlying272 rfl (by rw [bv_size, HL.out]; exact info64b) ?_)
  | (refine wpList_store_row rfl 272 _ _ rfl w.heap.size (bv f) rfl rfl 272 (bv (List.replicate 64 0)) HF3.out.1 (by rw [bv_size, HL.out]; exact info64b) (by rw [bv_size, bv_size, HL.out, List.length_replicate]) (bv_one _) ?_))
 have hb : Below w.heap.size w (w3.setRow w.heap.size (bv f)) := below_setRow HF3.out.2 (Nat.le_refl _)
 exact bodyPost_ret (v := .agg (bv f)) (results_cell_row Tryz.results201 _ _ w.heap.size 272 _ (0, 0) _ rfl (setRow_heap _ _ _ _ _ _ HF3.out.1) Tryz.underlying272 rfl (by rw [bv_size, HL.out]; exact info64b)) rfl ⟨by rw [HE.out], hb⟩
theorem filled (k : ByteArray) (w : World) (hr : Roots w) (hs : k.size ≤ 1099511627776) :
  Calls qP 201 #[.string k] w fun e w' => e = .returned (.agg (bv (fill (keyOf k.data.toList)))) ∧ Below w.heap.size w w' := by
 by_cases hk : k.size ≤ 64
 ·rw [keyOf_short _ (by rw [size_list]; exact hk)]
  exact filled_short k w hk
 ·rw [keyOf_long _ (by rw [size_list]; omega)]
  exact filled_long k w hr (by omega) hs (bs (shaOf k.data.toList)) (qH rfl)
theorem xor_byte (a x : UInt8) : bits .xor .u8 (a.toNat : Int) (x.toNat : Int) = ((a ^^^ x).toNat : Int) := by
 show IntKind.u8.wrap ((BitVec.ofInt 8 (a.toNat : Int) ^^^ BitVec.ofInt 8 (x.toNat : Int)).toNat : Int) = _
 have ha := a.toNat_lt
 have hx := x.toNat_lt
 rw [BitVec.toNat_xor, BitVec.ofInt_natCast, BitVec.ofInt_natCast, BitVec.toNat_ofNat, BitVec.toNat_ofNat, Nat.mod_eq_of_lt (by simpa using ha), Nat.mod_eq_of_lt (by simpa using hx), IntKind.wrap_u8, UInt8.toNat_xor]
 have h : a.toNat ^^^ x.toNat < 2 ^ 8 := Nat.xor_lt_two_pow (by simpa using ha) (by simpa using hx)
 omega
def MkAt (f : List UInt8) (x : UInt8) (w : World) (i : Nat) (wr : World) : Prop := Blk wr w.heap.size 272 (bv (mhalf f x i)) ∧ Below w.heap.size w wr
theorem MkAt.drew {f : List UInt8} {x : UInt8} {w wr : World} {i : Nat} (h : MkAt f x w i wr) : MkAt f x w i wr.drew := ⟨h.1, Below.drewN h.2 1⟩
theorem MkAt.cell {f : List UInt8} {x : UInt8} {w wr : World} {i : Nat} (h : MkAt f x w i wr) (hi : i < f.length) : wr.cell? ⟨w.heap.size, i, none⟩ = some (.int .u8 f[i].toNat) := by
 rw [h.1.cell i, bv_at _ i _ (half_at f x i hi)]
theorem MkAt.put {f : List UInt8} {x : UInt8} {w wr : World} {i : Nat} (h : MkAt f x w i wr) (hi : i < f.length) : MkAt f x w (i + 1) (wr.setCell ⟨w.heap.size, i, none⟩ (.int .u8 (f[i] ^^^ x).toNat)) := by
 refine ⟨?_, h.2.setCell (by simp) _⟩
 have h1 := h.1.set_ i (.int .u8 (f[i] ^^^ x).toNat)
 rw [bv_set, half_step f x i hi] at h1
 exact h1
theorem store_old64 (f : List UInt8) (hl : f.length = 64) (W : World) (G : Nat) (hG : Blk W G 272 (bv (List.replicate 64 0))) :
  (storeCells ⟨G, 0, none⟩ (bv f).toList).run qP W = .ok () (W.setRow G (bv f)) := by
 have h := run_storeCells_from (P := qP) G 272 (bv f).toList 0 (bv (List.replicate 64 0)) W hG (by rw [Array.length_toList, bv_size, bv_size, hl, List.length_replicate]) (fun v hv => (Array.all_eq_true_iff_forall_mem.1 (bv_one f)) v (by simpa using hv))
 rw [h, List.take_zero, List.nil_append, Array.toArray_toList]
theorem store_new64 (f : List UInt8) (hl : f.length = 64) (W : World) :
  (storeCells ⟨W.heap.size, 0, none⟩ (bv f).toList).run qP (W.alloc (.cells (bv (List.replicate 64 0)) 272)) = .ok () (W.alloc (.cells (bv f) 272)) := by
 rw [store_old64 f hl _ _ (Blk.new W 272 _), World.setRow_alloc_new]
theorem addr_add (g j : Nat) : (⟨g, 0, none⟩ : Addr).add j = ⟨g, j, none⟩ := by cases j <;> simp [Addr.add]
theorem masked (f : List UInt8) (x : UInt8) (g : Nat) (w : World) (hf : f.length = 64) (hg : Blk w g 272 (bv f)) (out : List UInt8) (HO : Hid (mix x f = out)) :
  Calls qP 202 #[.int .u8 x.toNat, .pointer (some ⟨g, 0, none⟩)] w fun e w' => e = .returned (.string (bs out)) ∧ Below w.heap.size w w' := by
 have hs64 : (bv f).size = 64 := by rw [bv_size, hf]
 have hst := store_new64 f hf w
 rw [← zero64b] at hst
 have HG := qH hg
 have HF := qH hf
 have H0 := qH (show MkAt f x w 0 (w.alloc (.cells (bv f) 272)) from ⟨by rw [half_zero]; exact Blk.new w _ _, (Below.refl _ _).alloc (Nat.le_refl _) _⟩)
 clear hg hf
 go_enter Tryz.func202, Tryz.ntmps202
 go_wp2_with (first
  | (refine wpList_load_row rfl 272 _ rfl g rfl 272 _ (0, 0) _ HG.out Tryz.underlying272 rfl (by rw [bv_size, HF.out]; exact info64b) ?_))
 clear hst HG hs64
 go_loopw [7] (fun i wr => ∃ k : Nat, k ≤ 64 ∧ i = .int .i64 k ∧ MkAt f x w k wr) (fun i _ => 64 - (intOf i).toNat)
 case atStart => exact ⟨0, Nat.zero_le _, rfl, H0.out⟩
 case round =>
  clear H0
  obtain ⟨k, hk, rfl, hS⟩ := hrel
  by_cases hlt : k < 64
  ·have hkf : k < f.length := by rw [HF.out]; exact hlt
   have hc := hS.cell hkf
   have hfz : wr.frozen? ⟨w.heap.size, k, none⟩ = false := hS.1.frozen k
   have HP := qH (hS.put hkf)
   have hx := xor_byte f[k] x
   generalize f[k] = c at *
   generalize c ^^^ x = y at *
   have jl : (k : Int) < 64 := by omega
   have jp : (0 : Int) ≤ (k : Int) := by omega
   clear hS hkf
   go_wp2
   go_roundw
   case rel => exact ⟨k + 1, by omega, by go_num, HP.out⟩
   case measure => simp [intOf]; omega
  ·obtain rfl : k = 64 := by omega
   have hB := hS.1
   rw [half_all f x 64 (by rw [HF.out]; exact Nat.le_refl _), HO.out] at hB
   have ho : out.length = 64 := by rw [← HO.out, mix_len, HF.out]
   have hst := run_convert_bytes_back (P := qP) wr 121 9 5 ⟨w.heap.size, 0, none⟩ 64 out Tryz.underlying121 Tryz.underlying5 Tryz.underlying9 (by
    intro j hj
    have h := hB.cell j
    rw [bv_at _ j _ (List.getElem?_eq_getElem hj)] at h
    rw [addr_add]
    exact h)
   rw [ho] at hst
   have HB := qH hS.2
   clear hS hB ho
   go_wp2
   go_ret
   exact ⟨rfl, HB.out⟩
theorem rRegs (w : World) : Calls qP 125 #[] w fun e w' => e = .returned (.agg (wv regs0)) ∧ Below w.heap.size w w' := by
 go_enter Tryz.func125, Tryz.ntmps125
 go_wp2_with (refine wpList_store_row rfl 189 _ _ rfl w.heap.size (wv regs0) rfl rfl 189 (wv (List.replicate 8 0)) (Blk.new w 189 (wv (List.replicate 8 0))) info8 rfl (wv_one _) ?_)
 have hb : Below w.heap.size w ((w.alloc (.cells (wv (List.replicate 8 0)) 189)).setRow w.heap.size (wv regs0)) := below_setRow ((Below.refl _ _).alloc (Nat.le_refl _) _) (Nat.le_refl _)
 exact bodyPost_ret (v := .agg (wv regs0)) (results_cell_row Tryz.results125 _ _ w.heap.size 189 _ (0, 0) _ rfl (setRow_heap _ _ _ _ _ _ (Blk.new w 189 (wv (List.replicate 8 0)))) Tryz.underlying189 rfl info8) rfl ⟨rfl, hb⟩
theorem rConsts (w : World) : Calls qP 162 #[] w fun e w' => e = .returned (.agg (wv kk)) ∧ Below w.heap.size w w' := by
 go_enter Tryz.func162, Tryz.ntmps162
 go_wp2_with (refine wpList_store_row rfl 226 _ _ rfl w.heap.size (wv kk) rfl rfl 226 (wv (List.replicate 64 0)) (Blk.new w 226 (wv (List.replicate 64 0))) info64 rfl (wv_one _) ?_)
 have hb : Below w.heap.size w ((w.alloc (.cells (wv (List.replicate 64 0)) 226)).setRow w.heap.size (wv kk)) := below_setRow ((Below.refl _ _).alloc (Nat.le_refl _) _) (Nat.le_refl _)
 exact bodyPost_ret (v := .agg (wv kk)) (results_cell_row Tryz.results162 _ _ w.heap.size 226 _ (0, 0) _ rfl (setRow_heap _ _ _ _ _ _ (Blk.new w 226 (wv (List.replicate 64 0)))) Tryz.underlying226 rfl info64) rfl ⟨rfl, hb⟩
theorem OwnBuf_one (w : World) : Lib.OwnBuf w.heap.size 5 (.slice (some ⟨w.heap.size, 0, none⟩) 1 1) 1 (cells [128]) w (w.alloc (.cells #[.int .u8 128] 5)) :=
 ⟨⟨rfl, .inr ⟨w.heap.size, 1, #[.int .u8 128], (0, 0), rfl, Nat.le_refl _, Blk.new w 5 _, Nat.zero_le _, Nat.le_refl _, by unfold maxLen; omega, rfl, rfl⟩⟩, (Below.refl _ _).alloc (Nat.le_refl _) _, by simp⟩
theorem own_sliceS {B n : Nat} {v : Value} {xs : List Value} {W0 w : World} (h : Lib.OwnBuf B 5 v n xs W0 w) (hn : 0 < n) : ∃ g cap, v = .slice (some ⟨g, 0, none⟩) n cap := by
 rcases h.1.2 with ⟨_, h0⟩ | ⟨g, cap, cur, fz, e, _⟩
 ·omega
 ·exact ⟨g, cap, e⟩
def slen : Value → Nat
 | .slice _ n _ => n
 | _ => 0
theorem zero_step {B j : Nat} {v : Value} {W0 w : World} (h : Lib.OwnBuf B 5 v (j + 1 + 1) (cells (128 :: List.replicate j 0) ++ [.int .u8 0]) W0 w) : Lib.OwnBuf B 5 v (j + 1 + 1) (cells (128 :: List.replicate (j + 1) 0)) W0 w := by
 rw [List.replicate_succ']
 simpa [cells] using h
theorem rpad_this (n m z : Nat) (hn : n ≤ 9223372036854775807) (HZ : Hid (zs n = z)) (HM : Hid (n * 8 % 18446744073709551616 = m)) (w : World) :
  Calls qP 124 #[.int .i64 n] w fun e w' => e = .returned (.string (bs (128 :: (List.replicate z 0 ++ by8 m 8)))) ∧ Below w.heap.size w w' := by
 have hz : z < 64 := by rw [← HZ.out]; exact zs_lt n
 have HT := qH (show ∀ j : Nat, j ≤ z → (((n : Int) % 64 + ((j + 1 : Nat) : Int) + 8) % 64 = 0 ↔ j = z) by
  intro j hj
  have e := HZ.out
  unfold zs at e
  omega)
 obtain ⟨i0, hi, hz0, hz1, hz2⟩ := info_parts infoU8
 have HO := qH (OwnBuf_one w)
 go_enter Tryz.func124, Tryz.ntmps124
 go_wp2
 go_loopw [3] (fun v wr => ∃ j : Nat, j ≤ z ∧ Lib.OwnBuf w.heap.size 5 v (j + 1) (cells (128 :: List.replicate j 0)) w wr) (fun v _ => z + 2 - slen v)
 case atStart => exact ⟨0, Nat.zero_le _, HO.out⟩
 case round =>
  clear HO
  obtain ⟨j, hj, hown⟩ := hrel
  obtain ⟨g, cap, rfl⟩ := own_sliceS hown (by omega)
  by_cases hlt : j < z
  ·have t1 : (((n : Int) % 64 + ((j + 1 : Nat) : Int) + 8) % 64 != 0) = true := by
    have := HT.out j hj
    simp only [bne_iff_ne, ne_eq]
    omega
   have t2 : (((n : Int) % 64 + ((j : Int) + 1) + 8) % 64 != 0) = true := t1
   have t3 : (((n : Int) + ((j : Int) + 1) + 8) % 64 != 0) = true := by
    have := HT.out j hj
    simp only [bne_iff_ne, ne_eq]
    omega
   have HTT := qH HT
   go_wp2_with (at_builtin; go_must (refine Lib.wpList_append_byte rfl _ _ 121 rfl w.heap.size 5 i0 Tryz.underlying121 hi hz0 hz1 hz2 (.slice (some ⟨g, 0, none⟩) (j + 1) cap) (j + 1) _ rfl w wr _ hown rfl (by omega) ?_))
   intro v2 w2 h2
   have R := zero_step h2
   obtain ⟨g2, cap2, rfl⟩ := own_sliceS R (by omega)
   clear h2 hown HTT t1 t2 t3
   go_wp2
   go_roundw
   case rel => exact ⟨j + 1, by omega, R⟩
   case measure => simp [slen]; omega
  ·obtain rfl : j = z := by omega
   have t1 : (((n : Int) % 64 + ((j + 1 : Nat) : Int) + 8) % 64 != 0) = false := by
    have := HT.out j hj
    simp only [bne_eq_false_iff_eq]
    omega
   have t2 : (((n : Int) % 64 + ((j : Int) + 1) + 8) % 64 != 0) = false := t1
   have t3 : (((n : Int) + ((j : Int) + 1) + 8) % 64 != 0) = false := by
    have := HT.out j hj
    simp only [bne_eq_false_iff_eq]
    omega
   have e0 : ((n : Int) % 64 + ((j : Int) + 1) + 8) % 64 = 0 := (HT.out j hj).2 rfl
   have HE := qH e0
   have eM : IntKind.u64.wrap ((n : Int) * 8) = (m : Int) := by rw [IntKind.wrap_u64, ← HM.out]; omega
   have HEM := qH eM
   clear e0 eM
   go_wp2
   clear t1 t2 t3
   simp only [HE.out]
   go_loopw [3, 4] (fun v i wr => ∃ k : Nat, k ≤ 8 ∧ i = .int .i64 (7 - (k : Int)) ∧ Lib.OwnBuf w.heap.size 5 v (j + 1 + k) (cells (128 :: (List.replicate j 0 ++ by8 m k))) w wr) (fun _ i _ => (intOf i + 1).toNat)
   case atStart => exact ⟨0, Nat.zero_le _, by simp, by simpa [by8] using hown⟩
   case round =>
    clear hown
    obtain ⟨k, hk, rfl, hown⟩ := hrel
    by_cases hlt : k < 8
    ·have eM := HEM.out
     have n1 : ((8 : Int) * (7 - (k : Int))).toNat = 56 - 8 * k := by omega
     have p1 : 0 ≤ (8 : Int) * (7 - (k : Int)) := by omega
     have q1 : (8 : Int) * (7 - (k : Int)) ≤ 64 := by omega
     have g1 : 0 ≤ 7 - (k : Int) := by omega
     obtain ⟨c, hc⟩ : ∃ c, m / 2 ^ (56 - 8 * k) % 256 = c := ⟨_, rfl⟩
     have ec : (m : Int) / 2 ^ (56 - 8 * k) % 256 = (c : Int) := by
      rw [← hc, Int.natCast_emod, Int.natCast_ediv, Int.natCast_pow]
      rfl
     have HC := qH hc
     clear hc
     go_wp2_with (at_builtin; go_must (refine Lib.wpList_append_byte rfl _ _ 121 rfl w.heap.size 5 i0 Tryz.underlying121 hi hz0 hz1 hz2 u3 (j + 1 + k) _ rfl w wr _ hown rfl (by omega) ?_))
     intro v2 w2 h2
     have R := pad_step HC.out h2
     clear h2 hown ec n1 p1 q1 eM
     go_wp2
     go_roundw
     case rel => exact ⟨k + 1, by omega, by go_num, R⟩
     case measure => simp [intOf]; omega
    ·obtain rfl : k = 8 := by omega
     have hst := run_string w.heap.size u3 (128 :: (List.replicate j 0 ++ by8 m 8)) w wr (by
      have := hown
      rw [pad_len]
      exact this)
     go_wp2
     go_ret
     exact ⟨rfl, hown.2.1⟩
theorem rpad (n : Nat) (hn : n ≤ 9223372036854775807) (w : World) :
  Calls qP 124 #[.int .i64 n] w fun e w' => e = .returned (.string (bs (padOf n))) ∧ Below w.heap.size w w' :=
 rpad_this n _ _ hn (qH rfl) (qH rfl) w
def rV (s : ByteArray) (e : Int) : Value := .agg #[.string s, .int .i64 e]
theorem ex_one (s : ByteArray) (h : 1 < s.size) (h2 : 0 < (s.extract 1 s.size).size) : (s.extract 1 s.size)[0] = s[1] := by
 have e1 : (s.extract 1 s.size)[0] = (s.extract 1 s.size).data.toList[0]'(by rw [size_list]; exact h2) := rfl
 have e2 : s[1] = s.data.toList[1]'(by rw [size_list]; exact h) := rfl
 rw [e1, e2]
 simp only [drop_all, List.getElem_drop]
theorem val_piece (s : ByteArray) (k : Nat) : ((s.extract 1 s.size).extract 0 k).data.toList = (s.data.toList.drop 1).take k := by rw [take_of, drop_all]
theorem val_next (s : ByteArray) (j : Nat) (h : j + 1 < s.size) : val ((s.data.toList.drop 1).take (j + 1)) = val ((s.data.toList.drop 1).take j) * 256 + s[j + 1].toNat := by
 rw [List.take_succ_eq_append_getElem (by rw [List.length_drop, size_list]; omega), val_snoc, List.getElem_drop]
 have e2 : s[j + 1] = s.data.toList[j + 1]'(by rw [size_list]; exact h) := rfl
 rw [e2]
 congr 3
 omega
theorem val_piece_lt (s : ByteArray) (j : Nat) (h : j ≤ 7) : val ((s.data.toList.drop 1).take j) < 72057594037927936 := by
 refine Nat.lt_of_lt_of_le (val_lt _) ?_
 have : ((s.data.toList.drop 1).take j).length ≤ 7 := by rw [List.length_take]; omega
 exact Nat.le_trans (Nat.pow_le_pow_right (by decide) this) (by decide)
theorem val_piece_lt6 (s : ByteArray) (j : Nat) (h : j ≤ 6) : val ((s.data.toList.drop 1).take j) < 281474976710656 := by
 refine Nat.lt_of_lt_of_le (val_lt _) ?_
 have : ((s.data.toList.drop 1).take j).length ≤ 6 := by rw [List.length_take]; omega
 exact Nat.le_trans (Nat.pow_le_pow_right (by decide) this) (by decide)
def rNumV (r : (ByteArray × Int) × Nat) : Value := .tuple #[rV r.1.1 r.1.2, .int .i64 r.2]
theorem stNum_dec (s : ByteArray) {n sz : Nat} {er : Int} (h : dec s.data.toList = (n, sz, er)) : stNum s 0 = if er ≠ 0 then ((s, er), 0) else ((s.extract sz s.size, 0), n) := by simp [stNum, h]
def RNPost (w : World) (r : (ByteArray × Int) × Nat) (en : Ending) (w' : World) : Prop := en = .returned (rNumV r) ∧ Below w.heap.size w w'
theorem refNum_err (s : ByteArray) (e : Int) (he : (e != 0) = true) (w : World) :
  Calls qP 41 #[rV s e] w (RNPost w ((s, e), 0)) := by
 unfold rV
 go_enter Tryz.func41, Tryz.ntmps41
 go_wp2
 go_returns
 exact ⟨rfl, by go_grown⟩
theorem refNum_tail (s : ByteArray) (w : World) (hm : s.size ≤ 9223372036854775807) (h0 : 0 < s.size) (h7 : ¬ 7 < s[0].toNat)
  (h1 : 0 < s[0].toNat → ∀ h : 1 < s.size, s[1].toNat ≠ 0) :
  Calls qP 41 #[rV s 0] w (RNPost w (stNum s 0)) := by
 have hE := nonempty_of s h0
 have hk := s[0].toNat_lt
 have HD := qH (dec_tail h0 h7 (fun a b => by
  have hx := ex_size s
  rw [ex_one s (by omega) b]
  exact h1 a (by omega)))
 by_cases hz0 : 0 < s[0].toNat
 ·by_cases hs1 : 1 < s.size
  ·have hz : ((s[1].toNat : Int) == 0) = false := beq_eq_false_iff_ne.2 (by have := h1 hz0 hs1; omega)
   clear h1
   by_cases hc : s.size - 1 < s[0].toNat
   ·have HS := qH (stNum_dec s (HD.out.trans (if_pos hc)))
    clear HD
    unfold rV
    go_enter Tryz.func41, Tryz.ntmps41
    go_wp2
    go_returns
    rw [HS.out, if_pos (by decide)]
    exact ⟨rfl, by go_grown⟩
   ·have HD2 := qH (HD.out.trans (if_neg hc))
    rw [val_piece] at HD2
    clear HD
    unfold rV
    go_enter Tryz.func41, Tryz.ntmps41
    go_wp2
    go_loop [5, 6] (fun n i => ∃ j : Nat, j ≤ s[0].toNat ∧ i = .int .i64 ((j : Int) + 1) ∧ n = .int .i64 (val ((s.data.toList.drop 1).take j))) (fun _ i => s[0].toNat + 1 - (intOf i).toNat)
    case atStart => exact ⟨0, Nat.zero_le _, rfl, rfl⟩
    case round =>
     obtain ⟨j, hj, rfl, rfl⟩ := hrel
     by_cases hlt : j < s[0].toNat
     ·have hv := val_piece_lt6 s j (by omega)
      have HV := qH (val_next s j (by omega))
      have hb := s[j + 1].toNat_lt
      generalize val ((s.data.toList.drop 1).take j) = m at *
      go_wp2
      go_round
      case rel => exact ⟨j + 1, by omega, by go_num, by rw [HV.out]; go_num⟩
      case measure => simp [intOf]; omega
     ·obtain rfl : j = s[0].toNat := by omega
      have hv := val_piece_lt s s[0].toNat (by omega)
      generalize val ((s.data.toList.drop 1).take s[0].toNat) = m at *
      by_cases hr : 9007199254740992 < m
      ·have HS := qH (stNum_dec s (HD2.out.trans (if_pos hr)))
       clear HD2
       go_wp2
       go_returns
       rw [HS.out, if_pos (by decide)]
       exact ⟨rfl, by go_grown⟩
      ·have HS := qH (stNum_dec s (HD2.out.trans (if_neg hr)))
       clear HD2
       go_wp2
       go_returns
       rw [HS.out, if_neg (by decide)]
       exact ⟨rfl, by go_grown⟩
  ·clear h1
   have HS := qH (stNum_dec s (HD.out.trans (if_pos (by omega))))
   clear HD
   unfold rV
   go_enter Tryz.func41, Tryz.ntmps41
   go_wp2
   go_returns
   rw [HS.out, if_pos (by decide)]
   exact ⟨rfl, by go_grown⟩
 ·have hz : s[0].toNat = 0 := by omega
  have HS := qH (stNum_dec s ((HD.out.trans (if_neg (by omega))).trans (if_neg (by rw [val_piece, hz]; simp [val]))))
  rw [val_piece, hz, List.take_zero, val_nil] at HS
  clear HD h1
  unfold rV
  go_enter Tryz.func41, Tryz.ntmps41
  go_wp2
  go_rounds 1
  go_returns
  rw [HS.out, if_neg (by decide)]
  exact ⟨rfl, by go_grown⟩
theorem refNum (s : ByteArray) (e : Int) (w : World) (hm : s.size ≤ 9223372036854775807) :
  Calls qP 41 #[rV s e] w (RNPost w (stNum s e)) := by
 by_cases he : e = 0
 ·subst he
  by_cases h0 : 0 < s.size
  ·by_cases h7 : 7 < s[0].toNat
   ·have hE := nonempty_of s h0
    have hk := s[0].toNat_lt
    have HS := qH (stNum_dec s (dec_big h0 h7))
    unfold rV
    go_enter Tryz.func41, Tryz.ntmps41
    go_wp2
    go_returns
    rw [HS.out, if_pos (by decide)]
    exact ⟨rfl, by go_grown⟩
   ·by_cases hf : 0 < s[0].toNat ∧ ∃ h : 1 < s.size, s[1].toNat = 0
    ·obtain ⟨hz0, hs1, hz⟩ := hf
     have hE := nonempty_of s h0
     have hk := s[0].toNat_lt
     have hx := ex_size s
     have HS := qH (stNum_dec s (dec_form h0 h7 hz0 (by omega) (by rw [ex_one s hs1 (by omega)]; exact hz)))
     have hz2 : ((s[1].toNat : Int) == 0) = true := beq_iff_eq.2 (by omega)
     clear hz hx
     unfold rV
     go_enter Tryz.func41, Tryz.ntmps41
     go_wp2
     go_returns
     rw [HS.out, if_pos (by decide)]
     exact ⟨rfl, by go_grown⟩
    ·exact refNum_tail s w hm h0 h7 (fun a b c => hf ⟨a, b, c⟩)
  ·have hE := empty_of s (by omega)
   have HS := qH (stNum_dec s (show dec s.data.toList = (0, 0, 5) by rw [List.eq_nil_of_length_eq_zero (show s.data.toList.length = 0 by rw [size_list]; omega)]; rfl))
   unfold rV
   go_enter Tryz.func41, Tryz.ntmps41
   go_wp2
   go_returns
   rw [HS.out, if_pos (by decide)]
   exact ⟨rfl, by go_grown⟩
 ·rw [stNum_err s he]
  exact refNum_err s e (by rw [bne_iff_ne]; exact he) w
end Go.Proofs.YtkejaepmoabikaaGreatDoor.W
