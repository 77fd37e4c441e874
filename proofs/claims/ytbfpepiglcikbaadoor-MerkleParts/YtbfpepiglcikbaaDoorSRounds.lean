/-
  sha.rounds: all rounds of a block.
-/
import Derived.Test.YtbfpepiglcikbaaDoorSSched
namespace Go.Proofs.YtbfpepiglcikbaaDoor.W
open Go.RowKit

/-- this world holds sha's table of roots -/
def Roots (w : World) : Prop := ∀ i : Nat, i < 64 → w.cell? ⟨0, i, none⟩ = some (.int .u32 (nth kk i))
theorem Roots.below {w w' : World} {B : Nat} (h : Roots w) (hb : Below B w w') (hB : 0 < B) : Roots w' := fun i hi => (hb.cell (p := ⟨0, i, none⟩) hB).trans (h i hi)
theorem Roots.pos {w : World} (h : Roots w) : 0 < w.heap.size := World.block_lt_of_cell? w _ (h 0 (by omega))
theorem Roots.next {w w' : World} (h : Roots w) (hb : Below w.heap.size w w') : Roots w' := h.below hb h.pos

/-- the boxes of sha.rounds: the registers, the words, the result -/
def RoAt (hs ws : List Nat) (w wr : World) : Prop :=
  Blk wr w.heap.size 44 (wv hs) ∧ Blk wr (w.heap.size + 1) 57 (wv ws) ∧ Blk wr (w.heap.size + 1 + 1) 44 (wv (List.replicate 8 0)) ∧ Below w.heap.size w wr
theorem RoAt.start (hs ws : List Nat) (w : World) : RoAt hs ws w (((w.alloc (.cells (wv hs) 44)).alloc (.cells (wv ws) 57)).alloc (.cells (wv (List.replicate 8 0)) 44)) := by
  have e1 : (w.alloc (.cells (wv hs) 44)).heap.size = w.heap.size + 1 := by simp
  have e2 : ((w.alloc (.cells (wv hs) 44)).alloc (.cells (wv ws) 57)).heap.size = w.heap.size + 1 + 1 := by simp
  refine ⟨?_, ?_, ?_, ?_⟩
  · exact ((Blk.new w 44 (wv hs)).alloc _).alloc _
  · have h := Blk.new (w.alloc (.cells (wv hs) 44)) 57 (wv ws)
    rw [e1] at h
    exact h.alloc _
  · have h := Blk.new ((w.alloc (.cells (wv hs) 44)).alloc (.cells (wv ws) 57)) 44 (wv (List.replicate 8 0))
    rw [e2] at h
    exact h
  · exact (((Below.refl _ _).alloc (Nat.le_refl _) _).alloc (by simp) _).alloc (by simp; omega) _
theorem RoAt.drewN {hs ws : List Nat} {w wr : World} (h : RoAt hs ws w wr) (n : Nat) : RoAt hs ws w (wr.drewN n) := ⟨h.1, h.2.1, h.2.2.1, Below.drewN h.2.2.2 n⟩
theorem RoAt.reg {hs ws : List Nat} {w wr : World} (h : RoAt hs ws w wr) (i : Nat) (hi : i < hs.length) : wr.cell? ⟨w.heap.size, i, none⟩ = some (.int .u32 (nth hs i)) := by
  rw [h.1.cell i, wv_at _ _ hi]
theorem RoAt.word {hs ws : List Nat} {w wr : World} (h : RoAt hs ws w wr) (i : Nat) (hi : i < ws.length) : wr.cell? ⟨w.heap.size + 1, i, none⟩ = some (.int .u32 (nth ws i)) := by
  rw [h.2.1.cell i, wv_at _ _ hi]
theorem zero8 : (#[.int .u32 0, .int .u32 0, .int .u32 0, .int .u32 0, .int .u32 0, .int .u32 0, .int .u32 0, .int .u32 0] : Array Value) = wv (List.replicate 8 0) := rfl
theorem rds_step (ws : List Nat) (r : Reg) (t a b c d e f g h x y : Nat) (hq : rds ws r t = ⟨a, b, c, d, e, f, g, h⟩)
    (hx : x = wadd (wadd (wadd (wadd h (wxor (wxor (rotr e 6) (rotr e 11)) (rotr e 25))) (wxor (wand e f) (wand (wnot e) g))) (nth kk t)) (nth ws t))
    (hy : y = wadd (wxor (wxor (rotr a 2) (rotr a 13)) (rotr a 22)) (wxor (wxor (wand a b) (wand a c)) (wand b c))) :
    rds ws r (t + 1) = ⟨wadd x y, a, b, c, wadd d x, e, f, g⟩ := by
  show rnd (nth kk t) (nth ws t) (rds ws r t) = _
  rw [hq, hx, hy]
  rfl

set_option maxHeartbeats 8000000 in
set_option maxRecDepth 100000 in
theorem rounds (hs ws : List Nat) (w : World) (hr : Roots w) (h8 : hs.length = 8) (h64 : ws.length = 64) :
    Calls Tryd.prog 41 #[.agg (wv hs), .agg (wv ws)] w fun e w' => e = .returned (.agg (wv (rds ws (regOf hs) 64).list)) ∧ Below w.heap.size w w' := by
  obtain ⟨r, hr0⟩ : ∃ r, regOf hs = r := ⟨_, rfl⟩
  rw [hr0]
  obtain ⟨a0, a1, a2, a3, a4, a5, a6, a7⟩ := r
  have z0 : nth hs 0 = a0 := congrArg Reg.a hr0
  have z1 : nth hs 1 = a1 := congrArg Reg.b hr0
  have z2 : nth hs 2 = a2 := congrArg Reg.c hr0
  have z3 : nth hs 3 = a3 := congrArg Reg.d hr0
  have z4 : nth hs 4 = a4 := congrArg Reg.e hr0
  have z5 : nth hs 5 = a5 := congrArg Reg.f hr0
  have z6 : nth hs 6 = a6 := congrArg Reg.g hr0
  have z7 : nth hs 7 = a7 := congrArg Reg.h hr0
  have HZ := Lib.hid (And.intro z0 (And.intro z1 (And.intro z2 (And.intro z3 (And.intro z4 (And.intro z5 (And.intro z6 z7)))))))
  have H8 := Lib.hid h8
  have H64 := Lib.hid h64
  have HR := Lib.hid hr
  clear h8 h64 hr hr0 z0 z1 z2 z3 z4 z5 z6 z7
  go_enter Tryd.func41, Tryd.ntmps41
  go_wp2
  have HD := Lib.hid (RoAt.start hs ws w)
  rw [zero8]
  generalize ((w.alloc (Obj.cells (wv hs) 44)).alloc (Obj.cells (wv ws) 57)).alloc (Obj.cells (wv (List.replicate 8 0)) 44) = w1 at *
  have c0 := HD.out.reg 0 (by rw [H8.out]; omega)
  have c1 := HD.out.reg 1 (by rw [H8.out]; omega)
  have c2 := HD.out.reg 2 (by rw [H8.out]; omega)
  have c3 := HD.out.reg 3 (by rw [H8.out]; omega)
  rw [HZ.out.1] at c0
  rw [HZ.out.2.1] at c1
  rw [HZ.out.2.2.1] at c2
  rw [HZ.out.2.2.2.1] at c3
  go_quiet (fail)
  have HD2 := Lib.hid (HD.out.drewN nq)
  clear HD c0 c1 c2 c3
  generalize w1.drewN nq = w2 at *
  go_wp2
  have c4 := HD2.out.reg 4 (by rw [H8.out]; omega)
  have c5 := HD2.out.reg 5 (by rw [H8.out]; omega)
  have c6 := HD2.out.reg 6 (by rw [H8.out]; omega)
  have c7 := HD2.out.reg 7 (by rw [H8.out]; omega)
  rw [HZ.out.2.2.2.2.1] at c4
  rw [HZ.out.2.2.2.2.2.1] at c5
  rw [HZ.out.2.2.2.2.2.2.1] at c6
  rw [HZ.out.2.2.2.2.2.2.2] at c7
  go_quiet (fail)
  have HD3 := Lib.hid (HD2.out.drewN nq)
  clear HD2 c4 c5 c6 c7 HZ
  generalize w2.drewN _ = w3 at *
  go_wp2
  go_loopw [5, 6, 7, 8, 9, 10, 11, 12, 36] (fun s5 s6 s7 s8 s9 s10 s11 s12 i wr => ∃ t a b c d e f g z : Nat, t ≤ 64 ∧ i = .int .i64 t ∧ s5 = .int .u32 a ∧ s6 = .int .u32 b ∧ s7 = .int .u32 c ∧ s8 = .int .u32 d ∧ s9 = .int .u32 e ∧ s10 = .int .u32 f ∧ s11 = .int .u32 g ∧ s12 = .int .u32 z ∧ Hid (rds ws ⟨a0, a1, a2, a3, a4, a5, a6, a7⟩ t = ⟨a, b, c, d, e, f, g, z⟩) ∧ RoAt hs ws w wr) (fun _ _ _ _ _ _ _ _ i _ => 64 - (intOf i).toNat)
  case atStart => exact ⟨0, a0, a1, a2, a3, a4, a5, a6, a7, Nat.zero_le _, rfl, rfl, rfl, rfl, rfl, rfl, rfl, rfl, rfl, Lib.hid rfl, HD3.out⟩
  case round =>
    clear HD3
    obtain ⟨t, a, b, c, d, e, f, g, z, ht, rfl, rfl, rfl, rfl, rfl, rfl, rfl, rfl, rfl, hq, hD⟩ := hrel
    by_cases hlt : t < 64
    · have HD := Lib.hid hD
      clear hD
      go_wp2_with fail
      refine (rot6 e wr).mono ?_
      rintro e0 w4 ⟨rfl, rfl⟩
      go_wp2_with fail
      refine (rot11 e wr).mono ?_
      rintro e0 w4 ⟨rfl, rfl⟩
      have hxor := r_xor
      have hand := r_and
      have hnot := r_not
      go_wp2_with fail
      refine (rot25 e wr).mono ?_
      rintro e0 w4 ⟨rfl, rfl⟩
      go_wp2
      clear hnot
      obtain ⟨kt, hkt⟩ : ∃ kt, nth kk t = kt := ⟨_, rfl⟩
      obtain ⟨wt, hwt⟩ : ∃ wt, nth ws t = wt := ⟨_, rfl⟩
      have ck := (HR.out.below HD.out.2.2.2 HR.out.pos) t hlt
      have cw := HD.out.word t (by rw [H64.out]; exact hlt)
      rw [hkt] at ck
      rw [hwt] at cw
      have HK := Lib.hid hkt
      have HW := Lib.hid hwt
      clear hkt hwt
      have tl : (t : Int) < 64 := by omega
      have hadd := r_add
      go_quiet (fail)
      have HD5 := Lib.hid (HD.out.drewN nq)
      clear HD ck cw hadd
      generalize wr.drewN nq = w5 at *
      obtain ⟨x, hx⟩ : ∃ x, wadd (wadd (wadd (wadd z (wxor (wxor (rotr e 6) (rotr e 11)) (rotr e 25))) (wxor (wand e f) (wand (wnot e) g))) kt) wt = x := ⟨_, rfl⟩
      simp only [r_add, hx]
      have HX := Lib.hid hx
      clear hx
      go_wp2_with fail
      refine (rot2 a w5).mono ?_
      rintro e0 w4 ⟨rfl, rfl⟩
      go_wp2_with fail
      refine (rot13 a w5).mono ?_
      rintro e0 w4 ⟨rfl, rfl⟩
      go_wp2_with fail
      refine (rot22 a w5).mono ?_
      rintro e0 w4 ⟨rfl, rfl⟩
      have hadd := r_add
      go_wp2
      go_roundw
      case rel => exact ⟨t + 1, _, a, b, c, _, e, f, g, by omega, by go_num, rfl, rfl, rfl, rfl, rfl, rfl, rfl, rfl, Lib.hid (rds_step _ _ _ _ _ _ _ _ _ _ _ _ _ hq.out (by rw [HK.out, HW.out]; exact HX.out.symm) rfl), HD5.out⟩
      case measure => simp [intOf]; omega
    · obtain rfl : t = 64 := by omega
      have HD := Lib.hid hD
      clear hD
      go_wp2_with (refine wpList_store_row rfl 44 _ _ rfl (w.heap.size + 1 + 1) (wv [a, b, c, d, e, f, g, z]) rfl rfl 44 (wv (List.replicate 8 0)) HD.out.2.2.1 (by rw [wv_size]; exact info8) (by rw [wv_size, wv_size]; rfl) (wv_one _) ?_)
      have hb : Below w.heap.size w (wr.setRow (w.heap.size + 1 + 1) (wv [a, b, c, d, e, f, g, z])) := below_setRow HD.out.2.2.2 (by omega)
      exact bodyPost_ret (v := .agg (wv [a, b, c, d, e, f, g, z])) (results_cell_row Tryd.results41 _ _ (w.heap.size + 1 + 1) 44 _ (0, 0) _ rfl (setRow_heap _ _ _ _ _ _ HD.out.2.2.1) Tryd.underlying44 rfl (by rw [wv_size]; exact info8)) rfl ⟨by rw [hq.out]; rfl, hb⟩
end Go.Proofs.YtbfpepiglcikbaaDoor.W
