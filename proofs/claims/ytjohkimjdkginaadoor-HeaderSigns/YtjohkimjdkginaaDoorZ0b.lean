/-
  Texts of one level, merged: SRounds, SBlock, ERef, CPut, SPad, SSum, CArr, MFill, MMask, SRef, SRefPad, EEq, COr, EPart, MSum, ERoots.
-/
import Derived.Deep.RegionHeld3
import Derived.StillTailTactics
import Derived.IntWalk
import Derived.Lib.LazyBuf
import Derived.Laws.StructEq
import Derived.KernelRfl
import Derived.Test.YtjohkimjdkginaaDoorRows
import Derived.Lib.LaidTab
import Derived.Test.YtjohkimjdkginaaDoorZ0a
/-
  sha.rounds: all rounds of a block.
-/
namespace Go.Proofs.YtjohkimjdkginaaDoor.W
open Go.RowKit

/-- this world holds sha's table of roots -/
def Roots (w : World) : Prop := ∀ i : Nat, i < 64 → w.cell? ⟨0, i, none⟩ = some (.int .u32 (nth kk i))
theorem Roots.below {w w' : World} {B : Nat} (h : Roots w) (hb : Below B w w') (hB : 0 < B) : Roots w' := fun i hi => (hb.cell (p := ⟨0, i, none⟩) hB).trans (h i hi)
theorem Roots.pos {w : World} (h : Roots w) : 0 < w.heap.size := World.block_lt_of_cell? w _ (h 0 (by omega))
theorem Roots.next {w w' : World} (h : Roots w) (hb : Below w.heap.size w w') : Roots w' := h.below hb h.pos

/-- the boxes of sha.rounds: the registers, the words, the result -/
def RoAt (hs ws : List Nat) (w wr : World) : Prop :=
  Blk wr w.heap.size 72 (wv hs) ∧ Blk wr (w.heap.size + 1) 79 (wv ws) ∧ Blk wr (w.heap.size + 1 + 1) 72 (wv (List.replicate 8 0)) ∧ Below w.heap.size w wr
theorem RoAt.start (hs ws : List Nat) (w : World) : RoAt hs ws w (((w.alloc (.cells (wv hs) 72)).alloc (.cells (wv ws) 79)).alloc (.cells (wv (List.replicate 8 0)) 72)) := by
  have e1 : (w.alloc (.cells (wv hs) 72)).heap.size = w.heap.size + 1 := by simp
  have e2 : ((w.alloc (.cells (wv hs) 72)).alloc (.cells (wv ws) 79)).heap.size = w.heap.size + 1 + 1 := by simp
  refine ⟨?_, ?_, ?_, ?_⟩
  · exact ((Blk.new w 72 (wv hs)).alloc _).alloc _
  · have h := Blk.new (w.alloc (.cells (wv hs) 72)) 79 (wv ws)
    rw [e1] at h
    exact h.alloc _
  · have h := Blk.new ((w.alloc (.cells (wv hs) 72)).alloc (.cells (wv ws) 79)) 72 (wv (List.replicate 8 0))
    rw [e2] at h
    exact h
  · exact (((Below.refl _ _).alloc (Nat.le_refl _) _).alloc (by simp) _).alloc (by simp; omega) _
theorem RoAt.drewN {hs ws : List Nat} {w wr : World} (h : RoAt hs ws w wr) (n : Nat) : RoAt hs ws w (wr.drewN n) := ⟨h.1, h.2.1, h.2.2.1, Below.drewN h.2.2.2 n⟩
theorem RoAt.reg {hs ws : List Nat} {w wr : World} (h : RoAt hs ws w wr) (i : Nat) (hi : i < hs.length) : wr.cell? ⟨w.heap.size, i, none⟩ = some (.int .u32 (nth hs i)) := by
  rw [h.1.cell i, wv_at _ _ hi]
theorem RoAt.word {hs ws : List Nat} {w wr : World} (h : RoAt hs ws w wr) (i : Nat) (hi : i < ws.length) : wr.cell? ⟨w.heap.size + 1, i, none⟩ = some (.int .u32 (nth ws i)) := by
  rw [h.2.1.cell i, wv_at _ _ hi]
theorem zero8 : (#[.int .u32 0, .int .u32 0, .int .u32 0, .int .u32 0, .int .u32 0, .int .u32 0, .int .u32 0, .int .u32 0] : Array Value) = wv (List.replicate 8 0) := rfl
theorem rds_step (ws : List Nat) (r : Reg) (t a b c d e f g h x y : Nat) (hq : rds ws r t = ⟨a, b, c, d, e, f, g, h⟩)
    (hx : x = wadd (wadd (wadd (wadd h (wxor (wxor (rotr e 6) (rotr e 11)) (rotr e 25))) (wxor (wand e f) (wand (wnot e) g))) (nth kk t)) (nth ws t))
    (hy : y = wadd (wxor (wxor (rotr a 2) (rotr a 13)) (rotr a 22)) (wxor (wxor (wand a b) (wand a c)) (wand b c))) :
    rds ws r (t + 1) = ⟨wadd x y, a, b, c, wadd d x, e, f, g⟩ := by
  show rnd (nth kk t) (nth ws t) (rds ws r t) = _
  rw [hq, hx, hy]
  rfl

set_option maxHeartbeats 8000000 in
set_option maxRecDepth 100000 in
theorem rounds (hs ws : List Nat) (w : World) (hr : Roots w) (h8 : hs.length = 8) (h64 : ws.length = 64) :
    Calls Tryd.prog 53 #[.agg (wv hs), .agg (wv ws)] w fun e w' => e = .returned (.agg (wv (rds ws (regOf hs) 64).list)) ∧ Below w.heap.size w w' := by
  obtain ⟨r, hr0⟩ : ∃ r, regOf hs = r := ⟨_, rfl⟩
  rw [hr0]
  obtain ⟨a0, a1, a2, a3, a4, a5, a6, a7⟩ := r
  have z0 : nth hs 0 = a0 := congrArg Reg.a hr0
  have z1 : nth hs 1 = a1 := congrArg Reg.b hr0
  have z2 : nth hs 2 = a2 := congrArg Reg.c hr0
  have z3 : nth hs 3 = a3 := congrArg Reg.d hr0
  have z4 : nth hs 4 = a4 := congrArg Reg.e hr0
  have z5 : nth hs 5 = a5 := congrArg Reg.f hr0
  have z6 : nth hs 6 = a6 := congrArg Reg.g hr0
  have z7 : nth hs 7 = a7 := congrArg Reg.h hr0
  have HZ := Lib.hid (And.intro z0 (And.intro z1 (And.intro z2 (And.intro z3 (And.intro z4 (And.intro z5 (And.intro z6 z7)))))))
  have H8 := Lib.hid h8
  have H64 := Lib.hid h64
  have HR := Lib.hid hr
  clear h8 h64 hr hr0 z0 z1 z2 z3 z4 z5 z6 z7
  go_enter Tryd.func53, Tryd.ntmps53
  go_wp2
  have HD := Lib.hid (RoAt.start hs ws w)
  rw [zero8]
  generalize ((w.alloc (Obj.cells (wv hs) 72)).alloc (Obj.cells (wv ws) 79)).alloc (Obj.cells (wv (List.replicate 8 0)) 72) = w1 at *
  have c0 := HD.out.reg 0 (by rw [H8.out]; omega)
  have c1 := HD.out.reg 1 (by rw [H8.out]; omega)
  have c2 := HD.out.reg 2 (by rw [H8.out]; omega)
  have c3 := HD.out.reg 3 (by rw [H8.out]; omega)
  rw [HZ.out.1] at c0
  rw [HZ.out.2.1] at c1
  rw [HZ.out.2.2.1] at c2
  rw [HZ.out.2.2.2.1] at c3
  go_quiet (fail)
  have HD2 := Lib.hid (HD.out.drewN nq)
  clear HD c0 c1 c2 c3
  generalize w1.drewN nq = w2 at *
  go_wp2
  have c4 := HD2.out.reg 4 (by rw [H8.out]; omega)
  have c5 := HD2.out.reg 5 (by rw [H8.out]; omega)
  have c6 := HD2.out.reg 6 (by rw [H8.out]; omega)
  have c7 := HD2.out.reg 7 (by rw [H8.out]; omega)
  rw [HZ.out.2.2.2.2.1] at c4
  rw [HZ.out.2.2.2.2.2.1] at c5
  rw [HZ.out.2.2.2.2.2.2.1] at c6
  rw [HZ.out.2.2.2.2.2.2.2] at c7
  go_quiet (fail)
  have HD3 := Lib.hid (HD2.out.drewN nq)
  clear HD2 c4 c5 c6 c7 HZ
  generalize w2.drewN _ = w3 at *
  go_wp2
  go_loopw [5, 6, 7, 8, 9, 10, 11, 12, 36] (fun s5 s6 s7 s8 s9 s10 s11 s12 i wr => ∃ t a b c d e f g z : Nat, t ≤ 64 ∧ i = .int .i64 t ∧ s5 = .int .u32 a ∧ s6 = .int .u32 b ∧ s7 = .int .u32 c ∧ s8 = .int .u32 d ∧ s9 = .int .u32 e ∧ s10 = .int .u32 f ∧ s11 = .int .u32 g ∧ s12 = .int .u32 z ∧ Hid (rds ws ⟨a0, a1, a2, a3, a4, a5, a6, a7⟩ t = ⟨a, b, c, d, e, f, g, z⟩) ∧ RoAt hs ws w wr) (fun _ _ _ _ _ _ _ _ i _ => 64 - (intOf i).toNat)
  case atStart => exact ⟨0, a0, a1, a2, a3, a4, a5, a6, a7, Nat.zero_le _, rfl, rfl, rfl, rfl, rfl, rfl, rfl, rfl, rfl, Lib.hid rfl, HD3.out⟩
  case round =>
    clear HD3
    obtain ⟨t, a, b, c, d, e, f, g, z, ht, rfl, rfl, rfl, rfl, rfl, rfl, rfl, rfl, rfl, hq, hD⟩ := hrel
    by_cases hlt : t < 64
    · have HD := Lib.hid hD
      clear hD
      go_wp2_with fail
      refine (rot6 e wr).mono ?_
      rintro e0 w4 ⟨rfl, rfl⟩
      go_wp2_with fail
      refine (rot11 e wr).mono ?_
      rintro e0 w4 ⟨rfl, rfl⟩
      have hxor := r_xor
      have hand := r_and
      have hnot := r_not
      go_wp2_with fail
      refine (rot25 e wr).mono ?_
      rintro e0 w4 ⟨rfl, rfl⟩
      go_wp2
      clear hnot
      obtain ⟨kt, hkt⟩ : ∃ kt, nth kk t = kt := ⟨_, rfl⟩
      obtain ⟨wt, hwt⟩ : ∃ wt, nth ws t = wt := ⟨_, rfl⟩
      have ck := (HR.out.below HD.out.2.2.2 HR.out.pos) t hlt
      have cw := HD.out.word t (by rw [H64.out]; exact hlt)
      rw [hkt] at ck
      rw [hwt] at cw
      have HK := Lib.hid hkt
      have HW := Lib.hid hwt
      clear hkt hwt
      have tl : (t : Int) < 64 := by omega
      have hadd := r_add
      go_quiet (fail)
      have HD5 := Lib.hid (HD.out.drewN nq)
      clear HD ck cw hadd
      generalize wr.drewN nq = w5 at *
      obtain ⟨x, hx⟩ : ∃ x, wadd (wadd (wadd (wadd z (wxor (wxor (rotr e 6) (rotr e 11)) (rotr e 25))) (wxor (wand e f) (wand (wnot e) g))) kt) wt = x := ⟨_, rfl⟩
      simp only [r_add, hx]
      have HX := Lib.hid hx
      clear hx
      go_wp2_with fail
      refine (rot2 a w5).mono ?_
      rintro e0 w4 ⟨rfl, rfl⟩
      go_wp2_with fail
      refine (rot13 a w5).mono ?_
      rintro e0 w4 ⟨rfl, rfl⟩
      go_wp2_with fail
      refine (rot22 a w5).mono ?_
      rintro e0 w4 ⟨rfl, rfl⟩
      have hadd := r_add
      go_wp2
      go_roundw
      case rel => exact ⟨t + 1, _, a, b, c, _, e, f, g, by omega, by go_num, rfl, rfl, rfl, rfl, rfl, rfl, rfl, rfl, Lib.hid (rds_step _ _ _ _ _ _ _ _ _ _ _ _ _ hq.out (by rw [HK.out, HW.out]; exact HX.out.symm) rfl), HD5.out⟩
      case measure => simp [intOf]; omega
    · obtain rfl : t = 64 := by omega
      have HD := Lib.hid hD
      clear hD
      go_wp2_with (refine wpList_store_row rfl 72 _ _ rfl (w.heap.size + 1 + 1) (wv [a, b, c, d, e, f, g, z]) rfl rfl 72 (wv (List.replicate 8 0)) HD.out.2.2.1 (by rw [wv_size]; exact info8) (by rw [wv_size, wv_size]; rfl) (wv_one _) ?_)
      have hb : Below w.heap.size w (wr.setRow (w.heap.size + 1 + 1) (wv [a, b, c, d, e, f, g, z])) := below_setRow HD.out.2.2.2 (by omega)
      exact bodyPost_ret (v := .agg (wv [a, b, c, d, e, f, g, z])) (results_cell_row Tryd.results53 _ _ (w.heap.size + 1 + 1) 72 _ (0, 0) _ rfl (setRow_heap _ _ _ _ _ _ HD.out.2.2.1) Tryd.underlying72 rfl (by rw [wv_size]; exact info8)) rfl ⟨by rw [hq.out]; rfl, hb⟩
end Go.Proofs.YtjohkimjdkginaaDoor.W
/-
  sha.Block: the registers behind a block.
-/
namespace Go.Proofs.YtjohkimjdkginaaDoor.W
open Go.RowKit

theorem Roots.alloc {w : World} (h : Roots w) (o : Obj) : Roots (w.alloc o) := h.next ((Below.refl _ _).alloc (Nat.le_refl _) o)
theorem Roots.drew {w : World} (h : Roots w) : Roots w.drew := h
theorem Roots.drewN {w : World} (h : Roots w) (n : Nat) : Roots (w.drewN n) := h

/-- the boxes of sha.Block -/
def BlAt (hs : List Nat) (w wr : World) : Prop :=
  Blk wr w.heap.size 72 (wv hs) ∧ Blk wr (w.heap.size + 1) 72 (wv (List.replicate 8 0)) ∧ Below w.heap.size w wr ∧ w.heap.size + 2 ≤ wr.heap.size
theorem BlAt.start (hs : List Nat) (w : World) : BlAt hs w ((w.alloc (.cells (wv hs) 72)).alloc (.cells (wv (List.replicate 8 0)) 72)) := by
  have e1 : (w.alloc (.cells (wv hs) 72)).heap.size = w.heap.size + 1 := by simp
  refine ⟨?_, ?_, ?_, ?_⟩
  · exact (Blk.new w 72 (wv hs)).alloc _
  · have h := Blk.new (w.alloc (.cells (wv hs) 72)) 72 (wv (List.replicate 8 0))
    rw [e1] at h
    exact h
  · exact ((Below.refl _ _).alloc (Nat.le_refl _) _).alloc (by simp) _
  · simp
theorem BlAt.next {hs : List Nat} {w wr w' : World} (h : BlAt hs w wr) (hb : Below wr.heap.size wr w') : BlAt hs w w' :=
  ⟨h.1.below hb h.1.lt, h.2.1.below hb h.2.1.lt, h.2.2.1.trans (hb.mono (by have := h.2.2.2; omega)), Nat.le_trans h.2.2.2 hb.size⟩
theorem BlAt.alloc {hs : List Nat} {w wr : World} (h : BlAt hs w wr) (o : Obj) : BlAt hs w (wr.alloc o) := h.next ((Below.refl _ _).alloc (Nat.le_refl _) o)
theorem BlAt.reg {hs : List Nat} {w wr : World} (h : BlAt hs w wr) (i : Nat) (hi : i < hs.length) : wr.cell? ⟨w.heap.size, i, none⟩ = some (.int .u32 (nth hs i)) := by
  rw [h.1.cell i, wv_at _ _ hi]

theorem BlAt.cells {a0 a1 a2 a3 a4 a5 a6 a7 : Nat} {w w' : World} (h : BlAt [a0, a1, a2, a3, a4, a5, a6, a7] w w') :
    w'.cell? ⟨w.heap.size, 0, none⟩ = some (.int .u32 a0) ∧ w'.cell? ⟨w.heap.size, 1, none⟩ = some (.int .u32 a1) ∧ w'.cell? ⟨w.heap.size, 2, none⟩ = some (.int .u32 a2) ∧ w'.cell? ⟨w.heap.size, 3, none⟩ = some (.int .u32 a3) ∧ w'.cell? ⟨w.heap.size, 4, none⟩ = some (.int .u32 a4) ∧ w'.cell? ⟨w.heap.size, 5, none⟩ = some (.int .u32 a5) ∧ w'.cell? ⟨w.heap.size, 6, none⟩ = some (.int .u32 a6) ∧ w'.cell? ⟨w.heap.size, 7, none⟩ = some (.int .u32 a7) :=
  ⟨h.reg 0 (by simp), h.reg 1 (by simp), h.reg 2 (by simp), h.reg 3 (by simp), h.reg 4 (by simp), h.reg 5 (by simp), h.reg 6 (by simp), h.reg 7 (by simp)⟩
theorem BlAt.drew {hs : List Nat} {w wr : World} (h : BlAt hs w wr) : BlAt hs w wr.drew := ⟨h.1, h.2.1, Below.drewN h.2.2.1 1, h.2.2.2⟩
theorem Blk.next {w w' : World} {g : Nat} {t : TypeId} {cs : Array Value} (h : Blk w g t cs) (hb : Below w.heap.size w w') : Blk w' g t cs := h.below hb h.lt
theorem Blk.setRow_far {w : World} {g k : Nat} {t : TypeId} {cs ds : Array Value} (h : Blk w g t cs) (hk : g ≠ k) : Blk (w.setRow k ds) g t cs := (setRow_other w k g ds hk).trans h
/-- behind the rounds: the working variables lie in block G -/
def FinAt (hs work : List Nat) (w : World) (G : Nat) (wr : World) : Prop := BlAt hs w wr ∧ Blk wr G 72 (wv work) ∧ w.heap.size + 2 ≤ G
theorem FinAt.start {hs work : List Nat} {w wr : World} {G : Nat} (h : BlAt hs w wr) (hG : Blk wr G 72 (wv (List.replicate 8 0))) (hge : w.heap.size + 2 ≤ G) : FinAt hs work w G (wr.setRow G (wv work)) :=
  ⟨⟨h.1.setRow_far (by omega), h.2.1.setRow_far (by omega), below_setRow h.2.2.1 (by omega), by simpa using h.2.2.2⟩, setRow_heap _ _ _ _ _ _ hG, hge⟩
theorem FinAt.last {hs work : List Nat} {w wr : World} (h : BlAt hs w wr) : FinAt hs work w wr.heap.size (wr.alloc (.cells (wv work) 72)) := ⟨h.alloc _, Blk.new _ _ _, h.2.2.2⟩
/-- eight zeros lie in block G -/
def Zero8 (W : World) (G : Nat) : Prop := Blk W G 72 (wv (List.replicate 8 0))
theorem store_old (work : List Nat) (hl : work.length = 8) (W : World) (G : Nat) (hG : Zero8 W G) :
    (storeCells ⟨G, 0, none⟩ (wv work).toList).run Tryd.prog W = .ok () (W.setRow G (wv work)) := by
  have h := run_storeCells_from (P := Tryd.prog) G 72 (wv work).toList 0 (wv (List.replicate 8 0)) W hG (by simp [wv, hl]) (fun v hv => (Array.all_eq_true_iff_forall_mem.1 (wv_one work)) v (by simpa using hv))
  simpa using h
theorem store_new (work : List Nat) (hl : work.length = 8) (W : World) :
    (storeCells ⟨W.heap.size, 0, none⟩ (wv work).toList).run Tryd.prog (W.alloc (.cells (wv (List.replicate 8 0)) 72)) = .ok () (W.alloc (.cells (wv work) 72)) := by
  rw [store_old work hl _ _ (Blk.new W 72 _), World.setRow_alloc_new]
theorem FinAt.put {hs work : List Nat} {w wr : World} {G i : Nat} (h : FinAt (addTo hs work i) work w G wr) : FinAt (addTo hs work (i + 1)) work w G (wr.setCell ⟨w.heap.size, i, none⟩ (.int .u32 (wadd (nth (addTo hs work i) i) (nth work i) : Nat))) := by
  obtain ⟨⟨h1, h2, h3, h4⟩, h5, h6⟩ := h
  refine ⟨⟨?_, h2.far (by simp) _, h3.setCell (by simp) _, by simpa [World.setCell] using h4⟩, h5.far (by simp; omega) _, h6⟩
  have := h1.set_ i (.int .u32 (wadd (nth (addTo hs work i) i) (nth work i) : Nat))
  rw [wv_set] at this
  exact this
theorem FinAt.drew {hs work : List Nat} {w wr : World} {G : Nat} (h : FinAt hs work w G wr) : FinAt hs work w G wr.drew := ⟨h.1.drew, h.2.1, h.2.2⟩

set_option maxHeartbeats 8000000 in
set_option maxRecDepth 100000 in
theorem block_this (a0 a1 a2 a3 a4 a5 a6 a7 : Nat) (s : ByteArray) (w : World) (hr : Roots w) (hs : s.size ≤ maxLen) (out : List Nat) (HO : Hid (blk [a0, a1, a2, a3, a4, a5, a6, a7] s.data.toList = out)) :
    Calls Tryd.prog 48 #[.agg (wv [a0, a1, a2, a3, a4, a5, a6, a7]), .string s] w fun e w' => e = .returned (.agg (wv out)) ∧ Below w.heap.size w w' := by
  have HR := Lib.hid (hr.alloc (.cells (wv [a0, a1, a2, a3, a4, a5, a6, a7]) 72) |>.alloc (.cells (wv (List.replicate 8 0)) 72))
  have HB := Lib.hid (BlAt.start [a0, a1, a2, a3, a4, a5, a6, a7] w)
  clear hr
  go_enter Tryd.func48, Tryd.ntmps48
  go_wp2
  rw [zero8]
  generalize (w.alloc (Obj.cells (wv [a0, a1, a2, a3, a4, a5, a6, a7]) 72)).alloc (Obj.cells (wv (List.replicate 8 0)) 72) = w1 at *
  have X0 := Lib.hid HB.out.drew
  have s1 := store_old (rds (arr s.data.toList 64) (regOf [a0, a1, a2, a3, a4, a5, a6, a7]) 64).list rfl
  have s2 := store_new (rds (arr s.data.toList 64) (regOf [a0, a1, a2, a3, a4, a5, a6, a7]) 64).list rfl
  rw [← zero8] at s2
  have c0 : w1.cell? ⟨w.heap.size, 0, none⟩ = some (.int .u32 a0) := HB.out.reg 0 (by simp)
  have c1 : w1.cell? ⟨w.heap.size, 1, none⟩ = some (.int .u32 a1) := HB.out.reg 1 (by simp)
  have c2 : w1.cell? ⟨w.heap.size, 2, none⟩ = some (.int .u32 a2) := HB.out.reg 2 (by simp)
  have c3 : w1.cell? ⟨w.heap.size, 3, none⟩ = some (.int .u32 a3) := HB.out.reg 3 (by simp)
  have c4 : w1.cell? ⟨w.heap.size, 4, none⟩ = some (.int .u32 a4) := HB.out.reg 4 (by simp)
  have c5 : w1.cell? ⟨w.heap.size, 5, none⟩ = some (.int .u32 a5) := HB.out.reg 5 (by simp)
  have c6 : w1.cell? ⟨w.heap.size, 6, none⟩ = some (.int .u32 a6) := HB.out.reg 6 (by simp)
  have c7 : w1.cell? ⟨w.heap.size, 7, none⟩ = some (.int .u32 a7) := HB.out.reg 7 (by simp)
  go_region_held3 (fun w' => w'.cell? ⟨w.heap.size, 0, none⟩ = some (.int .u32 a0) ∧ w'.cell? ⟨w.heap.size, 1, none⟩ = some (.int .u32 a1) ∧ w'.cell? ⟨w.heap.size, 2, none⟩ = some (.int .u32 a2) ∧ w'.cell? ⟨w.heap.size, 3, none⟩ = some (.int .u32 a3) ∧ w'.cell? ⟨w.heap.size, 4, none⟩ = some (.int .u32 a4) ∧ w'.cell? ⟨w.heap.size, 5, none⟩ = some (.int .u32 a5) ∧ w'.cell? ⟨w.heap.size, 6, none⟩ = some (.int .u32 a6) ∧ w'.cell? ⟨w.heap.size, 7, none⟩ = some (.int .u32 a7))
    (first
      | exact BlAt.cells (X0.out.next b4)
      | exact BlAt.cells ((X0.out.alloc _).next b4)
      | exact BlAt.cells ((X0.out.next b4).alloc _)
      | exact BlAt.cells ((X0.out.next b4).next b5)
      | exact BlAt.cells (((X0.out.alloc _).next b4).next b5)
      | exact BlAt.cells (((X0.out.next b4).alloc _).next b5)
      | exact BlAt.cells (((X0.out.next b4).next b5).alloc _)
      | exact BlAt.cells (((X0.out.next b4).next b5).alloc _)
      | exact BlAt.cells (FinAt.start (work := (rds (arr s.data.toList 64) (regOf [a0, a1, a2, a3, a4, a5, a6, a7]) 64).list) (((X0.out.alloc _).next b4).next b5) hz X0.out.2.2.2).1
      | exact BlAt.cells (FinAt.start (work := (rds (arr s.data.toList 64) (regOf [a0, a1, a2, a3, a4, a5, a6, a7]) 64).list) (((X0.out.next b4).alloc _).next b5) hz (X0.out.next b4).2.2.2).1
      | go_keep)
    (first
      | (go_at_call 54; refine (schedule s _ hs).mono ?_; rintro en w4 ⟨rfl, b4⟩)
      | (go_at_call 53; refine (rounds [a0, a1, a2, a3, a4, a5, a6, a7] (arr s.data.toList 64) _ (HR.out.drew.next b4) rfl (arr_len _ _)).mono ?_; rintro en w5 ⟨rfl, b5⟩)
      | (go_at_call 53; refine (rounds [a0, a1, a2, a3, a4, a5, a6, a7] (arr s.data.toList 64) _ ((HR.out.drew.alloc _).next b4) rfl (arr_len _ _)).mono ?_; rintro en w5 ⟨rfl, b5⟩; have hz : Zero8 w5 w1.heap.size := ((Blk.new w1.drew _ _).next b4).next b5)
      | (go_at_call 53; refine (rounds [a0, a1, a2, a3, a4, a5, a6, a7] (arr s.data.toList 64) _ ((HR.out.drew.next b4).alloc _) rfl (arr_len _ _)).mono ?_; rintro en w5 ⟨rfl, b5⟩; have hz : Zero8 w5 w4.heap.size := (Blk.new w4 _ _).next b5))
  have hF := Lib.hid (FinAt.last (work := (rds (arr s.data.toList 64) (regOf [a0, a1, a2, a3, a4, a5, a6, a7]) 64).list) ((X0.out.next b4).next b5))
  clear b4 b5 s1 s2 X0 HR HB c0 c1 c2 c3 c4 c5 c6 c7
  generalize w5.alloc (Obj.cells (wv (rds (arr s.data.toList 64) (regOf [a0, a1, a2, a3, a4, a5, a6, a7]) 64).list) 72) = w6 at *
  generalize w5.heap.size = G at *
  clear w5 w4 w1
  rotate_left
  have hF := Lib.hid (FinAt.start (work := (rds (arr s.data.toList 64) (regOf [a0, a1, a2, a3, a4, a5, a6, a7]) 64).list) (((X0.out.next b4).alloc _).next b5) hz (X0.out.next b4).2.2.2)
  clear hz b4 b5 s1 s2 X0 HR HB c0 c1 c2 c3 c4 c5 c6 c7
  generalize w5.setRow w4.heap.size (wv (rds (arr s.data.toList 64) (regOf [a0, a1, a2, a3, a4, a5, a6, a7]) 64).list) = w6 at *
  generalize w4.heap.size = G at *
  clear w5 w4 w1
  rotate_left
  have hF := Lib.hid (show FinAt [a0, a1, a2, a3, a4, a5, a6, a7] _ w w1.heap.size _ from FinAt.start (work := (rds (arr s.data.toList 64) (regOf [a0, a1, a2, a3, a4, a5, a6, a7]) 64).list) (((X0.out.alloc _).next b4).next b5) hz X0.out.2.2.2)
  clear hz b4 b5 s1 s2 X0 HR HB c0 c1 c2 c3 c4 c5 c6 c7
  generalize w5.setRow w1.heap.size (wv (rds (arr s.data.toList 64) (regOf [a0, a1, a2, a3, a4, a5, a6, a7]) 64).list) = w6 at *
  generalize w1.heap.size = G at *
  clear w5 w4 w1
  rotate_left
  all_goals
    obtain ⟨work, hwork⟩ : ∃ work, (rds (arr s.data.toList 64) (regOf [a0, a1, a2, a3, a4, a5, a6, a7]) 64).list = work := ⟨_, rfl⟩
    have HL := Lib.hid (show work.length = 8 by rw [← hwork]; rfl)
    have HO2 := Lib.hid (show addTo [a0, a1, a2, a3, a4, a5, a6, a7] work 8 = out by rw [← hwork]; exact HO.out)
    rw [hwork] at hF
    simp only [hwork]
    clear hwork HO
    go_wp2
    go_loopw [11] (fun i wr => ∃ k : Nat, k ≤ 8 ∧ i = .int .i64 k ∧ FinAt (addTo [a0, a1, a2, a3, a4, a5, a6, a7] work k) work w G wr) (fun i _ => 8 - (intOf i).toNat)
    case atStart => exact ⟨0, Nat.zero_le _, rfl, hF.out⟩
    case round =>
      clear hF
      obtain ⟨k, hk, rfl, hF⟩ := hrel
      by_cases hlt : k < 8
      · have c1 := hF.1.reg k (by rw [addTo_len]; exact hlt)
        have c2 : wr.cell? ⟨G, k, none⟩ = some (.int .u32 (nth work k)) := by rw [hF.2.1.cell k, wv_at _ _ (by rw [HL.out]; exact hlt)]
        have f1 : wr.frozen? ⟨w.heap.size, k, none⟩ = false := hF.1.1.frozen k
        have HF2 := Lib.hid hF.put.drew
        obtain ⟨x, hx⟩ : ∃ x, nth (addTo [a0, a1, a2, a3, a4, a5, a6, a7] work k) k = x := ⟨_, rfl⟩
        obtain ⟨y, hy⟩ : ∃ y, nth work k = y := ⟨_, rfl⟩
        rw [hx] at c1
        rw [hy] at c2
        rw [hx, hy] at HF2
        have hl8 : (k : Int) < 8 := by omega
        have hadd := r_add
        clear hF hx hy
        go_wp2
        go_region
        clear c1 c2 f1 hadd
        generalize World.drew _ = w7 at *
        go_wp2
        go_roundw
        case rel => exact ⟨k + 1, by omega, by go_num, HF2.out⟩
        case measure => simp [intOf]; omega
      · obtain rfl : k = 8 := by omega
        rw [HO2.out] at hF
        have HQ := Lib.hid (show out.length = 8 by rw [← HO2.out, addTo_len]; rfl)
        have HF := Lib.hid hF
        clear hF
        go_wp2_with (first
          | (refine wpList_load_row rfl 72 _ rfl w.heap.size rfl 72 _ (0, 0) _ HF.out.1.1 Tryd.underlying72 rfl (by rw [wv_size, HQ.out]; exact info8) ?_)
          | (refine wpList_store_row rfl 72 _ _ rfl (w.heap.size + 1) (wv out) rfl rfl 72 (wv (List.replicate 8 0)) HF.out.1.2.1 (by rw [wv_size, HQ.out]; exact info8) (by rw [wv_size, wv_size, HQ.out]; rfl) (wv_one _) ?_))
        have hb : Below w.heap.size w (wr.setRow (w.heap.size + 1) (wv out)) := below_setRow HF.out.1.2.2.1 (by omega)
        exact bodyPost_ret (v := .agg (wv out)) (results_cell_row Tryd.results48 _ _ (w.heap.size + 1) 72 _ (0, 0) _ rfl (setRow_heap _ _ _ _ _ _ HF.out.1.2.1) Tryd.underlying72 rfl (by rw [wv_size, HQ.out]; exact info8)) rfl ⟨rfl, hb⟩

theorem block (hs : List Nat) (s : ByteArray) (w : World) (hr : Roots w) (hz : s.size ≤ maxLen) (h8 : hs.length = 8) :
    Calls Tryd.prog 48 #[.agg (wv hs), .string s] w fun e w' => e = .returned (.agg (wv (blk hs s.data.toList))) ∧ Below w.heap.size w w' := by
  match hs, h8 with
  | [a0, a1, a2, a3, a4, a5, a6, a7], _ => exact block_this a0 a1 a2 a3 a4 a5 a6 a7 s w hr hz _ (Lib.hid rfl)
end Go.Proofs.YtjohkimjdkginaaDoor.W
/-
  The reference's text, num, Body and Put of headers.
-/
namespace Go.Proofs.YtjohkimjdkginaaDoor.W
open Go.RowKit

theorem enc_cases (x : ByteArray) : (encText x).2 = 0 ∨ (encText x).2 = 4 := by
  unfold encText
  split
  · exact .inl rfl
  · exact .inr rfl
set_option maxHeartbeats 1000000 in
set_option maxRecDepth 100000 in
theorem rhText_this (s t : List UInt8) (f : Int) (x : ByteArray) (w : World) (hf : f = 0 ∨ f = 4) (hs : s.length ≤ 1000000000) (ht : t.length ≤ 100000)
    (K : Hid (∀ W, Calls Tryd.prog 34 #[.string x] W fun e w' => e = .returned (.tuple #[.string (bs t), .int .i64 f]) ∧ Below W.heap.size W w')) :
    Calls Tryd.prog 20 #[.string (bs s), .int .i64 0, .string x] w fun en w' => en = .returned (retSE (radd (s, 0) (t, f))) ∧ Below w.heap.size w w' := by
  rcases hf with rfl | rfl
  · have hr : radd (s, 0) (t, 0) = (s ++ t, 0) := by simp [radd]
    have a1 : ∀ W, (Op.stringOp .add (bs s) (bs t)).run Tryd.prog W = .ok (.string (bs (s ++ t))) W := fun W => run_add W s t (by omega)
    rw [hr]
    unfold retSE
    clear hr hs ht
    go_enter Tryd.func20, Tryd.ntmps20
    go_wp2_with fail
    refine (K.out _).mono ?_
    rintro en w1 ⟨rfl, b1⟩
    go_wp2
    go_ret2
    exact ⟨rfl, b1⟩
  · have hr : radd (s, 0) (t, 4) = ([], 4) := by simp [radd]
    rw [hr]
    unfold retSE
    clear hr hs ht
    go_enter Tryd.func20, Tryd.ntmps20
    go_wp2_with fail
    refine (K.out _).mono ?_
    rintro en w1 ⟨rfl, b1⟩
    go_wp2
    go_ret2
    exact ⟨rfl, b1⟩
theorem rhText (s : List UInt8) (x : ByteArray) (w : World) (hs : s.length ≤ 1000000000) :
    Calls Tryd.prog 20 #[.string (bs s), .int .i64 0, .string x] w fun en w' => en = .returned (retSE (radd (s, 0) (encText x))) ∧ Since w w' :=
  (rhText_this s (encText x).1 (encText x).2 x w (enc_cases x) hs (by have := encText_len x; omega) (Lib.hid fun W => rText x W)).mono fun e w' ⟨he, hb⟩ => ⟨he, since_of hb⟩
set_option maxHeartbeats 1000000 in
set_option maxRecDepth 100000 in
theorem rhNum_this (s t : List UInt8) (e f : Int) (x : Int) (w : World) (hs : s.length ≤ 1000000000) (ht : t.length ≤ 100000)
    (K : Hid (∀ W, Calls Tryd.prog 41 #[.int .i64 x] W fun e w' => e = .returned (.tuple #[.string (bs t), .int .i64 f]) ∧ Below W.heap.size W w')) :
    Calls Tryd.prog 29 #[.string (bs s), .int .i64 e, .int .i64 x] w fun en w' => en = .returned (retSE (radd (s, e) (t, f))) ∧ Below w.heap.size w w' := by
  by_cases he : e = 0
  · subst he
    by_cases hf : f = 0
    · subst hf
      have hr : radd (s, 0) (t, 0) = (s ++ t, 0) := by simp [radd]
      have a1 : ∀ W, (Op.stringOp .add (bs s) (bs t)).run Tryd.prog W = .ok (.string (bs (s ++ t))) W := fun W => run_add W s t (by omega)
      rw [hr]
      unfold retSE
      clear hr hs ht
      go_enter Tryd.func29, Tryd.ntmps29
      go_wp2_with fail
      refine (K.out _).mono ?_
      rintro en w1 ⟨rfl, b1⟩
      go_wp2
      go_ret2
      exact ⟨rfl, b1⟩
    · have hr : radd (s, 0) (t, f) = ([], f) := by simp [radd, hf]
      have hfn : (f != 0) = true := by rw [bne_iff_ne]; exact hf
      rw [hr]
      unfold retSE
      clear hr hs ht hf
      go_enter Tryd.func29, Tryd.ntmps29
      go_wp2_with fail
      refine (K.out _).mono ?_
      rintro en w1 ⟨rfl, b1⟩
      go_wp2
      go_ret2
      exact ⟨rfl, b1⟩
  · have hr : radd (s, e) (t, f) = ([], e) := by simp [radd, he]
    have hen : (e != 0) = true := by rw [bne_iff_ne]; exact he
    rw [hr]
    unfold retSE
    clear hr hs ht he
    go_enter Tryd.func29, Tryd.ntmps29
    go_wp2_with fail
    refine (K.out _).mono ?_
    rintro en w1 ⟨rfl, b1⟩
    go_wp2
    go_ret2
    exact ⟨rfl, b1⟩
theorem rhNum (st : List UInt8 × Int) (x : Int) (w : World) (hs : st.1.length ≤ 1000000000) :
    Calls Tryd.prog 29 #[.string (bs st.1), .int .i64 st.2, .int .i64 x] w fun en w' => en = .returned (retSE (radd st (encNum x))) ∧ Since w w' :=
  (rhNum_this st.1 (encNum x).1 st.2 (encNum x).2 x w hs (by have := encNum_len x; omega) (Lib.hid fun W => rNum x W)).mono fun e w' ⟨he, hb⟩ => ⟨he, since_of hb⟩

set_option maxHeartbeats 2000000 in
set_option maxRecDepth 100000 in
theorem rBody (h : Hdr) (w : World) : Calls Tryd.prog 15 #[hdV h] w fun e w' => e = .returned (retSE (bodyOf h)) ∧ Since w w' := by
  obtain ⟨chain, height, time, root, mac⟩ := h
  have HB := Lib.hid (Blk.new w 23 #[.string chain, .int .i64 height, .int .i64 time, .string root, .string mac])
  have HS := Lib.hid (show Since w (w.alloc (.cells #[.string chain, .int .i64 height, .int .i64 time, .string root, .string mac] 23)) from since_of ((Below.refl _ w).alloc (Nat.le_refl _) _))
  have K1 := Lib.hid (fun W => rhText [] chain W (by simp))
  have l1 := radd_len ([], 0) (encText chain)
  have t1 := encText_len chain
  unfold bodyOf
  simp only [List.length_nil] at l1 ⊢
  obtain ⟨s1, e1⟩ : ∃ s, s = radd ([], 0) (encText chain) := ⟨_, rfl⟩
  rw [← e1] at K1 l1 ⊢
  have K2 := Lib.hid (fun W => rhNum s1 height W (by omega))
  have l2 := radd_len s1 (encNum height)
  have t2 := encNum_len height
  obtain ⟨s2, e2⟩ : ∃ s, s = radd s1 (encNum height) := ⟨_, rfl⟩
  rw [← e2] at K2 l2 ⊢
  have K3 := Lib.hid (fun W => rhNum s2 time W (by omega))
  have l3 := radd_len s2 (encNum time)
  have t3 := encNum_len time
  obtain ⟨⟨a3, f3⟩, e3⟩ : ∃ s, s = radd s2 (encNum time) := ⟨_, rfl⟩
  rw [← e3] at K3 l3 ⊢
  have HL := Lib.hid (show a3.length ≤ 1000000 by simp only at l3; omega)
  have K4 := Lib.hid (fun W => rhText a3 root W (by have := HL.out; omega))
  obtain ⟨z, ez⟩ : ∃ s, s = radd (a3, f3) (encText root) := ⟨_, rfl⟩
  rw [← ez]
  unfold retSE at K1 K2 K3 K4 ⊢
  unfold hdV
  clear l1 l2 l3 t1 t2 t3 e1 e2 e3 HL
  go_enter Tryd.func15, Tryd.ntmps15
  go_wp2_with fail
  refine (K1.out _).mono ?_
  rintro e w1 ⟨rfl, q1⟩
  have S1 := Lib.hid (show Since w w1 from since_of (step_below HS.out.below q1.below))
  have X1 := HB.out.next q1.below
  have y1 : w1.cell? ⟨w.heap.size, 1, none⟩ = some (.int .i64 height) := X1.cell 1
  clear HB HS q1 K1
  go_wp2_with fail
  refine (K2.out _).mono ?_
  rintro e w2 ⟨rfl, q2⟩
  have S2 := Lib.hid (show Since w w2 from since_of (step_below S1.out.below q2.below))
  have X2 := X1.next q2.below
  have y2 : w2.cell? ⟨w.heap.size, 2, none⟩ = some (.int .i64 time) := X2.cell 2
  clear q2 K2 S1 X1 y1
  go_wp2_with fail
  refine (K3.out _).mono ?_
  rintro e w3 ⟨rfl, q3⟩
  have S3 := Lib.hid (show Since w w3 from since_of (step_below S2.out.below q3.below))
  have X3 := X2.next q3.below
  have y3 : w3.cell? ⟨w.heap.size, 3, none⟩ = some (.string root) := X3.cell 3
  clear q3 K3 S2 X2 y2 X3
  by_cases he : f3 = 0
  · subst he
    go_wp2_with fail
    refine (K4.out _).mono ?_
    rintro e w4 ⟨rfl, q4⟩
    have R := Lib.hid (show Since w w4 from since_of (step_below S3.out.below q4.below))
    rw [← ez]
    clear q4 K4 S3 y3 ez
    go_wp2
    go_ret2
    exact ⟨rfl, R.out⟩
  · have hen : (f3 != 0) = true := by rw [bne_iff_ne]; exact he
    rw [radd_bad (s := (a3, f3)) (p := encText root) he] at ez
    subst ez
    clear he K4
    go_wp2
    go_ret2
    exact ⟨rfl, S3.out⟩
set_option maxHeartbeats 2000000 in
set_option maxRecDepth 100000 in
theorem rHPut (h : Hdr) (w : World) : Calls Tryd.prog 8 #[hdV h] w fun e w' => e = .returned (retSE (encHd h)) ∧ Since w w' := by
  have K1 := Lib.hid (fun W => rBody h W)
  have hl := body_len h
  unfold encHd
  obtain ⟨⟨a3, f3⟩, e3⟩ : ∃ s, s = bodyOf h := ⟨_, rfl⟩
  rw [← e3] at K1 hl ⊢
  obtain ⟨chain, height, time, root, mac⟩ := h
  have HB := Lib.hid (Blk.new w 23 #[.string chain, .int .i64 height, .int .i64 time, .string root, .string mac])
  have HS := Lib.hid (show Since w (w.alloc (.cells #[.string chain, .int .i64 height, .int .i64 time, .string root, .string mac] 23)) from since_of ((Below.refl _ w).alloc (Nat.le_refl _) _))
  have K4 := Lib.hid (fun W => rhText a3 mac W (by simp only at hl; omega))
  obtain ⟨z, ez⟩ : ∃ s, s = radd (a3, f3) (encText mac) := ⟨_, rfl⟩
  rw [← ez]
  have y0 := HB.out.cell 0
  have y1 := HB.out.cell 1
  have y2 := HB.out.cell 2
  have y3 := HB.out.cell 3
  have y4 := HB.out.cell 4
  simp only [List.getElem?_toArray, List.getElem?_cons_zero, List.getElem?_cons_succ] at y0 y1 y2 y3 y4
  unfold retSE hdV at *
  clear hl e3
  go_enter Tryd.func8, Tryd.ntmps8
  go_wp2_with fail
  refine (K1.out _).mono ?_
  rintro e w1 ⟨rfl, q1⟩
  have S1 := Lib.hid (show Since w w1 from since_of (step_below HS.out.below q1.below))
  have X1 := HB.out.next q1.below
  clear y0 y1 y2 y3 y4 HB HS q1 K1
  have y4 : w1.cell? ⟨w.heap.size, 4, none⟩ = some (.string mac) := X1.cell 4
  by_cases he : f3 = 0
  · subst he
    go_wp2_with fail
    refine (K4.out _).mono ?_
    rintro e w4 ⟨rfl, q4⟩
    have R := Lib.hid (show Since w w4 from since_of (step_below S1.out.below q4.below))
    rw [← ez]
    clear q4 K4 S1 y4 X1 ez
    go_wp2
    go_ret2
    exact ⟨rfl, R.out⟩
  · have hen : (f3 != 0) = true := by rw [bne_iff_ne]; exact he
    rw [radd_bad (s := (a3, f3)) (p := encText mac) he] at ez
    subst ez
    clear he K4
    go_wp2
    go_ret2
    exact ⟨rfl, S1.out⟩
end Go.Proofs.YtjohkimjdkginaaDoor.W
/-
  Five cells of a box, put one behind the other. No program is named here.
-/
namespace Go.Proofs.YtjohkimjdkginaaDoor.W
open Go.RowKit

theorem put5 {W : World} {b : Nat} {t : TypeId} {a0 a1 a2 a3 a4 : Value} (h : Blk W b t #[a0, a1, a2, a3, a4]) (v0 v1 v2 v3 v4 : Value) :
    Blk (((((W.setCell ⟨b, 0, none⟩ v0).setCell ⟨b, 1, none⟩ v1).setCell ⟨b, 2, none⟩ v2).setCell ⟨b, 3, none⟩ v3).setCell ⟨b, 4, none⟩ v4) b t #[v0, v1, v2, v3, v4] :=
  ((((h.set_ 0 v0).set_ 1 v1).set_ 2 v2).set_ 3 v3).set_ 4 v4
theorem since_put {w W : World} (h : Since w W) {p : Addr} (hb : w.heap.size ≤ p.block) (v : Value) : Since w (W.setCell p v) := since_of (h.below.setCell hb v)
theorem since_put5 {w W : World} {b : Nat} (h : Since w W) (hb : w.heap.size ≤ b) (v0 v1 v2 v3 v4 : Value) :
    Since w (((((W.setCell ⟨b, 0, none⟩ v0).setCell ⟨b, 1, none⟩ v1).setCell ⟨b, 2, none⟩ v2).setCell ⟨b, 3, none⟩ v3).setCell ⟨b, 4, none⟩ v4) :=
  since_put (since_put (since_put (since_put (since_put h (p := ⟨b, 0, none⟩) hb v0) (p := ⟨b, 1, none⟩) hb v1) (p := ⟨b, 2, none⟩) hb v2) (p := ⟨b, 3, none⟩) hb v3) (p := ⟨b, 4, none⟩) hb v4
theorem heap_put5 (W : World) {b g : Nat} (hg : g ≠ b) (v0 v1 v2 v3 v4 : Value) :
    (((((W.setCell ⟨b, 0, none⟩ v0).setCell ⟨b, 1, none⟩ v1).setCell ⟨b, 2, none⟩ v2).setCell ⟨b, 3, none⟩ v3).setCell ⟨b, 4, none⟩ v4).heap[g]? = W.heap[g]? :=
  ((((Below.heap_setCell _ ⟨b, 4, none⟩ v4 g hg).trans (Below.heap_setCell _ ⟨b, 3, none⟩ v3 g hg)).trans (Below.heap_setCell _ ⟨b, 2, none⟩ v2 g hg)).trans (Below.heap_setCell _ ⟨b, 1, none⟩ v1 g hg)).trans (Below.heap_setCell _ ⟨b, 0, none⟩ v0 g hg)
theorem blk_put5 {W : World} {b g : Nat} {t : TypeId} {cs : Array Value} (h : Blk W g t cs) (hg : g ≠ b) (v0 v1 v2 v3 v4 : Value) :
    Blk (((((W.setCell ⟨b, 0, none⟩ v0).setCell ⟨b, 1, none⟩ v1).setCell ⟨b, 2, none⟩ v2).setCell ⟨b, 3, none⟩ v3).setCell ⟨b, 4, none⟩ v4) g t cs := (heap_put5 W hg v0 v1 v2 v3 v4).trans h
theorem Blk.c {W : World} {b : Nat} {t : TypeId} {cs : Array Value} (h : Blk W b t cs) (i : Nat) {v : Value} (e : cs[i]? = some v) : W.cell? ⟨b, i, none⟩ = some v := (h.cell i).trans e
end Go.Proofs.YtjohkimjdkginaaDoor.W
/-
  sha.Pad: what a message of so many bytes is padded with.
-/
namespace Go.Proofs.YtjohkimjdkginaaDoor.W
open Go.RowKit

theorem made_eq (n : Nat) : (madeCells (Value.int .u8 0).cells n).toList = cells (List.replicate n 0) := by
  apply List.ext_getElem?
  intro i
  simp only [madeCells, cells, Array.getElem?_toList, Array.getElem?_map, List.getElem?_map, List.getElem?_replicate, Array.getElem?_range]
  split
  · simp [Value.cells, Nat.mod_one]
  · rfl
/-- 'make([]byte, z+1, z+9)', its first byte then 128 -/
theorem OwnBuf_pad (z : Nat) (hz : z < 64) (w : World) :
    Lib.OwnBuf w.heap.size 5 (.slice (some ⟨w.heap.size, 0, none⟩) (z + 1) (z + 9)) (z + 1) (cells (128 :: List.replicate z 0)) w (w.alloc (.cells ((madeCells (Value.int .u8 0).cells (z + 9)).setIfInBounds 0 (.int .u8 128)) 5)) := by
  have hB : Blk (w.alloc (.cells ((madeCells (Value.int .u8 0).cells (z + 9)).setIfInBounds 0 (.int .u8 128)) 5)) w.heap.size 5 ((madeCells (Value.int .u8 0).cells (z + 9)).setIfInBounds 0 (.int .u8 128)) := Blk.new _ _ _
  refine ⟨⟨by simp [cells], .inr ⟨w.heap.size, z + 9, _, (0, 0), rfl, Nat.le_refl _, hB, Nat.zero_le _, by omega, by unfold maxLen; omega, by simp [size_madeCells], ?_⟩⟩, (Below.refl _ _).alloc (Nat.le_refl _) _, by simp⟩
  rw [Array.toList_setIfInBounds, made_eq, Nat.mul_one]
  show Value.int .u8 128 :: (cells (List.replicate (z + 8) 0)).take z = Value.int .u8 128 :: cells (List.replicate z 0)
  unfold cells
  rw [← List.map_take, List.take_replicate, Nat.min_eq_left (by omega)]
theorem made_cell (n : Nat) (hn : 0 < n) : (madeCells (Value.int .u8 0).cells n)[0]? = some (.int .u8 0) := by
  rw [← Array.getElem?_toList, made_eq]
  obtain ⟨m, rfl⟩ : ∃ m, n = m + 1 := ⟨n - 1, by omega⟩
  rfl

theorem pad_neg (n : Int) (hn : n < 0) (w : World) :
    Calls Tryd.prog 47 #[.int .i64 n] w fun e w' => e = .returned (.string (bs [])) ∧ w = w' := by
  go_enter Tryd.func47, Tryd.ntmps47
  go_wp2
  go_ret
  exact ⟨rfl, rfl⟩

theorem pad_len (z m k : Nat) : ((128 : UInt8) :: (List.replicate z 0 ++ by8 m k)).length = z + 1 + k := by
  simp [by8_len]
  omega
theorem pad_more (z m k c : Nat) (hc : m / 2 ^ (56 - 8 * k) % 256 = c) : cells (128 :: (List.replicate z 0 ++ by8 m (k + 1))) = cells (128 :: (List.replicate z 0 ++ by8 m k)) ++ [.int .u8 c] := by
  have e : (UInt8.ofNat (m / 2 ^ (56 - 8 * k) % 256)).toNat = c := by rw [W.toNat_ofNat (Nat.mod_lt _ (by decide)), hc]
  show cells (128 :: (List.replicate z 0 ++ (by8 m k ++ [UInt8.ofNat (m / 2 ^ (56 - 8 * k) % 256)]))) = _
  generalize UInt8.ofNat (m / 2 ^ (56 - 8 * k) % 256) = b at *
  simp [cells, e]
theorem pad_step {B z m k c : Nat} {v : Value} {W0 w : World} (hc : m / 2 ^ (56 - 8 * k) % 256 = c) (h : Lib.OwnBuf B 5 v (z + 1 + k + 1) (cells (128 :: (List.replicate z 0 ++ by8 m k)) ++ [.int .u8 c]) W0 w) :
    Lib.OwnBuf B 5 v (z + 1 + (k + 1)) (cells (128 :: (List.replicate z 0 ++ by8 m (k + 1)))) W0 w := by
  rw [pad_more z m k c hc]
  exact h

set_option maxHeartbeats 4000000 in
set_option maxRecDepth 100000 in
theorem pad_this (n m z : Nat) (hn : n ≤ 9223372036854775807) (HZ : Hid (zs n = z)) (HM : Hid (n * 8 % 18446744073709551616 = m)) (w : World) :
    Calls Tryd.prog 47 #[.int .i64 n] w fun e w' => e = .returned (.string (bs (128 :: List.replicate z 0 ++ by8 m 8))) ∧ Below w.heap.size w w' := by
  have hz : z < 64 := by rw [← HZ.out]; exact zs_lt n
  have ez : ((119 : Int) - (n : Int) % 64) % 64 = (z : Int) := by rw [← HZ.out]; unfold zs; omega
  obtain ⟨i0, hi, hz0, hz1, hz2⟩ := info_parts infoU8
  have hmk : ∀ W : World, (Instr.makeSlice 57 (.int .i64 (1 + (z : Int))) (.int .i64 (1 + (z : Int) + 8))).run Tryd.prog W = .ok (.slice (some ⟨W.heap.size, 0, none⟩) (z + 1) (z + 9)) (W.alloc (.cells (madeCells (Value.int .u8 0).cells (z + 9)) 5)) := fun W => by
    have hr := run_make (P := Tryd.prog) W 57 5 i0 _ Tryd.underlying57 hi hz0 .i64 .i64 (1 + (z : Int)) (1 + (z : Int) + 8) (by omega) (by omega) (by rw [hz2]; omega) (by omega)
    rw [hz1, show (1 + (z : Int)).toNat = z + 1 by omega, show (1 + (z : Int) + 8).toNat = z + 9 by omega, Nat.mul_one] at hr
    exact hr
  have hc := made_cell (z + 9) (by omega)
  have hO := OwnBuf_pad z hz w
  generalize madeCells (Value.int .u8 0).cells (z + 9) = M at *
  have HO := Lib.hid hO
  clear hO
  have eM : IntKind.u64.wrap ((n : Int) * 8) = (m : Int) := by rw [IntKind.wrap_u64, ← HM.out]; omega
  go_enter Tryd.func47, Tryd.ntmps47
  go_wp2
  simp only [ez]
  clear ez eM hmk hc
  go_loopw [4, 24] (fun v i wr => ∃ k : Nat, k ≤ 8 ∧ i = .int .i64 k ∧ Lib.OwnBuf w.heap.size 5 v (z + 1 + k) (cells (128 :: List.replicate z 0 ++ by8 m k)) w wr) (fun _ i _ => 8 - (intOf i).toNat)
  case atStart => exact ⟨0, Nat.zero_le _, rfl, by simpa [by8] using HO.out⟩
  case round =>
    clear HO
    obtain ⟨k, hk, rfl, hown⟩ := hrel
    by_cases hlt : k < 8
    · have n1 : ((56 : Int) - 8 * (k : Int)).toNat = 56 - 8 * k := by omega
      have p1 : 0 ≤ (56 : Int) - 8 * (k : Int) := by omega
      have q1 : (56 : Int) - 8 * (k : Int) ≤ 64 := by omega
      obtain ⟨c, hc⟩ : ∃ c, m / 2 ^ (56 - 8 * k) % 256 = c := ⟨_, rfl⟩
      have ec : (m : Int) / 2 ^ (56 - 8 * k) % 256 = (c : Int) := by
        rw [← hc, Int.natCast_emod, Int.natCast_ediv, Int.natCast_pow]
        rfl
      have HC := Lib.hid hc
      clear hc
      go_wp2_with (at_builtin; go_must (refine Lib.wpList_append_byte rfl _ _ 57 rfl w.heap.size 5 i0 Tryd.underlying57 hi hz0 hz1 hz2 u4 (z + 1 + k) _ rfl w wr _ hown rfl (by omega) ?_))
      intro v2 w2 h2
      have R := pad_step HC.out h2
      clear h2 hown ec n1 p1 q1
      go_wp2
      go_roundw
      case rel => exact ⟨k + 1, by omega, by go_num, R⟩
      case measure => simp [intOf]; omega
    · obtain rfl : k = 8 := by omega
      have hst := run_string w.heap.size u4 (128 :: (List.replicate z 0 ++ by8 m 8)) w wr (by
        have := hown
        rw [pad_len]
        exact this)
      go_wp2
      go_ret
      exact ⟨rfl, hown.2.1⟩

theorem pad (n : Nat) (hn : n ≤ 9223372036854775807) (w : World) :
    Calls Tryd.prog 47 #[.int .i64 n] w fun e w' => e = .returned (.string (bs (padOf n))) ∧ Below w.heap.size w w' :=
  pad_this n _ _ hn (Lib.hid rfl) (Lib.hid rfl) w
theorem padAny (n : Int) (hn : n ≤ 9223372036854775807) (w : World) :
    Calls Tryd.prog 47 #[.int .i64 n] w fun e w' => e = .returned (.string (bs (padI n))) ∧ Below w.heap.size w w' := by
  unfold padI
  by_cases h : n < 0
  · rw [if_pos h]
    refine (pad_neg n h w).mono ?_
    rintro e w' ⟨rfl, rfl⟩
    exact ⟨rfl, Below.refl _ _⟩
  · rw [if_neg h]
    have e : n = (n.toNat : Int) := by omega
    have k := pad n.toNat (by omega) w
    rw [← e] at k
    exact k
end Go.Proofs.YtjohkimjdkginaaDoor.W
/-
  sha.Sum: the hash of a string.
-/
namespace Go.Proofs.YtjohkimjdkginaaDoor.W
open Go.RowKit

/-- 'buf = append(buf, a, b, c, d)' -/
theorem wpList_append_four {P : Program} {ops : Array Oper} {rest : List Oper} {o : Oper} {a : Act} {Q : Exit → Act → World → Prop} (hgd : o.guard = none) (s x : Operand) (t : TypeId)
    (ho : o.op = .call { callee := .builtin .append, args := #[s, x], argTypes := #[t, t] })
    (B : Nat) (e : TypeId) (i : TypeInfo) (ht : P.underlying t = some (.slice e)) (hi : P.info? e = some i) (hz : i.zero = some (.int .u8 0)) (hsize : i.size = 1) (hby : i.bytes = 1)
    (v : Value) (n : Nat) (xs : List Value) (hs : a.eval s = v) (W0 w0 : World) (c d f g : Int) (hb : Lib.OwnBuf B e v n xs W0 w0)
    (hx : a.eval x = .slice (some ⟨w0.heap.size, 0, none⟩) 4 4) (hlen : n + 4 ≤ 140737488355328)
    (h : ∀ v' w', Lib.OwnBuf B e v' (n + 4) (xs ++ [.int .u8 c, .int .u8 d, .int .u8 f, .int .u8 g]) W0 w' → wpList P ops Q rest (a.put o.dst v') w') : wpList P ops Q (o :: rest) a (w0.alloc (.cells #[.int .u8 c, .int .u8 d, .int .u8 f, .int .u8 g] e)) := by
  have hb' := hb.alloc (.cells #[.int .u8 c, .int .u8 d, .int .u8 f, .int .u8 g] e)
  refine wpList_append_ownF _ hgd s x t ho B e i (.int .u8 0) 1 1 ht hi hz hsize hby rfl (by decide) v n xs hs hb'.1 ⟨w0.heap.size, 0, none⟩ 4 4 [.int .u8 c, .int .u8 d, .int .u8 f, .int .u8 g] hx rfl ?_ ?_ (by unfold maxLen; omega) (by omega) hb'.2.2 ?_
  · intro j u hj
    match j, hj with
    | 0, hj => simp at hj; subst hj; simp [Addr.add]
    | 1, hj => simp at hj; subst hj; simp [Addr.add]
    | 2, hj => simp at hj; subst hj; simp [Addr.add]
    | 3, hj => simp at hj; subst hj; simp [Addr.add]
    | (j + 4), hj => simp at hj
  · intro u hu
    simp at hu
    rcases hu with rfl | rfl | rfl | rfl <;> rfl
  · intro v' w' ho' hg _
    exact h v' w' (hb'.grown ho' hg)

/-- the registers lie in the first new block -/
def SumAt (p : List UInt8) (w : World) (k : Nat) (wr : World) : Prop := Blk wr w.heap.size 72 (wv (blks p k)) ∧ Below w.heap.size w wr

theorem SumAt.drew {p : List UInt8} {w wr : World} {k : Nat} (h : SumAt p w k wr) : SumAt p w k wr.drew := ⟨h.1, Below.drewN h.2 1⟩
theorem SumAt.reg {p : List UInt8} {w wr : World} {k : Nat} (h : SumAt p w k wr) (i : Nat) (hi : i < 8) : wr.cell? ⟨w.heap.size, i, none⟩ = some (.int .u32 (nth (blks p k) i)) := by
  rw [h.1.cell i, wv_at _ _ (by rw [blks_len]; exact hi)]
theorem extract_data (p : ByteArray) (a b : Nat) : (p.extract a b).data.toList = (p.data.toList.drop a).take (b - a) := by
  rw [ByteArray.data_extract, Array.toList_extract, List.extract_eq_take_drop]
theorem SumAt.step {p : ByteArray} {w w2 w3 : World} {k : Nat} (h : SumAt p.data.toList w k w2) (b : Below w2.heap.size w2 w3) : SumAt p.data.toList w (k + 1) (w3.setRow w.heap.size (wv (blk (blks p.data.toList k) (p.extract (64 * k) (64 * k + 64)).data.toList))) := by
  refine ⟨?_, below_setRow (h.2.trans (b.mono h.2.size)) (Nat.le_refl _)⟩
  have e : blks p.data.toList (k + 1) = blk (blks p.data.toList k) (p.extract (64 * k) (64 * k + 64)).data.toList := by
    rw [extract_data, show 64 * k + 64 - 64 * k = 64 by omega]
    rfl
  rw [e]
  exact setRow_heap _ _ _ _ _ _ (h.1.next b)
theorem at_next (k : Nat) : Value.int .i64 (64 * (k : Int) + 64) = Value.int .i64 ((64 * (k + 1) : Nat) : Int) := by rw [show ((64 * (k + 1) : Nat) : Int) = 64 * (k : Int) + 64 by omega]
theorem out_start {w wr : World} {v : Value} {w2 : World} (hb : Below w.heap.size w wr) (h : Lib.OwnBuf wr.heap.size 5 v 0 [] wr w2) : Lib.OwnBuf w.heap.size 5 v 0 [] w w2 := by
  obtain ⟨h1, h2, h3⟩ := h
  refine ⟨⟨h1.1, ?_⟩, hb.trans (h2.mono hb.size), Nat.le_trans hb.size h3⟩
  rcases h1.2 with hn | ⟨g, cap, cur, fz, e1, e2, rest⟩
  · exact .inl hn
  · exact .inr ⟨g, cap, cur, fz, e1, Nat.le_trans hb.size e2, rest⟩
theorem info32 : (Tryd.prog.info? 71).map (fun i => (i.zero, i.size, i.bytes)) = some (some (.int .u32 0), 1, 4) := by kernel_rfl
theorem run_index_word (w : World) (hs : List Nat) (i : Nat) (hi : i < hs.length) (h8 : hs.length = 8) :
    (Instr.index 72 (.agg (wv hs)) (.int .i64 (i : Int))).run Tryd.prog w = .ok (.int .u32 (nth hs i)) w := by
  obtain ⟨i0, hi0, _, hz1, _⟩ := info_parts info32
  have hn : 0 ≤ (i : Int) ∧ (i : Int) < ((8 : Nat) : Int) := by omega
  have hl : i < 8 := by omega
  simp [Instr.index, run_underlying Tryd.underlying72, asIntOf, hl, sizeOf, typeInfo, hi0, hz1, isAgg, run_underlying Tryd.underlying71, wv_at hs i hi, go_sem]
theorem by4_cells (x b0 b1 b2 b3 : Nat) (h0 : x / 16777216 % 256 = b0) (h1 : x / 65536 % 256 = b1) (h2 : x / 256 % 256 = b2) (h3 : x % 256 = b3) : cells (by4 x) = [.int .u8 b0, .int .u8 b1, .int .u8 b2, .int .u8 b3] := by
  unfold by4 cells
  simp only [List.map_cons, List.map_nil]
  rw [h0, h1, h2, h3, W.toNat_ofNat (by omega), W.toNat_ofNat (by omega), W.toNat_ofNat (by omega), W.toNat_ofNat (by omega)]
theorem out_step {hh : List Nat} {j x : Nat} {B : Nat} {l : List Value} {v : Value} {W0 w : World} (hx : nth hh j = x) (hl : cells (by4 x) = l) (h : Lib.OwnBuf B 5 v (4 * j + 4) (cells (outTo hh j) ++ l) W0 w) : Lib.OwnBuf B 5 v (4 * (j + 1)) (cells (outTo hh (j + 1))) W0 w := by
  rw [show outTo hh (j + 1) = outTo hh j ++ by4 (nth hh j) from rfl, cells_append, hx, hl]
  exact h
theorem eight {l : List Nat} (h : l.length = 8) : ∃ a0 a1 a2 a3 a4 a5 a6 a7, l = [a0, a1, a2, a3, a4, a5, a6, a7] := by
  match l, h with
  | [a0, a1, a2, a3, a4, a5, a6, a7], _ => exact ⟨_, _, _, _, _, _, _, _, rfl⟩

set_option maxHeartbeats 1000000 in
set_option maxRecDepth 100000 in
theorem sum_this (s p : ByteArray) (nb : Nat) (w : World) (hr : Roots w) (hs : s.size ≤ 1099511627776) (HP : Hid (p = bs (padded s.data.toList))) (hp : p.size = 64 * nb) (out : List UInt8) (HO : Hid (outTo (blks p.data.toList nb) 8 = out)) :
    Calls Tryd.prog 40 #[.string s] w fun e w' => e = .returned (.string (bs out)) ∧ Below w.heap.size w w' := by
  have hps : p.size ≤ 1099511627776 + 72 := by
    have h1 := padOf_len s.size
    have h2 := zs_lt s.size
    rw [HP.out, bs_size, padded, List.length_append, size_list]
    omega
  have hadd : ∀ W : World, (Op.stringOp .add s (bs (padOf s.size))).run Tryd.prog W = .ok (.string p) W := fun W => by
    have h := run_add W s.data.toList (padOf s.size) (by have h1 := padOf_len s.size; have h2 := zs_lt s.size; rw [size_list]; omega)
    rw [bs_of] at h
    rw [h, HP.out, padded, size_list]
  obtain ⟨i0, hi, hz0, hz1, hz2⟩ := info_parts infoU8
  have HR := Lib.hid hr
  have HPAD := Lib.hid (pad s.size (by omega) (w.alloc (.cells (wv regs0) 72)))
  have HPS := Lib.hid hp
  have H0 := Lib.hid (Blk.new w 72 (wv regs0))
  have HB0 := Lib.hid ((Below.refl w.heap.size w).alloc (Nat.le_refl _) (.cells (wv regs0) 72))
  clear hr hp HP
  go_enter Tryd.func40, Tryd.ntmps40
  go_wp2_with fail
  refine HPAD.out.mono ?_
  rintro e w2 ⟨rfl, b2⟩
  have HS := Lib.hid (show SumAt p.data.toList w 0 w2 from ⟨H0.out.next b2, HB0.out.trans (b2.mono (by simp))⟩)
  clear HPAD H0 HB0 b2
  go_wp2
  clear hadd
  go_loopw [5] (fun i wr => ∃ k : Nat, k ≤ nb ∧ i = .int .i64 ((64 * k : Nat) : Int) ∧ SumAt p.data.toList w k wr) (fun i _ => p.size - (intOf i).toNat)
  case atStart => exact ⟨0, Nat.zero_le _, rfl, HS.out⟩
  case round =>
    clear HS
    obtain ⟨k, hk, rfl, hS⟩ := hrel
    by_cases hlt : k < nb
    · have t1 : 64 * (k : Int) < (p.size : Int) := by have := HPS.out; omega
      have t2 : 64 * (k : Int) + 64 ≤ (p.size : Int) := by have := HPS.out; omega
      have n1 : (64 * (k : Int)).toNat = 64 * k := by omega
      have n2 : (64 * (k : Int) + 64).toNat = 64 * k + 64 := by omega
      have p1 : 0 ≤ 64 * (k : Int) := by omega
      have p2 : 0 ≤ 64 * (k : Int) + 64 := by omega
      have p3 : 64 * (k : Int) ≤ 64 * (k : Int) + 64 := by omega
      have wr1 : IntKind.i64.wrap (64 * (k : Int) + 64) = 64 * (k : Int) + 64 := IntWalk.i64_in _ (by omega)
      have HS := Lib.hid hS.drew
      have hc := hS.drew
      obtain ⟨a0, a1, a2, a3, a4, a5, a6, a7, ha⟩ := eight (blks_len p.data.toList k)
      have c0 := hc.reg 0 (by decide)
      have c1 := hc.reg 1 (by decide)
      have c2 := hc.reg 2 (by decide)
      have c3 := hc.reg 3 (by decide)
      have c4 := hc.reg 4 (by decide)
      have c5 := hc.reg 5 (by decide)
      have c6 := hc.reg 6 (by decide)
      have c7 := hc.reg 7 (by decide)
      rw [ha] at c0 c1 c2 c3 c4 c5 c6 c7
      replace c0 : wr.drew.cell? ⟨w.heap.size, 0, none⟩ = some (.int .u32 a0) := c0
      replace c1 : wr.drew.cell? ⟨w.heap.size, 1, none⟩ = some (.int .u32 a1) := c1
      replace c2 : wr.drew.cell? ⟨w.heap.size, 2, none⟩ = some (.int .u32 a2) := c2
      replace c3 : wr.drew.cell? ⟨w.heap.size, 3, none⟩ = some (.int .u32 a3) := c3
      replace c4 : wr.drew.cell? ⟨w.heap.size, 4, none⟩ = some (.int .u32 a4) := c4
      replace c5 : wr.drew.cell? ⟨w.heap.size, 5, none⟩ = some (.int .u32 a5) := c5
      replace c6 : wr.drew.cell? ⟨w.heap.size, 6, none⟩ = some (.int .u32 a6) := c6
      replace c7 : wr.drew.cell? ⟨w.heap.size, 7, none⟩ = some (.int .u32 a7) := c7
      have HA := Lib.hid ha
      have HRW := Lib.hid (HR.out.below hc.2 HR.out.pos)
      clear hc hS ha
      go_wp2
      refine wp_region_still_tail 6 (by kernel_rfl) (by kernel_rfl) ?_
      simp only [List.take_succ_cons, List.take_zero, List.drop_succ_cons, List.drop_zero]
      change wpStill _ _ wr.drew (fun a' => wpList _ _ _ _ a' wr.drew) _ _
      generalize wr.drew = w3 at *
      repeat still_step
      refine wpStill_nil ?_
      clear c0 c1 c2 c3 c4 c5 c6 c7 p1 p2 p3 n1 n2 wr1
      go_wp2_with fail
      obtain ⟨o8, h8⟩ : ∃ o8, blk [a0, a1, a2, a3, a4, a5, a6, a7] (p.extract (64 * k) (64 * k + 64)).data.toList = o8 := ⟨_, rfl⟩
      have l8 : o8.length = 8 := by rw [← h8, blk_len _ _ rfl]
      have H8 := Lib.hid h8
      have L8 := Lib.hid l8
      clear h8 l8
      refine (block_this a0 a1 a2 a3 a4 a5 a6 a7 (p.extract (64 * k) (64 * k + 64)) w3 HRW.out (by rw [ByteArray.size_extract]; unfold maxLen; omega) o8 H8).mono ?_
      rintro e w4 ⟨rfl, b4⟩
      have R := Lib.hid (HS.out.step b4)
      rw [HA.out, H8.out] at R
      have hB := HS.out.1.next b4
      rw [HA.out] at hB
      have HB := Lib.hid hB
      clear hB HS HA HRW b4 H8
      go_wp2_with (refine wpList_store_row rfl 72 _ _ rfl w.heap.size (wv o8) rfl rfl 72 _ HB.out (by rw [wv_size, L8.out]; exact info8) (by rw [wv_size, wv_size, L8.out]; rfl) (wv_one _) ?_)
      go_roundw
      case rel => exact ⟨k + 1, by omega, at_next k, R.out⟩
      case measure =>
        show p.size - (64 * (k : Int) + 64).toNat < p.size - ((64 * k : Nat) : Int).toNat
        omega
    · obtain rfl : k = nb := by omega
      have t1 : ¬ 64 * (k : Int) < (p.size : Int) := by have := HPS.out; omega
      have HS := Lib.hid hS
      have hmk : ∀ W : World, (Instr.makeSlice 57 (.int .i64 0) (.int .i64 32)).run Tryd.prog W = .ok (.slice (some ⟨W.heap.size, 0, none⟩) 0 32) (W.alloc (.cells (madeCells (Value.int .u8 0).cells 32) 5)) := fun W => run_make0 32 (by omega) W
      have HOW := OwnBuf_made 32 (by unfold maxLen; omega) wr
      generalize madeCells (Value.int .u8 0).cells 32 = M at *
      have HB := Lib.hid (hS.1.alloc (.cells M 5))
      have HW := Lib.hid (out_start hS.2 HOW)
      have H8 := Lib.hid (blks_len p.data.toList k)
      clear hS HOW HS
      generalize blks p.data.toList k = hh at *
      go_wp2_with (refine wpList_load_row rfl 72 _ rfl w.heap.size rfl 72 _ (0, 0) _ HB.out Tryd.underlying72 rfl (by rw [wv_size, H8.out]; exact info8) ?_)
      clear HB hmk
      go_loopw [6, 30] (fun v i wr => ∃ j : Nat, j ≤ 8 ∧ i = .int .i64 j ∧ Lib.OwnBuf w.heap.size 5 v (4 * j) (cells (outTo hh j)) w wr) (fun _ i _ => 8 - (intOf i).toNat)
      case atStart => exact ⟨0, Nat.zero_le _, rfl, HW.out⟩
      case round =>
        clear HW
        obtain ⟨j, hj, rfl, hown⟩ := hrel
        by_cases hjl : j < 8
        · obtain ⟨x, hx⟩ : ∃ x, nth hh j = x := ⟨_, rfl⟩
          have hix := run_index_word wr hh j (by rw [H8.out]; exact hjl) H8.out
          rw [hx] at hix
          obtain ⟨b0, h0⟩ : ∃ b, x / 16777216 % 256 = b := ⟨_, rfl⟩
          obtain ⟨b1, h1⟩ : ∃ b, x / 65536 % 256 = b := ⟨_, rfl⟩
          obtain ⟨b2, h2⟩ : ∃ b, x / 256 % 256 = b := ⟨_, rfl⟩
          obtain ⟨b3, h3⟩ : ∃ b, x % 256 = b := ⟨_, rfl⟩
          have e0 : (x : Int) / 16777216 % 256 = (b0 : Int) := by omega
          have e1 : (x : Int) / 65536 % 256 = (b1 : Int) := by omega
          have e2 : (x : Int) / 256 % 256 = (b2 : Int) := by omega
          have e3 : (x : Int) % 256 = (b3 : Int) := by omega
          have HX := Lib.hid (by4_cells x b0 b1 b2 b3 h0 h1 h2 h3)
          have HN := Lib.hid hx
          clear h0 h1 h2 h3 hx
          go_wp2_with (at_builtin; go_must (refine wpList_append_four rfl _ _ 57 rfl w.heap.size 5 i0 Tryd.underlying57 hi hz0 hz1 hz2 u6 (4 * j) _ rfl w wr _ _ _ _ hown rfl (by omega) ?_))
          intro v5 w5 h5
          have R := out_step HN.out HX.out h5
          clear h5 hown e0 e1 e2 e3 hix HX HN
          go_wp2
          go_roundw
          case rel => exact ⟨j + 1, by omega, by go_num, R⟩
          case measure => simp [intOf]; omega
        · obtain rfl : j = 8 := by omega
          have hst := run_string w.heap.size u6 (outTo hh 8) w _ (by rw [outTo_len]; exact hown)
          rw [HO.out] at hst
          go_wp2
          go_ret
          exact ⟨rfl, hown.2.1⟩

theorem sum (s : ByteArray) (w : World) (hr : Roots w) (hs : s.size ≤ 1099511627776) :
    Calls Tryd.prog 40 #[.string s] w fun e w' => e = .returned (.string (bs (shaOf s.data.toList))) ∧ Below w.heap.size w w' := by
  refine sum_this s (bs (padded s.data.toList)) ((padded s.data.toList).length / 64) w hr hs (Lib.hid rfl) ?_ _ (Lib.hid rfl)
  rw [bs_size]
  exact padded_len _
end Go.Proofs.YtjohkimjdkginaaDoor.W
/-
  Arrays of bytes: as cells, and some of them set.
-/
namespace Go.Proofs.YtjohkimjdkginaaDoor.W
open Go.RowKit

/-- bytes as the cells of an array -/
def bv (l : List UInt8) : Array Value := (cells l).toArray
theorem bv_size (l : List UInt8) : (bv l).size = l.length := by simp [bv, cells]
theorem bv_at (l : List UInt8) (i : Nat) (c : UInt8) (h : l[i]? = some c) : (bv l)[i]? = some (.int .u8 c.toNat) := by
  unfold bv cells
  rw [List.getElem?_toArray, List.getElem?_map, h]
  rfl
theorem bv_set (l : List UInt8) (i : Nat) (c : UInt8) : (bv l).setIfInBounds i (.int .u8 c.toNat) = bv (l.set i c) := by
  apply Array.toList_inj.1
  simp [bv, cells, List.map_set]
theorem bv_one (l : List UInt8) : (bv l).all (·.oneCell') = true := by
  rw [Array.all_eq_true_iff_forall_mem]
  intro v hv
  simp [bv, cells] at hv
  obtain ⟨x, _, rfl⟩ := hv
  rfl
theorem size_u8 (w : World) : (Go.sizeOf 5).run Tryd.prog w = .ok 1 w := by
  obtain ⟨i0, hi, _, hz1, _⟩ := info_parts infoU8
  simp [Go.sizeOf, typeInfo, hi, hz1, go_sem]
theorem setCells_row (g : Nat) (t : TypeId) : ∀ (vs : List Value) (pre post : List Value) (w : World), Blk w g t (pre ++ post).toArray → vs.length ≤ post.length →
    Blk (w.setCells g pre.length vs) g t (pre ++ (vs ++ post.drop vs.length)).toArray := by
  intro vs
  induction vs with
  | nil => intro pre post w h _; simpa [World.setCells] using h
  | cons v vs ih =>
    intro pre post w h hl
    match post, hl with
    | p :: post, hl =>
      have h1 := h.set_ pre.length v
      rw [show (pre ++ p :: post).toArray.setIfInBounds pre.length v = ((pre ++ [v]) ++ post).toArray by simp] at h1
      have h2 := ih (pre ++ [v]) post (w.setCell ⟨g, pre.length, none⟩ v) h1 (by simpa using hl)
      rw [show (pre ++ [v]).length = pre.length + 1 by simp] at h2
      simpa [World.setCells] using h2
end Go.Proofs.YtjohkimjdkginaaDoor.W
/-
  mac.filled: the key, or its hash, with zero bytes up to the end of a block.
-/
namespace Go.Proofs.YtjohkimjdkginaaDoor.W
open Go.RowKit

theorem info64b : (Tryd.prog.info? 66).map (·.size) = some 64 := by kernel_rfl
/-- 'copy(block[:], key)' -/
theorem copy_key (w : World) (g : Nat) (ty : TypeId) (k : ByteArray) (hk : k.size ≤ 64) (h : Blk w g 66 (bv (List.replicate 64 0))) :
    ∃ w', (Builtin.copy_ #[57, 9] ty #[.slice (some ⟨g, 0, none⟩) 64 64, .string k]).run Tryd.prog w = .ok (.int .i64 (k.size : Int)) w' ∧ Blk w' g 66 (bv (fill k.data.toList)) ∧ w' = w.setCells g 0 (cells k.data.toList) := by
  refine ⟨w.setCells g 0 (cells k.data.toList), ?_, ?_, rfl⟩
  · have hr := run_copy_string (P := Tryd.prog) w 57 9 ty 5 g 0 64 64 k Tryd.underlying57 size_u8 hk
      (fun j hj => by rw [Nat.zero_add, h.cell j, bv_at _ j 0 (by rw [List.getElem?_replicate, if_pos (by omega)])]; rfl) (fun j hj => h.frozen _)
    exact hr
  · have h2 := setCells_row g 66 (cells k.data.toList) [] (cells (List.replicate 64 0)) w h (by rw [cells_len, cells_len, size_list, List.length_replicate]; exact hk)
    have e : [] ++ (cells k.data.toList ++ (cells (List.replicate 64 0)).drop (cells k.data.toList).length) = cells (fill k.data.toList) := by
      unfold fill
      rw [cells_append, cells_len, List.nil_append]
      congr 1
      unfold cells
      rw [← List.map_drop, List.drop_replicate]
    rw [e] at h2
    exact h2
theorem zero64b : (#[.int .u8 0, .int .u8 0, .int .u8 0, .int .u8 0, .int .u8 0, .int .u8 0, .int .u8 0, .int .u8 0, .int .u8 0, .int .u8 0, .int .u8 0, .int .u8 0, .int .u8 0, .int .u8 0, .int .u8 0, .int .u8 0, .int .u8 0, .int .u8 0, .int .u8 0, .int .u8 0, .int .u8 0, .int .u8 0, .int .u8 0, .int .u8 0, .int .u8 0, .int .u8 0, .int .u8 0, .int .u8 0, .int .u8 0, .int .u8 0, .int .u8 0, .int .u8 0, .int .u8 0, .int .u8 0, .int .u8 0, .int .u8 0, .int .u8 0, .int .u8 0, .int .u8 0, .int .u8 0, .int .u8 0, .int .u8 0, .int .u8 0, .int .u8 0, .int .u8 0, .int .u8 0, .int .u8 0, .int .u8 0, .int .u8 0, .int .u8 0, .int .u8 0, .int .u8 0, .int .u8 0, .int .u8 0, .int .u8 0, .int .u8 0, .int .u8 0, .int .u8 0, .int .u8 0, .int .u8 0, .int .u8 0, .int .u8 0, .int .u8 0, .int .u8 0] : Array Value) = bv (List.replicate 64 0) := rfl

/-- the result's box -/
def FlAt (w wr : World) : Prop := Blk wr w.heap.size 66 (bv (List.replicate 64 0)) ∧ Below w.heap.size w wr
theorem FlAt.start (w : World) : FlAt w (w.alloc (.cells (bv (List.replicate 64 0)) 66)) := ⟨Blk.new w _ _, (Below.refl _ _).alloc (Nat.le_refl _) _⟩
theorem FlAt.next {w wr w' : World} (h : FlAt w wr) (hb : Below wr.heap.size wr w') : FlAt w w' := ⟨h.1.next hb, h.2.trans (hb.mono h.2.size)⟩

theorem FlAt.alloc {w wr : World} (h : FlAt w wr) (o : Obj) : FlAt w (wr.alloc o) := h.next ((Below.refl _ _).alloc (Nat.le_refl _) o)
theorem FlAt.setCells {w wr : World} (h : FlAt w wr) {G : Nat} (hG : w.heap.size < G) {vs : List Value} {o : Nat} : FlAt w (wr.setCells G o vs) :=
  have hb := below_setCells hG vs o wr (Below.refl _ _)
  ⟨h.1.below hb (Nat.lt_succ_self _), h.2.trans (hb.mono (Nat.le_succ _))⟩

set_option maxHeartbeats 1000000 in
set_option maxRecDepth 100000 in
theorem filled_short (k : ByteArray) (w : World) (hk : k.size ≤ 64) :
    Calls Tryd.prog 38 #[.string k] w fun e w' => e = .returned (.agg (bv (fill k.data.toList))) ∧ Below w.heap.size w w' := by
  have HF := Lib.hid ((FlAt.start w).alloc (.cells (bv (List.replicate 64 0)) 66))
  have hg := Blk.new (w.alloc (.cells (bv (List.replicate 64 0)) 66)) 66 (bv (List.replicate 64 0))
  rw [show (w.alloc (.cells (bv (List.replicate 64 0)) 66)).heap.size = w.heap.size + 1 by simp] at hg
  have HG := Lib.hid hg
  have HGE := Lib.hid (Nat.lt_succ_self w.heap.size)
  have hk1 : ¬ (64 : Int) < (k.size : Int) := by omega
  clear hg
  go_enter Tryd.func38, Tryd.ntmps38
  go_wp2_with fail
  rw [zero64b]
  generalize (w.alloc (.cells (bv (List.replicate 64 0)) 66)).alloc (.cells (bv (List.replicate 64 0)) 66) = w2 at *
  obtain ⟨w3, hcp, hb3, hw3⟩ := copy_key w2 (w.heap.size + 1) 3 k hk HG.out
  have hf3 : FlAt w w3 := by rw [hw3]; exact HF.out.setCells HGE.out
  have H3 := Lib.hid hb3
  have HF3 := Lib.hid hf3
  have HL := Lib.hid (fill_len k.data.toList (by rw [size_list]; exact hk))
  clear hb3 hf3 hw3 HG HF
  obtain ⟨f, hf⟩ : ∃ f, fill k.data.toList = f := ⟨_, rfl⟩
  rw [hf] at H3 HL
  have HE := Lib.hid hf
  clear hf
  rw [hcp]
  go_wp2_with (first
    | (refine wpList_load_row rfl 66 _ rfl (w.heap.size + 1) rfl 66 _ (0, 0) _ H3.out Tryd.underlying66 rfl (by rw [bv_size, HL.out]; exact info64b) ?_)
    | (refine wpList_store_row rfl 66 _ _ rfl w.heap.size (bv f) rfl rfl 66 (bv (List.replicate 64 0)) HF3.out.1 (by rw [bv_size, HL.out]; exact info64b) (by rw [bv_size, bv_size, HL.out, List.length_replicate]) (bv_one _) ?_))
  have hb : Below w.heap.size w (w3.setRow w.heap.size (bv f)) := below_setRow HF3.out.2 (Nat.le_refl _)
  exact bodyPost_ret (v := .agg (bv f)) (results_cell_row Tryd.results38 _ _ w.heap.size 66 _ (0, 0) _ rfl (setRow_heap _ _ _ _ _ _ HF3.out.1) Tryd.underlying66 rfl (by rw [bv_size, HL.out]; exact info64b)) rfl ⟨by rw [HE.out], hb⟩

set_option maxHeartbeats 1000000 in
set_option maxRecDepth 100000 in
theorem filled_long (k : ByteArray) (w : World) (hr : Roots w) (hk : 64 < k.size) (hs : k.size ≤ 1099511627776) (q : ByteArray) (HQ : Hid (q = bs (shaOf k.data.toList))) :
    Calls Tryd.prog 38 #[.string k] w fun e w' => e = .returned (.agg (bv (fill q.data.toList))) ∧ Below w.heap.size w w' := by
  have hq : q.size ≤ 64 := by rw [HQ.out, bs_size, shaOf_len]; omega
  have R := Lib.hid (sum k (w.alloc (.cells (bv (List.replicate 64 0)) 66)) (hr.alloc _) hs)
  rw [← HQ.out] at R
  have HF0 := Lib.hid (FlAt.start w)
  have hk1 : (64 : Int) < (k.size : Int) := by omega
  have HGT := Lib.hid (show w.heap.size < (w.alloc (.cells (bv (List.replicate 64 0)) 66)).heap.size by simp)
  clear HQ hr
  go_enter Tryd.func38, Tryd.ntmps38
  go_wp2_with fail
  rw [zero64b]
  generalize w.alloc (.cells (bv (List.replicate 64 0)) 66) = w1 at *
  refine R.out.mono ?_
  rintro e w5 ⟨rfl, b5⟩
  have HF := Lib.hid ((HF0.out.next b5).alloc (.cells (bv (List.replicate 64 0)) 66))
  have HG := Lib.hid (Blk.new w5 66 (bv (List.replicate 64 0)))
  have HGE := Lib.hid (Nat.lt_of_lt_of_le HGT.out b5.size)
  clear HF0 b5 R HGT
  go_wp2_with fail
  rw [zero64b]
  generalize w5.alloc (.cells (bv (List.replicate 64 0)) 66) = w2 at *
  obtain ⟨w3, hcp, hb3, hw3⟩ := copy_key w2 w5.heap.size 3 q hq HG.out
  have hf3 : FlAt w w3 := by rw [hw3]; exact HF.out.setCells HGE.out
  have H3 := Lib.hid hb3
  have HF3 := Lib.hid hf3
  have HL := Lib.hid (fill_len q.data.toList (by rw [size_list]; exact hq))
  clear hb3 hf3 hw3 HG HF
  obtain ⟨f, hf⟩ : ∃ f, fill q.data.toList = f := ⟨_, rfl⟩
  rw [hf] at H3 HL
  have HE := Lib.hid hf
  clear hf
  rw [hcp]
  go_wp2_with (first
    | (refine wpList_load_row rfl 66 _ rfl w5.heap.size rfl 66 _ (0, 0) _ H3.out Tryd.underlying66 rfl (by rw [bv_size, HL.out]; exact info64b) ?_)
    | (refine wpList_store_row rfl 66 _ _ rfl w.heap.size (bv f) rfl rfl 66 (bv (List.replicate 64 0)) HF3.out.1 (by rw [bv_size, HL.out]; exact info64b) (by rw [bv_size, bv_size, HL.out, List.length_replicate]) (bv_one _) ?_))
  have hb : Below w.heap.size w (w3.setRow w.heap.size (bv f)) := below_setRow HF3.out.2 (Nat.le_refl _)
  exact bodyPost_ret (v := .agg (bv f)) (results_cell_row Tryd.results38 _ _ w.heap.size 66 _ (0, 0) _ rfl (setRow_heap _ _ _ _ _ _ HF3.out.1) Tryd.underlying66 rfl (by rw [bv_size, HL.out]; exact info64b)) rfl ⟨by rw [HE.out], hb⟩

theorem filled (k : ByteArray) (w : World) (hr : Roots w) (hs : k.size ≤ 1099511627776) :
    Calls Tryd.prog 38 #[.string k] w fun e w' => e = .returned (.agg (bv (fill (keyOf k.data.toList)))) ∧ Below w.heap.size w w' := by
  by_cases hk : k.size ≤ 64
  · rw [keyOf_short _ (by rw [size_list]; exact hk)]
    exact filled_short k w hk
  · rw [keyOf_long _ (by rw [size_list]; omega)]
    exact filled_long k w hr (by omega) hs (bs (shaOf k.data.toList)) (Lib.hid rfl)
end Go.Proofs.YtjohkimjdkginaaDoor.W
/-
  mac.Sum's closure: a copy of the block, each byte with the mask; as a string.
-/
namespace Go.Proofs.YtjohkimjdkginaaDoor.W
open Go.RowKit

theorem xor_byte (a x : UInt8) : bits .xor .u8 (a.toNat : Int) (x.toNat : Int) = ((a ^^^ x).toNat : Int) := by
  show IntKind.u8.wrap ((BitVec.ofInt 8 (a.toNat : Int) ^^^ BitVec.ofInt 8 (x.toNat : Int)).toNat : Int) = _
  have ha := a.toNat_lt
  have hx := x.toNat_lt
  rw [BitVec.toNat_xor, BitVec.ofInt_natCast, BitVec.ofInt_natCast, BitVec.toNat_ofNat, BitVec.toNat_ofNat, Nat.mod_eq_of_lt (by simpa using ha), Nat.mod_eq_of_lt (by simpa using hx), IntKind.wrap_u8, UInt8.toNat_xor]
  have h : a.toNat ^^^ x.toNat < 2 ^ 8 := Nat.xor_lt_two_pow (by simpa using ha) (by simpa using hx)
  omega

/-- the copy lies in the first new block -/
def MkAt (f : List UInt8) (x : UInt8) (w : World) (i : Nat) (wr : World) : Prop := Blk wr w.heap.size 66 (bv (mhalf f x i)) ∧ Below w.heap.size w wr
theorem MkAt.drew {f : List UInt8} {x : UInt8} {w wr : World} {i : Nat} (h : MkAt f x w i wr) : MkAt f x w i wr.drew := ⟨h.1, Below.drewN h.2 1⟩
theorem MkAt.cell {f : List UInt8} {x : UInt8} {w wr : World} {i : Nat} (h : MkAt f x w i wr) (hi : i < f.length) : wr.cell? ⟨w.heap.size, i, none⟩ = some (.int .u8 f[i].toNat) := by
  rw [h.1.cell i, bv_at _ i _ (half_at f x i hi)]
theorem MkAt.put {f : List UInt8} {x : UInt8} {w wr : World} {i : Nat} (h : MkAt f x w i wr) (hi : i < f.length) : MkAt f x w (i + 1) (wr.setCell ⟨w.heap.size, i, none⟩ (.int .u8 (f[i] ^^^ x).toNat)) := by
  refine ⟨?_, h.2.setCell (by simp) _⟩
  have h1 := h.1.set_ i (.int .u8 (f[i] ^^^ x).toNat)
  rw [bv_set, half_step f x i hi] at h1
  exact h1

theorem store_old64 (f : List UInt8) (hl : f.length = 64) (W : World) (G : Nat) (hG : Blk W G 66 (bv (List.replicate 64 0))) :
    (storeCells ⟨G, 0, none⟩ (bv f).toList).run Tryd.prog W = .ok () (W.setRow G (bv f)) := by
  have h := run_storeCells_from (P := Tryd.prog) G 66 (bv f).toList 0 (bv (List.replicate 64 0)) W hG (by rw [Array.length_toList, bv_size, bv_size, hl, List.length_replicate]) (fun v hv => (Array.all_eq_true_iff_forall_mem.1 (bv_one f)) v (by simpa using hv))
  rw [h, List.take_zero, List.nil_append, Array.toArray_toList]
theorem store_new64 (f : List UInt8) (hl : f.length = 64) (W : World) :
    (storeCells ⟨W.heap.size, 0, none⟩ (bv f).toList).run Tryd.prog (W.alloc (.cells (bv (List.replicate 64 0)) 66)) = .ok () (W.alloc (.cells (bv f) 66)) := by
  rw [store_old64 f hl _ _ (Blk.new W 66 _), World.setRow_alloc_new]

theorem addr_add (g j : Nat) : (⟨g, 0, none⟩ : Addr).add j = ⟨g, j, none⟩ := by cases j <;> simp [Addr.add]

set_option maxHeartbeats 1000000 in
set_option maxRecDepth 100000 in
theorem masked (f : List UInt8) (x : UInt8) (g : Nat) (w : World) (hf : f.length = 64) (hg : Blk w g 66 (bv f)) (out : List UInt8) (HO : Hid (mix x f = out)) :
    Calls Tryd.prog 39 #[.int .u8 x.toNat, .pointer (some ⟨g, 0, none⟩)] w fun e w' => e = .returned (.string (bs out)) ∧ Below w.heap.size w w' := by
  have hs64 : (bv f).size = 64 := by rw [bv_size, hf]
  have hst := store_new64 f hf w
  rw [← zero64b] at hst
  have HG := Lib.hid hg
  have HF := Lib.hid hf
  have H0 := Lib.hid (show MkAt f x w 0 (w.alloc (.cells (bv f) 66)) from ⟨by rw [half_zero]; exact Blk.new w _ _, (Below.refl _ _).alloc (Nat.le_refl _) _⟩)
  clear hg hf
  go_enter Tryd.func39, Tryd.ntmps39
  go_wp2_with (first
    | (refine wpList_load_row rfl 66 _ rfl g rfl 66 _ (0, 0) _ HG.out Tryd.underlying66 rfl (by rw [bv_size, HF.out]; exact info64b) ?_))
  clear hst HG hs64
  go_loopw [7] (fun i wr => ∃ k : Nat, k ≤ 64 ∧ i = .int .i64 k ∧ MkAt f x w k wr) (fun i _ => 64 - (intOf i).toNat)
  case atStart => exact ⟨0, Nat.zero_le _, rfl, H0.out⟩
  case round =>
    clear H0
    obtain ⟨k, hk, rfl, hS⟩ := hrel
    by_cases hlt : k < 64
    · have hkf : k < f.length := by rw [HF.out]; exact hlt
      have hc := hS.cell hkf
      have hfz : wr.frozen? ⟨w.heap.size, k, none⟩ = false := hS.1.frozen k
      have HP := Lib.hid (hS.put hkf)
      have hx := xor_byte f[k] x
      generalize f[k] = c at *
      generalize c ^^^ x = y at *
      have jl : (k : Int) < 64 := by omega
      have jp : (0 : Int) ≤ (k : Int) := by omega
      clear hS hkf
      go_wp2
      go_roundw
      case rel => exact ⟨k + 1, by omega, by go_num, HP.out⟩
      case measure => simp [intOf]; omega
    · obtain rfl : k = 64 := by omega
      have hB := hS.1
      rw [half_all f x 64 (by rw [HF.out]; exact Nat.le_refl _), HO.out] at hB
      have ho : out.length = 64 := by rw [← HO.out, mix_len, HF.out]
      have hst := run_convert_bytes_back (P := Tryd.prog) wr 57 9 5 ⟨w.heap.size, 0, none⟩ 64 out Tryd.underlying57 Tryd.underlying5 Tryd.underlying9 (by
        intro j hj
        have h := hB.cell j
        rw [bv_at _ j _ (List.getElem?_eq_getElem hj)] at h
        rw [addr_add]
        exact h)
      rw [ho] at hst
      have HB := Lib.hid hS.2
      clear hS hB ho
      go_wp2
      go_ret
      exact ⟨rfl, HB.out⟩
end Go.Proofs.YtjohkimjdkginaaDoor.W
/-
  The reference of layer 4: its registers, its constants, its padding.
-/
namespace Go.Proofs.YtjohkimjdkginaaDoor.W
open Go.RowKit

theorem regs8 : (#[.int .u32 1779033703, .int .u32 3144134277, .int .u32 1013904242, .int .u32 2773480762, .int .u32 1359893119, .int .u32 2600822924, .int .u32 528734635, .int .u32 1541459225] : Array Value) = wv regs0 := rfl
set_option maxHeartbeats 1000000 in
set_option maxRecDepth 100000 in
theorem rRegs (w : World) : Calls Tryd.prog 43 #[] w fun e w' => e = .returned (.agg (wv regs0)) ∧ Below w.heap.size w w' := by
  go_enter Tryd.func43, Tryd.ntmps43
  go_wp2_with (refine wpList_store_row rfl 72 _ _ rfl w.heap.size (wv regs0) rfl rfl 72 (wv (List.replicate 8 0)) (Blk.new w 72 (wv (List.replicate 8 0))) info8 rfl (wv_one _) ?_)
  have hb : Below w.heap.size w ((w.alloc (.cells (wv (List.replicate 8 0)) 72)).setRow w.heap.size (wv regs0)) := below_setRow ((Below.refl _ _).alloc (Nat.le_refl _) _) (Nat.le_refl _)
  exact bodyPost_ret (v := .agg (wv regs0)) (results_cell_row Tryd.results43 _ _ w.heap.size 72 _ (0, 0) _ rfl (setRow_heap _ _ _ _ _ _ (Blk.new w 72 (wv (List.replicate 8 0)))) Tryd.underlying72 rfl info8) rfl ⟨rfl, hb⟩
set_option maxHeartbeats 1000000 in
set_option maxRecDepth 100000 in
theorem rConsts (w : World) : Calls Tryd.prog 51 #[] w fun e w' => e = .returned (.agg (wv kk)) ∧ Below w.heap.size w w' := by
  go_enter Tryd.func51, Tryd.ntmps51
  go_wp2_with (refine wpList_store_row rfl 79 _ _ rfl w.heap.size (wv kk) rfl rfl 79 (wv (List.replicate 64 0)) (Blk.new w 79 (wv (List.replicate 64 0))) info64 rfl (wv_one _) ?_)
  have hb : Below w.heap.size w ((w.alloc (.cells (wv (List.replicate 64 0)) 79)).setRow w.heap.size (wv kk)) := below_setRow ((Below.refl _ _).alloc (Nat.le_refl _) _) (Nat.le_refl _)
  exact bodyPost_ret (v := .agg (wv kk)) (results_cell_row Tryd.results51 _ _ w.heap.size 79 _ (0, 0) _ rfl (setRow_heap _ _ _ _ _ _ (Blk.new w 79 (wv (List.replicate 64 0)))) Tryd.underlying79 rfl info64) rfl ⟨rfl, hb⟩
end Go.Proofs.YtjohkimjdkginaaDoor.W
/-
  The reference's Pad.
-/
namespace Go.Proofs.YtjohkimjdkginaaDoor.W
open Go.RowKit

theorem OwnBuf_one (w : World) : Lib.OwnBuf w.heap.size 5 (.slice (some ⟨w.heap.size, 0, none⟩) 1 1) 1 (cells [128]) w (w.alloc (.cells #[.int .u8 128] 5)) :=
  ⟨⟨rfl, .inr ⟨w.heap.size, 1, #[.int .u8 128], (0, 0), rfl, Nat.le_refl _, Blk.new w 5 _, Nat.zero_le _, Nat.le_refl _, by unfold maxLen; omega, rfl, rfl⟩⟩, (Below.refl _ _).alloc (Nat.le_refl _) _, by simp⟩
theorem own_slice {B n : Nat} {v : Value} {xs : List Value} {W0 w : World} (h : Lib.OwnBuf B 5 v n xs W0 w) (hn : 0 < n) : ∃ g cap, v = .slice (some ⟨g, 0, none⟩) n cap := by
  rcases h.1.2 with ⟨_, h0⟩ | ⟨g, cap, cur, fz, e, _⟩
  · omega
  · exact ⟨g, cap, e⟩
/-- a slice's length -/
def slen : Value → Nat
  | .slice _ n _ => n
  | _ => 0
theorem rpad_neg (n : Int) (hn : n < 0) (w : World) :
    Calls Tryd.prog 42 #[.int .i64 n] w fun e w' => e = .returned (.string (bs [])) ∧ w = w' := by
  go_enter Tryd.func42, Tryd.ntmps42
  go_wp2
  go_ret
  exact ⟨rfl, rfl⟩
theorem zero_step {B j : Nat} {v : Value} {W0 w : World} (h : Lib.OwnBuf B 5 v (j + 1 + 1) (cells (128 :: List.replicate j 0) ++ [.int .u8 0]) W0 w) : Lib.OwnBuf B 5 v (j + 1 + 1) (cells (128 :: List.replicate (j + 1) 0)) W0 w := by
  rw [List.replicate_succ']
  simpa [cells] using h

set_option maxHeartbeats 4000000 in
set_option maxRecDepth 100000 in
theorem rpad_this (n m z : Nat) (hn : n ≤ 9223372036854775807) (HZ : Hid (zs n = z)) (HM : Hid (n * 8 % 18446744073709551616 = m)) (w : World) :
    Calls Tryd.prog 42 #[.int .i64 n] w fun e w' => e = .returned (.string (bs (128 :: (List.replicate z 0 ++ by8 m 8)))) ∧ Below w.heap.size w w' := by
  have hz : z < 64 := by rw [← HZ.out]; exact zs_lt n
  have HT := Lib.hid (show ∀ j : Nat, j ≤ z → (((n : Int) % 64 + ((j + 1 : Nat) : Int) + 8) % 64 = 0 ↔ j = z) by
    intro j hj
    have e := HZ.out
    unfold zs at e
    omega)
  obtain ⟨i0, hi, hz0, hz1, hz2⟩ := info_parts infoU8
  have HO := Lib.hid (OwnBuf_one w)
  go_enter Tryd.func42, Tryd.ntmps42
  go_wp2
  go_loopw [3] (fun v wr => ∃ j : Nat, j ≤ z ∧ Lib.OwnBuf w.heap.size 5 v (j + 1) (cells (128 :: List.replicate j 0)) w wr) (fun v _ => z + 2 - slen v)
  case atStart => exact ⟨0, Nat.zero_le _, HO.out⟩
  case round =>
    clear HO
    obtain ⟨j, hj, hown⟩ := hrel
    obtain ⟨g, cap, rfl⟩ := own_slice hown (by omega)
    by_cases hlt : j < z
    · have t1 : (((n : Int) % 64 + ((j + 1 : Nat) : Int) + 8) % 64 != 0) = true := by
        have := HT.out j hj
        simp only [bne_iff_ne, ne_eq]
        omega
      have t2 : (((n : Int) % 64 + ((j : Int) + 1) + 8) % 64 != 0) = true := t1
      have t3 : (((n : Int) + ((j : Int) + 1) + 8) % 64 != 0) = true := by
        have := HT.out j hj
        simp only [bne_iff_ne, ne_eq]
        omega
      have HTT := Lib.hid HT
      go_wp2_with (at_builtin; go_must (refine Lib.wpList_append_byte rfl _ _ 57 rfl w.heap.size 5 i0 Tryd.underlying57 hi hz0 hz1 hz2 (.slice (some ⟨g, 0, none⟩) (j + 1) cap) (j + 1) _ rfl w wr _ hown rfl (by omega) ?_))
      intro v2 w2 h2
      have R := zero_step h2
      obtain ⟨g2, cap2, rfl⟩ := own_slice R (by omega)
      clear h2 hown HTT t1 t2 t3
      go_wp2
      go_roundw
      case rel => exact ⟨j + 1, by omega, R⟩
      case measure => simp [slen]; omega
    · obtain rfl : j = z := by omega
      have t1 : (((n : Int) % 64 + ((j + 1 : Nat) : Int) + 8) % 64 != 0) = false := by
        have := HT.out j hj
        simp only [bne_eq_false_iff_eq]
        omega
      have t2 : (((n : Int) % 64 + ((j : Int) + 1) + 8) % 64 != 0) = false := t1
      have t3 : (((n : Int) + ((j : Int) + 1) + 8) % 64 != 0) = false := by
        have := HT.out j hj
        simp only [bne_eq_false_iff_eq]
        omega
      have e0 : ((n : Int) % 64 + ((j : Int) + 1) + 8) % 64 = 0 := (HT.out j hj).2 rfl
      have HE := Lib.hid e0
      have eM : IntKind.u64.wrap ((n : Int) * 8) = (m : Int) := by rw [IntKind.wrap_u64, ← HM.out]; omega
      have HEM := Lib.hid eM
      clear e0 eM
      go_wp2
      clear t1 t2 t3
      simp only [HE.out]
      go_loopw [3, 4] (fun v i wr => ∃ k : Nat, k ≤ 8 ∧ i = .int .i64 (7 - (k : Int)) ∧ Lib.OwnBuf w.heap.size 5 v (j + 1 + k) (cells (128 :: (List.replicate j 0 ++ by8 m k))) w wr) (fun _ i _ => (intOf i + 1).toNat)
      case atStart => exact ⟨0, Nat.zero_le _, by simp, by simpa [by8] using hown⟩
      case round =>
        clear hown
        obtain ⟨k, hk, rfl, hown⟩ := hrel
        by_cases hlt : k < 8
        · have eM := HEM.out
          have n1 : ((8 : Int) * (7 - (k : Int))).toNat = 56 - 8 * k := by omega
          have p1 : 0 ≤ (8 : Int) * (7 - (k : Int)) := by omega
          have q1 : (8 : Int) * (7 - (k : Int)) ≤ 64 := by omega
          have g1 : 0 ≤ 7 - (k : Int) := by omega
          obtain ⟨c, hc⟩ : ∃ c, m / 2 ^ (56 - 8 * k) % 256 = c := ⟨_, rfl⟩
          have ec : (m : Int) / 2 ^ (56 - 8 * k) % 256 = (c : Int) := by
            rw [← hc, Int.natCast_emod, Int.natCast_ediv, Int.natCast_pow]
            rfl
          have HC := Lib.hid hc
          clear hc
          go_wp2_with (at_builtin; go_must (refine Lib.wpList_append_byte rfl _ _ 57 rfl w.heap.size 5 i0 Tryd.underlying57 hi hz0 hz1 hz2 u3 (j + 1 + k) _ rfl w wr _ hown rfl (by omega) ?_))
          intro v2 w2 h2
          have R := pad_step HC.out h2
          clear h2 hown ec n1 p1 q1 eM
          go_wp2
          go_roundw
          case rel => exact ⟨k + 1, by omega, by go_num, R⟩
          case measure => simp [intOf]; omega
        · obtain rfl : k = 8 := by omega
          have hst := run_string w.heap.size u3 (128 :: (List.replicate j 0 ++ by8 m 8)) w wr (by
            have := hown
            rw [pad_len]
            exact this)
          go_wp2
          go_ret
          exact ⟨rfl, hown.2.1⟩

theorem rpad (n : Nat) (hn : n ≤ 9223372036854775807) (w : World) :
    Calls Tryd.prog 42 #[.int .i64 n] w fun e w' => e = .returned (.string (bs (padOf n))) ∧ Below w.heap.size w w' :=
  rpad_this n _ _ hn (Lib.hid rfl) (Lib.hid rfl) w
theorem rpadAny (n : Int) (hn : n ≤ 9223372036854775807) (w : World) :
    Calls Tryd.prog 42 #[.int .i64 n] w fun e w' => e = .returned (.string (bs (padI n))) ∧ Below w.heap.size w w' := by
  unfold padI
  by_cases h : n < 0
  · rw [if_pos h]
    refine (rpad_neg n h w).mono ?_
    rintro e w' ⟨rfl, rfl⟩
    exact ⟨rfl, Below.refl _ _⟩
  · rw [if_neg h]
    have e : n = (n.toNat : Int) := by omega
    have k := rpad n.toNat (by omega) w
    rw [← e] at k
    exact k
end Go.Proofs.YtjohkimjdkginaaDoor.W
/-
  Headers as values, compared.
-/
namespace Go.Proofs.YtjohkimjdkginaaDoor.W
open Go.RowKit

theorem str_iff (x y : ByteArray) : x.toList = y.toList ↔ x = y := ⟨fun h => str_eq (by rw [h]; simp), fun h => by rw [h]⟩
set_option maxRecDepth 100000 in
/-- two headers as Go compares them -/
theorem eq_hd5 (c c' r r' m m' : ByteArray) (a a' b b' : Int) (w : World) :
    (Op.equalIn 10000 23 (.agg #[.string c, .int .i64 a, .int .i64 b, .string r, .string m]) (.agg #[.string c', .int .i64 a', .int .i64 b', .string r', .string m'])).run Tryd.prog w = .ok (decide (c = c' ∧ a = a' ∧ b = b' ∧ r = r' ∧ m = m')) w := by
  have u1 := Tryd.underlying3
  have u2 := Tryd.underlying9
  have a1 := Tryd.isAgg3
  have a2 := Tryd.isAgg9
  have z1 := Tryd.sizeOf3
  have z2 := Tryd.sizeOf9
  have hS : Tryd.prog.underlying 23 = some (.struct (Tryd.prog.fieldsOf 23)) := by kernel_rfl
  have hp : Tryd.prog.stoodInHeld 23 = false := by kernel_rfl
  rw [show (10000 : Nat) = 9999 + 1 from rfl, run_equalIn_agg w 9999 23 _ _ hS hp]
  simp only [Program.fieldsOf, Tryd.underlying23]
  go_simp
  by_cases h1 : c = c' <;> by_cases h2 : a = a' <;> by_cases h3 : b = b' <;> by_cases h4 : r = r' <;> by_cases h5 : m = m' <;> simp [h1, h2, h3, h4, h5, str_iff]
theorem eq_hd (x y : Hdr) (w : World) : (Op.equalIn 10000 23 (hdV x) (hdV y)).run Tryd.prog w = .ok (decide (x = y)) w := by
  unfold hdV
  rw [eq_hd5]
  have e : (x.chain = y.chain ∧ x.height = y.height ∧ x.time = y.time ∧ x.root = y.root ∧ x.mac = y.mac) ↔ x = y := by
    obtain ⟨c, a, b, r, m⟩ := x
    obtain ⟨c', a', b', r', m'⟩ := y
    simp
  rw [decide_eq_decide.mpr e]
end Go.Proofs.YtjohkimjdkginaaDoor.W
/-
  cmp.Or of numbers of errors: the first of them that is not zero.
-/
namespace Go.Proofs.YtjohkimjdkginaaDoor.W
open Go.RowKit

def orOf : List Int → Int
  | [] => 0
  | e :: l => if e ≠ 0 then e else orOf l
set_option maxHeartbeats 2000000 in
set_option maxRecDepth 100000 in
theorem orC (g c : Nat) (l : List Int) (w : World) (h : ∀ (i : Nat) (hi : i < l.length), w.cell? ⟨g, i, none⟩ = some (.int .i64 l[i])) (hn : l.length ≤ 1000000) :
    Calls Tryd.prog 19 #[.slice (some ⟨g, 0, none⟩) l.length c] w fun e w' => e = .returned (.int .i64 (orOf l)) ∧ Since w w' := by
  obtain ⟨r, hr⟩ : ∃ r, r = orOf l := ⟨_, rfl⟩
  rw [← hr]
  have HR := Lib.hid hr
  have HC := Lib.hid h
  clear hr h
  go_enter Tryd.func19, Tryd.ntmps19
  go_wp2
  go_loopw [8] (fun i wr => ∃ k : Nat, k ≤ l.length ∧ i = .int .i64 k ∧ Hid (r = orOf (l.drop k)) ∧ Hid (Since w wr)) (fun i _ => l.length - (intOf i).toNat)
  case atStart => exact ⟨0, Nat.zero_le _, rfl, Lib.hid (by rw [List.drop_zero]; exact HR.out), Lib.hid (Since.refl w)⟩
  case round =>
    obtain ⟨k, hk, rfl, HT, HS⟩ := hrel
    by_cases hlt : k < l.length
    · have hc := HS.out.cell (HC.out k hlt)
      have hi0 : (0 : Int) ≤ k := by omega
      have hi1 : (k : Int) < (l.length : Int) := by omega
      have hT2 := HT.out
      rw [List.drop_eq_getElem_cons hlt, orOf] at hT2
      obtain ⟨x, hx⟩ : ∃ x, x = l[k] := ⟨_, rfl⟩
      rw [← hx] at hc hT2
      clear hx HT HC HR
      by_cases h1 : x = 0
      · subst h1
        rw [if_neg (by simp)] at hT2
        have HT2 := Lib.hid hT2
        clear hT2
        go_wp2
        go_roundw
        case rel => exact ⟨k + 1, by omega, by go_num, HT2, HS⟩
        case measure => simp [intOf]; omega
      · rw [if_pos h1] at hT2
        subst hT2
        have hb : (r != 0) = true := by rw [bne_iff_ne]; exact h1
        go_wp2
        go_ret
        exact ⟨rfl, HS.out⟩
    · obtain rfl : k = l.length := by omega
      have h3 : r = 0 := by have := HT.out; rw [List.drop_length] at this; exact this
      subst h3
      go_wp2
      go_ret
      exact ⟨rfl, HS.out⟩
theorem or2 (t : TypeId) (e f : Int) (W : World) (g : Nat) (h : Blk W g t #[.int .i64 e, .int .i64 f]) :
    Calls Tryd.prog 19 #[.slice (some ⟨g, 0, none⟩) 2 2] W fun en w' => en = .returned (.int .i64 (orOf [e, f])) ∧ Since W w' :=
  orC g 2 [e, f] W (fun i hi => by
    match i, hi with
    | 0, _ => exact (h.cell 0).trans rfl
    | 1, _ => exact (h.cell 1).trans rfl) (by simp)
theorem or4 (t : TypeId) (e f a b : Int) (W : World) (g : Nat) (h : Blk W g t #[.int .i64 e, .int .i64 f, .int .i64 a, .int .i64 b]) :
    Calls Tryd.prog 19 #[.slice (some ⟨g, 0, none⟩) 4 4] W fun en w' => en = .returned (.int .i64 (orOf [e, f, a, b])) ∧ Since W w' :=
  orC g 4 [e, f, a, b] W (fun i hi => by
    match i, hi with
    | 0, _ => exact (h.cell 0).trans rfl
    | 1, _ => exact (h.cell 1).trans rfl
    | 2, _ => exact (h.cell 2).trans rfl
    | 3, _ => exact (h.cell 3).trans rfl) (by simp)
end Go.Proofs.YtjohkimjdkginaaDoor.W
/-
  header.signedPart and header.Put.
-/
namespace Go.Proofs.YtjohkimjdkginaaDoor.W
open Go.RowKit

theorem body_or (h : Hdr) : bodyOf h = if orOf [(encText h.chain).2, (encNum h.height).2, (encNum h.time).2, (encText h.root).2] ≠ 0 then ([], orOf [(encText h.chain).2, (encNum h.height).2, (encNum h.time).2, (encText h.root).2]) else ((((encText h.chain).1 ++ (encNum h.height).1) ++ (encNum h.time).1) ++ (encText h.root).1, 0) := by
  unfold bodyOf
  generalize encText h.chain = p1
  generalize encNum h.height = p2
  generalize encNum h.time = p3
  generalize encText h.root = p4
  obtain ⟨s1, f1⟩ := p1
  obtain ⟨s2, f2⟩ := p2
  obtain ⟨s3, f3⟩ := p3
  obtain ⟨s4, f4⟩ := p4
  simp only [radd, orOf]
  by_cases h1 : f1 = 0 <;> by_cases h2 : f2 = 0 <;> by_cases h3 : f3 = 0 <;> by_cases h4 : f4 = 0 <;> simp [h1, h2, h3, h4]
theorem hd_or (h : Hdr) : encHd h = if orOf [(bodyOf h).2, (encText h.mac).2] ≠ 0 then ([], orOf [(bodyOf h).2, (encText h.mac).2]) else ((bodyOf h).1 ++ (encText h.mac).1, 0) := by
  unfold encHd
  generalize bodyOf h = p1
  generalize encText h.mac = p2
  obtain ⟨s1, f1⟩ := p1
  obtain ⟨s2, f2⟩ := p2
  simp only [radd, orOf]
  by_cases h1 : f1 = 0 <;> by_cases h2 : f2 = 0 <;> simp [h1, h2]
set_option maxHeartbeats 2000000 in
set_option maxRecDepth 100000 in
theorem part_this (c : ByteArray) (a b : Int) (r m : ByteArray) (s1 s2 s3 s4 : List UInt8) (f1 f2 f3 f4 o : Int) (w : World) (l1 : s1.length ≤ 100000) (l2 : s2.length ≤ 100000) (l3 : s3.length ≤ 100000) (l4 : s4.length ≤ 100000)
    (K1 : Hid (∀ W, Calls Tryd.prog 18 #[.string c] W fun e w' => e = .returned (.tuple #[.string (bs s1), .int .i64 f1]) ∧ Below W.heap.size W w'))
    (K2 : Hid (∀ W, Calls Tryd.prog 32 #[.int .i64 a] W fun e w' => e = .returned (.tuple #[.string (bs s2), .int .i64 f2]) ∧ Below W.heap.size W w'))
    (K3 : Hid (∀ W, Calls Tryd.prog 32 #[.int .i64 b] W fun e w' => e = .returned (.tuple #[.string (bs s3), .int .i64 f3]) ∧ Below W.heap.size W w'))
    (K4 : Hid (∀ W, Calls Tryd.prog 18 #[.string r] W fun e w' => e = .returned (.tuple #[.string (bs s4), .int .i64 f4]) ∧ Below W.heap.size W w'))
    (O : Hid (∀ W g, Blk W g 25 #[.int .i64 f1, .int .i64 f2, .int .i64 f3, .int .i64 f4] → Calls Tryd.prog 19 #[.slice (some ⟨g, 0, none⟩) 4 4] W fun e w' => e = .returned (.int .i64 o) ∧ Since W w')) :
    Calls Tryd.prog 17 #[.agg #[.string c, .int .i64 a, .int .i64 b, .string r, .string m]] w fun e w' => e = .returned (retSE (if o ≠ 0 then ([], o) else (((s1 ++ s2) ++ s3) ++ s4, 0))) ∧ Since w w' := by
  have HB := Lib.hid (Blk.new w 23 #[.string c, .int .i64 a, .int .i64 b, .string r, .string m])
  have HS := Lib.hid (show Since w (w.alloc (.cells #[.string c, .int .i64 a, .int .i64 b, .string r, .string m] 23)) from since_of ((Below.refl _ w).alloc (Nat.le_refl _) _))
  have a1 : ∀ W, (Op.stringOp .add (bs s1) (bs s2)).run Tryd.prog W = .ok (.string (bs (s1 ++ s2))) W := fun W => run_add W s1 s2 (by omega)
  have a2 : ∀ W, (Op.stringOp .add (bs (s1 ++ s2)) (bs s3)).run Tryd.prog W = .ok (.string (bs ((s1 ++ s2) ++ s3))) W := fun W => run_add W _ _ (by rw [List.length_append]; omega)
  have a3 : ∀ W, (Op.stringOp .add (bs ((s1 ++ s2) ++ s3)) (bs s4)).run Tryd.prog W = .ok (.string (bs (((s1 ++ s2) ++ s3) ++ s4))) W := fun W => run_add W _ _ (by rw [List.length_append, List.length_append]; omega)
  obtain ⟨⟨p1, p2⟩, hp⟩ : ∃ p : List UInt8 × Int, p = if o ≠ 0 then ([], o) else (((s1 ++ s2) ++ s3) ++ s4, 0) := ⟨_, rfl⟩
  rw [← hp]
  generalize ((s1 ++ s2) ++ s3) ++ s4 = x3 at *
  generalize (s1 ++ s2) ++ s3 = x2 at *
  generalize s1 ++ s2 = x1 at *
  have HP := Lib.hid hp
  clear hp
  unfold retSE
  clear l1 l2 l3 l4
  have y0 : (w.alloc (.cells #[.string c, .int .i64 a, .int .i64 b, .string r, .string m] 23)).cell? ⟨w.heap.size, 0, none⟩ = some (.string c) := HB.out.c 0 rfl
  go_enter Tryd.func17, Tryd.ntmps17
  go_wp2_with fail
  refine (K1.out _).mono ?_
  rintro e w1 ⟨rfl, q1⟩
  have X1 := Lib.hid (HB.out.next q1)
  have S1 := Lib.hid (since_of (step_below HS.out.below q1))
  clear HB HS K1 q1 y0
  have y0 : w1.cell? ⟨w.heap.size, 1, none⟩ = some (.int .i64 a) := X1.out.c 1 rfl
  go_wp2_with fail
  refine (K2.out _).mono ?_
  rintro e w2 ⟨rfl, q2⟩
  have X2 := Lib.hid (X1.out.next q2)
  have S2 := Lib.hid (since_of (step_below S1.out.below q2))
  clear X1 S1 K2 q2 y0
  have y0 : w2.cell? ⟨w.heap.size, 2, none⟩ = some (.int .i64 b) := X2.out.c 2 rfl
  go_wp2_with fail
  refine (K3.out _).mono ?_
  rintro e w3 ⟨rfl, q3⟩
  have X3 := Lib.hid (X2.out.next q3)
  have S3 := Lib.hid (since_of (step_below S2.out.below q3))
  clear X2 S2 K3 q3 y0
  have y0 : w3.cell? ⟨w.heap.size, 3, none⟩ = some (.string r) := X3.out.c 3 rfl
  go_wp2_with fail
  refine (K4.out _).mono ?_
  rintro e w4 ⟨rfl, q4⟩
  have S4 := Lib.hid (since_of (step_below S3.out.below q4))
  clear X3 S3 K4 q4 y0
  have B5 := Lib.hid (Blk.new w4 25 #[.int .i64 f1, .int .i64 f2, .int .i64 f3, .int .i64 f4])
  have S5 := Lib.hid (show Since w (w4.alloc (.cells #[.int .i64 f1, .int .i64 f2, .int .i64 f3, .int .i64 f4] 25)) from since_of (S4.out.below.alloc S4.out.below.size _))
  clear S4
  go_wp2_with fail
  refine (O.out _ _ B5.out).mono ?_
  rintro e w6 ⟨rfl, q6⟩
  have S6 := Lib.hid (since_of (step_below S5.out.below q6.below))
  clear S5 B5 O q6
  by_cases ho : o = 0
  · subst ho
    have hp := HP.out
    rw [if_neg (by simp)] at hp
    obtain ⟨rfl, rfl⟩ := Prod.mk.inj hp
    clear hp HP
    go_wp2
    go_ret2
    exact ⟨rfl, S6.out⟩
  · have hb : (o != 0) = true := by rw [bne_iff_ne]; exact ho
    have hp := HP.out
    rw [if_pos ho] at hp
    obtain ⟨rfl, rfl⟩ := Prod.mk.inj hp
    clear hp HP ho
    go_wp2
    go_ret2
    exact ⟨rfl, S6.out⟩
theorem partC (h : Hdr) (w : World) : Calls Tryd.prog 17 #[hdV h] w fun e w' => e = .returned (retSE (bodyOf h)) ∧ Since w w' := by
  have t1 := encText_len h.chain
  have t2 := encNum_len h.height
  have t3 := encNum_len h.time
  have t4 := encText_len h.root
  rw [body_or]
  exact part_this h.chain h.height h.time h.root h.mac _ _ _ _ _ _ _ _ _ w (by omega) (by omega) (by omega) (by omega) (Lib.hid fun W => wText _ W) (Lib.hid fun W => wNum _ W) (Lib.hid fun W => wNum _ W) (Lib.hid fun W => wText _ W) (Lib.hid fun W g hB => or4 _ _ _ _ _ W g hB)
set_option maxHeartbeats 2000000 in
set_option maxRecDepth 100000 in
theorem hput_this (c : ByteArray) (a b : Int) (r m : ByteArray) (s1 s2 : List UInt8) (f1 f2 o : Int) (w : World) (l1 : s1.length ≤ 1000000) (l2 : s2.length ≤ 1000000)
    (K1 : Hid (∀ W, Calls Tryd.prog 17 #[.agg #[.string c, .int .i64 a, .int .i64 b, .string r, .string m]] W fun e w' => e = .returned (.tuple #[.string (bs s1), .int .i64 f1]) ∧ Since W w'))
    (K2 : Hid (∀ W, Calls Tryd.prog 18 #[.string m] W fun e w' => e = .returned (.tuple #[.string (bs s2), .int .i64 f2]) ∧ Below W.heap.size W w'))
    (O : Hid (∀ W g, Blk W g 25 #[.int .i64 f1, .int .i64 f2] → Calls Tryd.prog 19 #[.slice (some ⟨g, 0, none⟩) 2 2] W fun e w' => e = .returned (.int .i64 o) ∧ Since W w')) :
    Calls Tryd.prog 7 #[.agg #[.string c, .int .i64 a, .int .i64 b, .string r, .string m]] w fun e w' => e = .returned (retSE (if o ≠ 0 then ([], o) else (s1 ++ s2, 0))) ∧ Since w w' := by
  have HB := Lib.hid (Blk.new w 23 #[.string c, .int .i64 a, .int .i64 b, .string r, .string m])
  have HS := Lib.hid (show Since w (w.alloc (.cells #[.string c, .int .i64 a, .int .i64 b, .string r, .string m] 23)) from since_of ((Below.refl _ w).alloc (Nat.le_refl _) _))
  have a1 : ∀ W, (Op.stringOp .add (bs s1) (bs s2)).run Tryd.prog W = .ok (.string (bs (s1 ++ s2))) W := fun W => run_add W s1 s2 (by omega)
  obtain ⟨⟨p1, p2⟩, hp⟩ : ∃ p : List UInt8 × Int, p = if o ≠ 0 then ([], o) else (s1 ++ s2, 0) := ⟨_, rfl⟩
  rw [← hp]
  have HP := Lib.hid hp
  clear hp
  unfold retSE
  clear l1 l2
  have y0 : (w.alloc (.cells #[.string c, .int .i64 a, .int .i64 b, .string r, .string m] 23)).cell? ⟨w.heap.size, 0, none⟩ = some (.string c) := HB.out.c 0 rfl
  have y1 : (w.alloc (.cells #[.string c, .int .i64 a, .int .i64 b, .string r, .string m] 23)).cell? ⟨w.heap.size, 1, none⟩ = some (.int .i64 a) := HB.out.c 1 rfl
  have y2 : (w.alloc (.cells #[.string c, .int .i64 a, .int .i64 b, .string r, .string m] 23)).cell? ⟨w.heap.size, 2, none⟩ = some (.int .i64 b) := HB.out.c 2 rfl
  have y3 : (w.alloc (.cells #[.string c, .int .i64 a, .int .i64 b, .string r, .string m] 23)).cell? ⟨w.heap.size, 3, none⟩ = some (.string r) := HB.out.c 3 rfl
  have y4 : (w.alloc (.cells #[.string c, .int .i64 a, .int .i64 b, .string r, .string m] 23)).cell? ⟨w.heap.size, 4, none⟩ = some (.string m) := HB.out.c 4 rfl
  go_enter Tryd.func7, Tryd.ntmps7
  go_wp2_with fail
  refine (K1.out _).mono ?_
  rintro e w1 ⟨rfl, q1⟩
  have X1 := Lib.hid (HB.out.next q1.below)
  have S1 := Lib.hid (since_of (step_below HS.out.below q1.below))
  clear HB HS K1 q1 y0 y1 y2 y3 y4
  have y0 : w1.cell? ⟨w.heap.size, 4, none⟩ = some (.string m) := X1.out.c 4 rfl
  go_wp2_with fail
  refine (K2.out _).mono ?_
  rintro e w2 ⟨rfl, q2⟩
  have S4 := Lib.hid (since_of (step_below S1.out.below q2))
  clear X1 S1 K2 q2 y0
  have B5 := Lib.hid (Blk.new w2 25 #[.int .i64 f1, .int .i64 f2])
  have S5 := Lib.hid (show Since w (w2.alloc (.cells #[.int .i64 f1, .int .i64 f2] 25)) from since_of (S4.out.below.alloc S4.out.below.size _))
  clear S4
  go_wp2_with fail
  refine (O.out _ _ B5.out).mono ?_
  rintro e w6 ⟨rfl, q6⟩
  have S6 := Lib.hid (since_of (step_below S5.out.below q6.below))
  clear S5 B5 O q6
  by_cases ho : o = 0
  · subst ho
    have hp := HP.out
    rw [if_neg (by simp)] at hp
    obtain ⟨rfl, rfl⟩ := Prod.mk.inj hp
    clear hp HP
    go_wp2
    go_ret2
    exact ⟨rfl, S6.out⟩
  · have hb : (o != 0) = true := by rw [bne_iff_ne]; exact ho
    have hp := HP.out
    rw [if_pos ho] at hp
    obtain ⟨rfl, rfl⟩ := Prod.mk.inj hp
    clear hp HP ho
    go_wp2
    go_ret2
    exact ⟨rfl, S6.out⟩
theorem hPutC (h : Hdr) (w : World) : Calls Tryd.prog 7 #[hdV h] w fun e w' => e = .returned (retSE (encHd h)) ∧ Since w w' := by
  have t1 := body_len h
  have t2 := encText_len h.mac
  rw [hd_or]
  exact hput_this h.chain h.height h.time h.root h.mac _ _ _ _ _ w (by omega) (by omega) (Lib.hid fun W => partC h W) (Lib.hid fun W => wText _ W) (Lib.hid fun W g hB => or2 _ _ _ W g hB)
end Go.Proofs.YtjohkimjdkginaaDoor.W
/-
  mac.Sum.
-/
namespace Go.Proofs.YtjohkimjdkginaaDoor.W
open Go.RowKit

/-- the block lies where Sum has laid it -/
def MsAt (f : List UInt8) (G : Nat) (w wr : World) : Prop := Blk wr G 66 (bv f) ∧ Below w.heap.size w wr ∧ Roots wr
theorem MsAt.next {f : List UInt8} {G : Nat} {w wr w' : World} (h : MsAt f G w wr) (hb : Below wr.heap.size wr w') : MsAt f G w w' := ⟨h.1.next hb, h.2.1.trans (hb.mono h.2.1.size), h.2.2.next hb⟩

set_option maxHeartbeats 1000000 in
set_option maxRecDepth 100000 in
theorem macSum_this (k s : ByteArray) (w : World) (hr : Roots w) (hk : k.size ≤ 1099511627776) (hs : s.size ≤ 1000000) (f m1 m2 q1 q2 : List UInt8) (h1 : mix 92 f = m1) (h2 : mix 54 f = m2)
    (h3 : shaOf (m2 ++ s.data.toList) = q1) (h4 : shaOf (m1 ++ q1) = q2) (hf : fill (keyOf k.data.toList) = f) :
    Calls Tryd.prog 28 #[.string k, .string s] w fun e w' => e = .returned (.string (bs q2)) ∧ Below w.heap.size w w' := by
  have fl : f.length = 64 := by rw [← hf, fill_len _ (keyOf_len _)]
  have hs64 : (bv f).size = 64 := by rw [bv_size, fl]
  have R0 := Lib.hid (filled k w hr hk)
  rw [hf] at R0
  have l1 : m1.length = 64 := by rw [← h1, mix_len, fl]
  have l2 : m2.length = 64 := by rw [← h2, mix_len, fl]
  have l3 : q1.length = 32 := by rw [← h3, shaOf_len]
  have a1 : ∀ W : World, (Op.stringOp .add (bs m2) s).run Tryd.prog W = .ok (.string (bs (m2 ++ s.data.toList))) W := fun W => by
    have h := run_add W m2 s.data.toList (by rw [size_list, l2]; omega)
    rwa [bs_of] at h
  have a2 : ∀ W : World, (Op.stringOp .add (bs m1) (bs q1)).run Tryd.prog W = .ok (.string (bs (m1 ++ q1))) W := fun W => run_add W m1 q1 (by omega)
  have S1 := Lib.hid (fun (W : World) (hW : Roots W) => sum (bs (m2 ++ s.data.toList)) W hW (by rw [bs_size, List.length_append, l2, size_list]; omega))
  have S2 := Lib.hid (fun (W : World) (hW : Roots W) => sum (bs (m1 ++ q1)) W hW (by rw [bs_size, List.length_append, l1, l3]; omega))
  rw [bs_data, h3] at S1
  rw [bs_data, h4] at S2
  have st := store_new64 f fl
  rw [← zero64b] at st
  have HR := Lib.hid hr
  have FL := Lib.hid fl
  have H1 := Lib.hid h1
  have H2 := Lib.hid h2
  clear h1 h2 h3 h4 hf fl hr l1 l2 l3
  go_enter Tryd.func28, Tryd.ntmps28
  go_wp2_with fail
  refine R0.out.mono ?_
  rintro e w1 ⟨rfl, b1⟩
  have HM := Lib.hid (show MsAt f w1.heap.size w (w1.alloc (.cells (bv f) 66)) from ⟨Blk.new _ _ _, b1.alloc b1.size _, (HR.out.next b1).alloc _⟩)
  clear R0 HR b1
  have st1 := st w1
  clear st
  go_wp2_with fail
  clear st1 hs64
  generalize w1.alloc (.cells (bv f) 66) = w2 at *
  generalize w1.heap.size = G at *
  clear w1
  refine (masked f 92 G w2 FL.out HM.out.1 m1 H1).mono ?_
  rintro e w3 ⟨rfl, b3⟩
  replace HM := Lib.hid (HM.out.next b3)
  clear b3 H1
  go_wp2_with fail
  refine (masked f 54 G w3 FL.out HM.out.1 m2 H2).mono ?_
  rintro e w4 ⟨rfl, b4⟩
  replace HM := Lib.hid (HM.out.next b4)
  clear b4 H2
  go_wp2_with fail
  refine (S1.out w4 HM.out.2.2).mono ?_
  rintro e w5 ⟨rfl, b5⟩
  replace HM := Lib.hid (HM.out.next b5)
  clear b5 S1 a1
  go_wp2_with fail
  refine (S2.out w5 HM.out.2.2).mono ?_
  rintro e w6 ⟨rfl, b6⟩
  replace HM := Lib.hid (HM.out.next b6)
  clear b6 S2 a2
  go_wp2
  go_ret
  exact ⟨rfl, HM.out.2.1⟩

theorem macSum (k s : ByteArray) (w : World) (hr : Roots w) (hk : k.size ≤ 1099511627776) (hs : s.size ≤ 1000000) :
    Calls Tryd.prog 28 #[.string k, .string s] w fun e w' => e = .returned (.string (bs (macOf k.data.toList s.data.toList))) ∧ Below w.heap.size w w' :=
  macSum_this k s w hr hk hs _ _ _ _ _ rfl rfl rfl rfl rfl
end Go.Proofs.YtjohkimjdkginaaDoor.W
/-
  The table of roots out of the row's list.
-/
namespace Go.Proofs.YtjohkimjdkginaaDoor.W
open Go.RowKit

theorem gRoots : Tryd.prog.globalNamed "footbridge/sha.roots" = some 0 := by kernel_rfl
theorem gRootsType : (Tryd.prog.globals[0]?).map (·.type) = some 79 := by kernel_rfl
theorem cells32 : Tryd.prog.cellsOf 71 = 1 := by kernel_rfl
theorem cellsRoots : Tryd.prog.cellsOf 79 = 64 := by kernel_rfl
theorem getD_cast (l : List Nat) (i : Nat) : (l.map fun x : Nat => (x : Int)).getD i 0 = (nth l i : Int) := by
  unfold nth
  rw [List.getD_eq_getElem?_getD, List.getD_eq_getElem?_getD, List.getElem?_map]
  cases l[i]? <;> rfl
theorem roots_of {W : World} (h : laidMetH Tryd.prog [("footbridge/sha.roots", Rows.laid_footbridge_sha_roots)] W) : Roots W := by
  have ht : Lib.TabIs Tryd.prog W "footbridge/sha.roots" .u32 (kk.map fun x : Nat => (x : Int)) :=
    Lib.tabIs_of_head (rest := []) gRoots gRootsType Tryd.underlying79 Tryd.underlying71 cells32 cellsRoots h
  intro i hi
  have hc := ht.cell gRoots i hi
  rw [hc, getD_cast]
theorem Roots.since {w W : World} (h : Roots w) (k : Since w W) : Roots W := h.next k.below
end Go.Proofs.YtjohkimjdkginaaDoor.W
