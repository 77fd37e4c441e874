/-
  sha.Block: the registers behind a block.
-/
import Derived.Test.YtbfpepiglcikbaaDoorSRounds
import Derived.Deep.RegionHeld3
namespace Go.Proofs.YtbfpepiglcikbaaDoor.W
open Go.RowKit

theorem Roots.alloc {w : World} (h : Roots w) (o : Obj) : Roots (w.alloc o) := h.next ((Below.refl _ _).alloc (Nat.le_refl _) o)
theorem Roots.drew {w : World} (h : Roots w) : Roots w.drew := h
theorem Roots.drewN {w : World} (h : Roots w) (n : Nat) : Roots (w.drewN n) := h

/-- the boxes of sha.Block -/
def BlAt (hs : List Nat) (w wr : World) : Prop :=
  Blk wr w.heap.size 44 (wv hs) ∧ Blk wr (w.heap.size + 1) 44 (wv (List.replicate 8 0)) ∧ Below w.heap.size w wr ∧ w.heap.size + 2 ≤ wr.heap.size
theorem BlAt.start (hs : List Nat) (w : World) : BlAt hs w ((w.alloc (.cells (wv hs) 44)).alloc (.cells (wv (List.replicate 8 0)) 44)) := by
  have e1 : (w.alloc (.cells (wv hs) 44)).heap.size = w.heap.size + 1 := by simp
  refine ⟨?_, ?_, ?_, ?_⟩
  · exact (Blk.new w 44 (wv hs)).alloc _
  · have h := Blk.new (w.alloc (.cells (wv hs) 44)) 44 (wv (List.replicate 8 0))
    rw [e1] at h
    exact h
  · exact ((Below.refl _ _).alloc (Nat.le_refl _) _).alloc (by simp) _
  · simp
theorem BlAt.next {hs : List Nat} {w wr w' : World} (h : BlAt hs w wr) (hb : Below wr.heap.size wr w') : BlAt hs w w' :=
  ⟨h.1.below hb h.1.lt, h.2.1.below hb h.2.1.lt, h.2.2.1.trans (hb.mono (by have := h.2.2.2; omega)), Nat.le_trans h.2.2.2 hb.size⟩
theorem BlAt.alloc {hs : List Nat} {w wr : World} (h : BlAt hs w wr) (o : Obj) : BlAt hs w (wr.alloc o) := h.next ((Below.refl _ _).alloc (Nat.le_refl _) o)
theorem BlAt.reg {hs : List Nat} {w wr : World} (h : BlAt hs w wr) (i : Nat) (hi : i < hs.length) : wr.cell? ⟨w.heap.size, i, none⟩ = some (.int .u32 (nth hs i)) := by
  rw [h.1.cell i, wv_at _ _ hi]

theorem BlAt.cells {a0 a1 a2 a3 a4 a5 a6 a7 : Nat} {w w' : World} (h : BlAt [a0, a1, a2, a3, a4, a5, a6, a7] w w') :
    w'.cell? ⟨w.heap.size, 0, none⟩ = some (.int .u32 a0) ∧ w'.cell? ⟨w.heap.size, 1, none⟩ = some (.int .u32 a1) ∧ w'.cell? ⟨w.heap.size, 2, none⟩ = some (.int .u32 a2) ∧ w'.cell? ⟨w.heap.size, 3, none⟩ = some (.int .u32 a3) ∧ w'.cell? ⟨w.heap.size, 4, none⟩ = some (.int .u32 a4) ∧ w'.cell? ⟨w.heap.size, 5, none⟩ = some (.int .u32 a5) ∧ w'.cell? ⟨w.heap.size, 6, none⟩ = some (.int .u32 a6) ∧ w'.cell? ⟨w.heap.size, 7, none⟩ = some (.int .u32 a7) :=
  ⟨h.reg 0 (by simp), h.reg 1 (by simp), h.reg 2 (by simp), h.reg 3 (by simp), h.reg 4 (by simp), h.reg 5 (by simp), h.reg 6 (by simp), h.reg 7 (by simp)⟩
theorem BlAt.drew {hs : List Nat} {w wr : World} (h : BlAt hs w wr) : BlAt hs w wr.drew := ⟨h.1, h.2.1, Below.drewN h.2.2.1 1, h.2.2.2⟩
theorem Blk.next {w w' : World} {g : Nat} {t : TypeId} {cs : Array Value} (h : Blk w g t cs) (hb : Below w.heap.size w w') : Blk w' g t cs := h.below hb h.lt
theorem Blk.setRow_far {w : World} {g k : Nat} {t : TypeId} {cs ds : Array Value} (h : Blk w g t cs) (hk : g ≠ k) : Blk (w.setRow k ds) g t cs := (setRow_other w k g ds hk).trans h
/-- behind the rounds: the working variables lie in block G -/
def FinAt (hs work : List Nat) (w : World) (G : Nat) (wr : World) : Prop := BlAt hs w wr ∧ Blk wr G 44 (wv work) ∧ w.heap.size + 2 ≤ G
theorem FinAt.start {hs work : List Nat} {w wr : World} {G : Nat} (h : BlAt hs w wr) (hG : Blk wr G 44 (wv (List.replicate 8 0))) (hge : w.heap.size + 2 ≤ G) : FinAt hs work w G (wr.setRow G (wv work)) :=
  ⟨⟨h.1.setRow_far (by omega), h.2.1.setRow_far (by omega), below_setRow h.2.2.1 (by omega), by simpa using h.2.2.2⟩, setRow_heap _ _ _ _ _ _ hG, hge⟩
theorem FinAt.last {hs work : List Nat} {w wr : World} (h : BlAt hs w wr) : FinAt hs work w wr.heap.size (wr.alloc (.cells (wv work) 44)) := ⟨h.alloc _, Blk.new _ _ _, h.2.2.2⟩
/-- eight zeros lie in block G -/
def Zero8 (W : World) (G : Nat) : Prop := Blk W G 44 (wv (List.replicate 8 0))
theorem store_old (work : List Nat) (hl : work.length = 8) (W : World) (G : Nat) (hG : Zero8 W G) :
    (storeCells ⟨G, 0, none⟩ (wv work).toList).run Tryd.prog W = .ok () (W.setRow G (wv work)) := by
  have h := run_storeCells_from (P := Tryd.prog) G 44 (wv work).toList 0 (wv (List.replicate 8 0)) W hG (by simp [wv, hl]) (fun v hv => (Array.all_eq_true_iff_forall_mem.1 (wv_one work)) v (by simpa using hv))
  simpa using h
theorem store_new (work : List Nat) (hl : work.length = 8) (W : World) :
    (storeCells ⟨W.heap.size, 0, none⟩ (wv work).toList).run Tryd.prog (W.alloc (.cells (wv (List.replicate 8 0)) 44)) = .ok () (W.alloc (.cells (wv work) 44)) := by
  rw [store_old work hl _ _ (Blk.new W 44 _), World.setRow_alloc_new]
theorem FinAt.put {hs work : List Nat} {w wr : World} {G i : Nat} (h : FinAt (addTo hs work i) work w G wr) : FinAt (addTo hs work (i + 1)) work w G (wr.setCell ⟨w.heap.size, i, none⟩ (.int .u32 (wadd (nth (addTo hs work i) i) (nth work i) : Nat))) := by
  obtain ⟨⟨h1, h2, h3, h4⟩, h5, h6⟩ := h
  refine ⟨⟨?_, h2.far (by simp) _, h3.setCell (by simp) _, by simpa [World.setCell] using h4⟩, h5.far (by simp; omega) _, h6⟩
  have := h1.set_ i (.int .u32 (wadd (nth (addTo hs work i) i) (nth work i) : Nat))
  rw [wv_set] at this
  exact this
theorem FinAt.drew {hs work : List Nat} {w wr : World} {G : Nat} (h : FinAt hs work w G wr) : FinAt hs work w G wr.drew := ⟨h.1.drew, h.2.1, h.2.2⟩

set_option maxHeartbeats 8000000 in
set_option maxRecDepth 100000 in
theorem block_this (a0 a1 a2 a3 a4 a5 a6 a7 : Nat) (s : ByteArray) (w : World) (hr : Roots w) (hs : s.size ≤ maxLen) (out : List Nat) (HO : Hid (blk [a0, a1, a2, a3, a4, a5, a6, a7] s.data.toList = out)) :
    Calls Tryd.prog 34 #[.agg (wv [a0, a1, a2, a3, a4, a5, a6, a7]), .string s] w fun e w' => e = .returned (.agg (wv out)) ∧ Below w.heap.size w w' := by
  have HR := Lib.hid (hr.alloc (.cells (wv [a0, a1, a2, a3, a4, a5, a6, a7]) 44) |>.alloc (.cells (wv (List.replicate 8 0)) 44))
  have HB := Lib.hid (BlAt.start [a0, a1, a2, a3, a4, a5, a6, a7] w)
  clear hr
  go_enter Tryd.func34, Tryd.ntmps34
  go_wp2
  rw [zero8]
  generalize (w.alloc (Obj.cells (wv [a0, a1, a2, a3, a4, a5, a6, a7]) 44)).alloc (Obj.cells (wv (List.replicate 8 0)) 44) = w1 at *
  have X0 := Lib.hid HB.out.drew
  have s1 := store_old (rds (arr s.data.toList 64) (regOf [a0, a1, a2, a3, a4, a5, a6, a7]) 64).list rfl
  have s2 := store_new (rds (arr s.data.toList 64) (regOf [a0, a1, a2, a3, a4, a5, a6, a7]) 64).list rfl
  rw [← zero8] at s2
  have c0 : w1.cell? ⟨w.heap.size, 0, none⟩ = some (.int .u32 a0) := HB.out.reg 0 (by simp)
  have c1 : w1.cell? ⟨w.heap.size, 1, none⟩ = some (.int .u32 a1) := HB.out.reg 1 (by simp)
  have c2 : w1.cell? ⟨w.heap.size, 2, none⟩ = some (.int .u32 a2) := HB.out.reg 2 (by simp)
  have c3 : w1.cell? ⟨w.heap.size, 3, none⟩ = some (.int .u32 a3) := HB.out.reg 3 (by simp)
  have c4 : w1.cell? ⟨w.heap.size, 4, none⟩ = some (.int .u32 a4) := HB.out.reg 4 (by simp)
  have c5 : w1.cell? ⟨w.heap.size, 5, none⟩ = some (.int .u32 a5) := HB.out.reg 5 (by simp)
  have c6 : w1.cell? ⟨w.heap.size, 6, none⟩ = some (.int .u32 a6) := HB.out.reg 6 (by simp)
  have c7 : w1.cell? ⟨w.heap.size, 7, none⟩ = some (.int .u32 a7) := HB.out.reg 7 (by simp)
  go_region_held3 (fun w' => w'.cell? ⟨w.heap.size, 0, none⟩ = some (.int .u32 a0) ∧ w'.cell? ⟨w.heap.size, 1, none⟩ = some (.int .u32 a1) ∧ w'.cell? ⟨w.heap.size, 2, none⟩ = some (.int .u32 a2) ∧ w'.cell? ⟨w.heap.size, 3, none⟩ = some (.int .u32 a3) ∧ w'.cell? ⟨w.heap.size, 4, none⟩ = some (.int .u32 a4) ∧ w'.cell? ⟨w.heap.size, 5, none⟩ = some (.int .u32 a5) ∧ w'.cell? ⟨w.heap.size, 6, none⟩ = some (.int .u32 a6) ∧ w'.cell? ⟨w.heap.size, 7, none⟩ = some (.int .u32 a7))
    (first
      | exact BlAt.cells (X0.out.next b4)
      | exact BlAt.cells ((X0.out.alloc _).next b4)
      | exact BlAt.cells ((X0.out.next b4).alloc _)
      | exact BlAt.cells ((X0.out.next b4).next b5)
      | exact BlAt.cells (((X0.out.alloc _).next b4).next b5)
      | exact BlAt.cells (((X0.out.next b4).alloc _).next b5)
      | exact BlAt.cells (((X0.out.next b4).next b5).alloc _)
      | exact BlAt.cells (((X0.out.next b4).next b5).alloc _)
      | exact BlAt.cells (FinAt.start (work := (rds (arr s.data.toList 64) (regOf [a0, a1, a2, a3, a4, a5, a6, a7]) 64).list) (((X0.out.alloc _).next b4).next b5) hz X0.out.2.2.2).1
      | exact BlAt.cells (FinAt.start (work := (rds (arr s.data.toList 64) (regOf [a0, a1, a2, a3, a4, a5, a6, a7]) 64).list) (((X0.out.next b4).alloc _).next b5) hz (X0.out.next b4).2.2.2).1
      | go_keep)
    (first
      | (go_at_call 42; refine (schedule s _ hs).mono ?_; rintro en w4 ⟨rfl, b4⟩)
      | (go_at_call 41; refine (rounds [a0, a1, a2, a3, a4, a5, a6, a7] (arr s.data.toList 64) _ (HR.out.drew.next b4) rfl (arr_len _ _)).mono ?_; rintro en w5 ⟨rfl, b5⟩)
      | (go_at_call 41; refine (rounds [a0, a1, a2, a3, a4, a5, a6, a7] (arr s.data.toList 64) _ ((HR.out.drew.alloc _).next b4) rfl (arr_len _ _)).mono ?_; rintro en w5 ⟨rfl, b5⟩; have hz : Zero8 w5 w1.heap.size := ((Blk.new w1.drew _ _).next b4).next b5)
      | (go_at_call 41; refine (rounds [a0, a1, a2, a3, a4, a5, a6, a7] (arr s.data.toList 64) _ ((HR.out.drew.next b4).alloc _) rfl (arr_len _ _)).mono ?_; rintro en w5 ⟨rfl, b5⟩; have hz : Zero8 w5 w4.heap.size := (Blk.new w4 _ _).next b5))
  have hF := Lib.hid (FinAt.last (work := (rds (arr s.data.toList 64) (regOf [a0, a1, a2, a3, a4, a5, a6, a7]) 64).list) ((X0.out.next b4).next b5))
  clear b4 b5 s1 s2 X0 HR HB c0 c1 c2 c3 c4 c5 c6 c7
  generalize w5.alloc (Obj.cells (wv (rds (arr s.data.toList 64) (regOf [a0, a1, a2, a3, a4, a5, a6, a7]) 64).list) 44) = w6 at *
  generalize w5.heap.size = G at *
  clear w5 w4 w1
  rotate_left
  have hF := Lib.hid (FinAt.start (work := (rds (arr s.data.toList 64) (regOf [a0, a1, a2, a3, a4, a5, a6, a7]) 64).list) (((X0.out.next b4).alloc _).next b5) hz (X0.out.next b4).2.2.2)
  clear hz b4 b5 s1 s2 X0 HR HB c0 c1 c2 c3 c4 c5 c6 c7
  generalize w5.setRow w4.heap.size (wv (rds (arr s.data.toList 64) (regOf [a0, a1, a2, a3, a4, a5, a6, a7]) 64).list) = w6 at *
  generalize w4.heap.size = G at *
  clear w5 w4 w1
  rotate_left
  have hF := Lib.hid (show FinAt [a0, a1, a2, a3, a4, a5, a6, a7] _ w w1.heap.size _ from FinAt.start (work := (rds (arr s.data.toList 64) (regOf [a0, a1, a2, a3, a4, a5, a6, a7]) 64).list) (((X0.out.alloc _).next b4).next b5) hz X0.out.2.2.2)
  clear hz b4 b5 s1 s2 X0 HR HB c0 c1 c2 c3 c4 c5 c6 c7
  generalize w5.setRow w1.heap.size (wv (rds (arr s.data.toList 64) (regOf [a0, a1, a2, a3, a4, a5, a6, a7]) 64).list) = w6 at *
  generalize w1.heap.size = G at *
  clear w5 w4 w1
  rotate_left
  all_goals
    obtain ⟨work, hwork⟩ : ∃ work, (rds (arr s.data.toList 64) (regOf [a0, a1, a2, a3, a4, a5, a6, a7]) 64).list = work := ⟨_, rfl⟩
    have HL := Lib.hid (show work.length = 8 by rw [← hwork]; rfl)
    have HO2 := Lib.hid (show addTo [a0, a1, a2, a3, a4, a5, a6, a7] work 8 = out by rw [← hwork]; exact HO.out)
    rw [hwork] at hF
    simp only [hwork]
    clear hwork HO
    go_wp2
    go_loopw [11] (fun i wr => ∃ k : Nat, k ≤ 8 ∧ i = .int .i64 k ∧ FinAt (addTo [a0, a1, a2, a3, a4, a5, a6, a7] work k) work w G wr) (fun i _ => 8 - (intOf i).toNat)
    case atStart => exact ⟨0, Nat.zero_le _, rfl, hF.out⟩
    case round =>
      clear hF
      obtain ⟨k, hk, rfl, hF⟩ := hrel
      by_cases hlt : k < 8
      · have c1 := hF.1.reg k (by rw [addTo_len]; exact hlt)
        have c2 : wr.cell? ⟨G, k, none⟩ = some (.int .u32 (nth work k)) := by rw [hF.2.1.cell k, wv_at _ _ (by rw [HL.out]; exact hlt)]
        have f1 : wr.frozen? ⟨w.heap.size, k, none⟩ = false := hF.1.1.frozen k
        have HF2 := Lib.hid hF.put.drew
        obtain ⟨x, hx⟩ : ∃ x, nth (addTo [a0, a1, a2, a3, a4, a5, a6, a7] work k) k = x := ⟨_, rfl⟩
        obtain ⟨y, hy⟩ : ∃ y, nth work k = y := ⟨_, rfl⟩
        rw [hx] at c1
        rw [hy] at c2
        rw [hx, hy] at HF2
        have hl8 : (k : Int) < 8 := by omega
        have hadd := r_add
        clear hF hx hy
        go_wp2
        go_region
        clear c1 c2 f1 hadd
        generalize World.drew _ = w7 at *
        go_wp2
        go_roundw
        case rel => exact ⟨k + 1, by omega, by go_num, HF2.out⟩
        case measure => simp [intOf]; omega
      · obtain rfl : k = 8 := by omega
        rw [HO2.out] at hF
        have HQ := Lib.hid (show out.length = 8 by rw [← HO2.out, addTo_len]; rfl)
        have HF := Lib.hid hF
        clear hF
        go_wp2_with (first
          | (refine wpList_load_row rfl 44 _ rfl w.heap.size rfl 44 _ (0, 0) _ HF.out.1.1 Tryd.underlying44 rfl (by rw [wv_size, HQ.out]; exact info8) ?_)
          | (refine wpList_store_row rfl 44 _ _ rfl (w.heap.size + 1) (wv out) rfl rfl 44 (wv (List.replicate 8 0)) HF.out.1.2.1 (by rw [wv_size, HQ.out]; exact info8) (by rw [wv_size, wv_size, HQ.out]; rfl) (wv_one _) ?_))
        have hb : Below w.heap.size w (wr.setRow (w.heap.size + 1) (wv out)) := below_setRow HF.out.1.2.2.1 (by omega)
        exact bodyPost_ret (v := .agg (wv out)) (results_cell_row Tryd.results34 _ _ (w.heap.size + 1) 44 _ (0, 0) _ rfl (setRow_heap _ _ _ _ _ _ HF.out.1.2.1) Tryd.underlying44 rfl (by rw [wv_size, HQ.out]; exact info8)) rfl ⟨rfl, hb⟩

theorem block (hs : List Nat) (s : ByteArray) (w : World) (hr : Roots w) (hz : s.size ≤ maxLen) (h8 : hs.length = 8) :
    Calls Tryd.prog 34 #[.agg (wv hs), .string s] w fun e w' => e = .returned (.agg (wv (blk hs s.data.toList))) ∧ Below w.heap.size w w' := by
  match hs, h8 with
  | [a0, a1, a2, a3, a4, a5, a6, a7], _ => exact block_this a0 a1 a2 a3 a4 a5 a6 a7 s w hr hz _ (Lib.hid rfl)
end Go.Proofs.YtbfpepiglcikbaaDoor.W
