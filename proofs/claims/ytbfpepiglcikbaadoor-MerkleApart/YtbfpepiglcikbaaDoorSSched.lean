/-
  sha.schedule: the words of a block, one for each round.
-/
import Derived.Test.YtbfpepiglcikbaaDoorSRun
import Derived.Deep.WholeRow
import Derived.BigRegion
namespace Go.Proofs.YtbfpepiglcikbaaDoor.W
open Go.RowKit

/-- words as cells -/
def wv (l : List Nat) : Array Value := (l.map fun x : Nat => Value.int .u32 (x : Int)).toArray
theorem wv_size (l : List Nat) : (wv l).size = l.length := by simp [wv]
theorem wv_at (l : List Nat) (i : Nat) (h : i < l.length) : (wv l)[i]? = some (.int .u32 (nth l i)) := by
  unfold wv
  rw [List.getElem?_toArray, List.getElem?_map, nth_lt l i h]
  rfl
theorem wv_set (l : List Nat) (i v : Nat) : (wv l).setIfInBounds i (.int .u32 (v : Int)) = wv (l.set i v) := by
  apply Array.toList_inj.1
  simp [wv, List.map_set]
theorem wv_one (l : List Nat) : (wv l).all (·.oneCell') = true := by
  rw [Array.all_eq_true_iff_forall_mem]
  intro v hv
  simp [wv] at hv
  obtain ⟨x, _, rfl⟩ := hv
  rfl
theorem drewN_blk {w : World} {g : Nat} {t : TypeId} {cs : Array Value} (h : Blk w g t cs) (n : Nat) : Blk (w.drewN n) g t cs := h
theorem drewN_size (w : World) (n : Nat) : (w.drewN n).heap.size = w.heap.size := rfl

/-- the schedule's array lies in the second new block, the result's in the first -/
def SchedAt (l : List UInt8) (w : World) (t : Nat) (wr : World) : Prop :=
  Blk wr (w.heap.size + 1) 57 (wv (arr l t)) ∧ Blk wr w.heap.size 57 (wv (List.replicate 64 0)) ∧ Below w.heap.size w wr ∧ wr.heap.size = w.heap.size + 2
theorem SchedAt.start (l : List UInt8) (w : World) : SchedAt l w 0 ((w.alloc (.cells (wv (List.replicate 64 0)) 57)).alloc (.cells (wv (List.replicate 64 0)) 57)) := by
  refine ⟨?_, ?_, ?_, ?_⟩
  · have h := Blk.new (w.alloc (.cells (wv (List.replicate 64 0)) 57)) 57 (wv (List.replicate 64 0))
    rw [show (w.alloc (.cells (wv (List.replicate 64 0)) 57)).heap.size = w.heap.size + 1 by simp] at h
    exact h
  · exact (Blk.new w 57 (wv (List.replicate 64 0))).alloc _
  · exact ((Below.refl _ _).alloc (Nat.le_refl _) _).alloc (by simp) _
  · simp
theorem SchedAt.put {l : List UInt8} {w wr : World} {t : Nat} (h : SchedAt l w t wr) (x : Nat) (hx : x = wordNo l (arr l t) t) : SchedAt l w (t + 1) (wr.setCell ⟨w.heap.size + 1, t, none⟩ (.int .u32 (x : Int))) := by
  subst hx
  obtain ⟨h1, h2, h3, h4⟩ := h
  refine ⟨?_, h2.far (by simp) _, h3.setCell (by simp) _, by simpa [World.setCell] using h4⟩
  have := h1.set_ t (.int .u32 (wordNo l (arr l t) t : Nat))
  rw [wv_set] at this
  exact this
theorem SchedAt.cell {l : List UInt8} {w wr : World} {t : Nat} (h : SchedAt l w t wr) (i : Nat) (hi : i < 64) : wr.cell? ⟨w.heap.size + 1, i, none⟩ = some (.int .u32 (nth (arr l t) i)) := by
  rw [h.1.cell i, wv_at _ _ (by rw [arr_len]; exact hi)]
theorem SchedAt.frozen {l : List UInt8} {w wr : World} {t : Nat} (h : SchedAt l w t wr) (i : Nat) : wr.frozen? ⟨w.heap.size + 1, i, none⟩ = false := h.1.frozen i
theorem SchedAt.drewN {l : List UInt8} {w wr : World} {t : Nat} (h : SchedAt l w t wr) (n : Nat) : SchedAt l w t (wr.drewN n) := ⟨h.1, h.2.1, Below.drewN h.2.2.1 n, h.2.2.2⟩
theorem SchedAt.drew {l : List UInt8} {w wr : World} {t : Nat} (h : SchedAt l w t wr) : SchedAt l w t wr.drew := h.drewN 1
theorem info64 : (Tryd.prog.info? 57).map (·.size) = some 64 := by kernel_rfl
theorem info8 : (Tryd.prog.info? 44).map (·.size) = some 8 := by kernel_rfl
theorem below_setRow {B : Nat} {a w : World} {g : Nat} {cs : Array Value} (h : Below B a w) (hg : B ≤ g) : Below B a (w.setRow g cs) :=
  ⟨h.os, h.tape, h.output, by have := h.size; simpa [World.setRow] using this, fun i hi => (setRow_other w g i cs (by omega)).trans (h.block i hi)⟩
theorem word4 (s : ByteArray) (k : Nat) (w : World) (hk : k < 16) (hs : s.size ≤ maxLen) :
    Calls Tryd.prog 44 #[.string s, .int .i64 (4 * (k : Int))] w fun e w' => e = .returned (.int .u32 (wordTo s.data.toList (4 * k) 4)) ∧ w = w' := by
  have h := word s (4 * k) w (by omega) hs
  rwa [show ((4 * k : Nat) : Int) = 4 * (k : Int) by omega] at h
theorem rot2 (x : Nat) (w : World) : Calls Tryd.prog 43 #[.int .u32 x, .int .i64 (-2)] w fun e w' => e = .returned (.int .u32 (rotr x 2)) ∧ w = w' := rot x 2 30 (-2) (by decide +kernel) rfl w
theorem rot6 (x : Nat) (w : World) : Calls Tryd.prog 43 #[.int .u32 x, .int .i64 (-6)] w fun e w' => e = .returned (.int .u32 (rotr x 6)) ∧ w = w' := rot x 6 26 (-6) (by decide +kernel) rfl w
theorem rot7 (x : Nat) (w : World) : Calls Tryd.prog 43 #[.int .u32 x, .int .i64 (-7)] w fun e w' => e = .returned (.int .u32 (rotr x 7)) ∧ w = w' := rot x 7 25 (-7) (by decide +kernel) rfl w
theorem rot11 (x : Nat) (w : World) : Calls Tryd.prog 43 #[.int .u32 x, .int .i64 (-11)] w fun e w' => e = .returned (.int .u32 (rotr x 11)) ∧ w = w' := rot x 11 21 (-11) (by decide +kernel) rfl w
theorem rot13 (x : Nat) (w : World) : Calls Tryd.prog 43 #[.int .u32 x, .int .i64 (-13)] w fun e w' => e = .returned (.int .u32 (rotr x 13)) ∧ w = w' := rot x 13 19 (-13) (by decide +kernel) rfl w
theorem rot17 (x : Nat) (w : World) : Calls Tryd.prog 43 #[.int .u32 x, .int .i64 (-17)] w fun e w' => e = .returned (.int .u32 (rotr x 17)) ∧ w = w' := rot x 17 15 (-17) (by decide +kernel) rfl w
theorem rot18 (x : Nat) (w : World) : Calls Tryd.prog 43 #[.int .u32 x, .int .i64 (-18)] w fun e w' => e = .returned (.int .u32 (rotr x 18)) ∧ w = w' := rot x 18 14 (-18) (by decide +kernel) rfl w
theorem rot19 (x : Nat) (w : World) : Calls Tryd.prog 43 #[.int .u32 x, .int .i64 (-19)] w fun e w' => e = .returned (.int .u32 (rotr x 19)) ∧ w = w' := rot x 19 13 (-19) (by decide +kernel) rfl w
theorem rot22 (x : Nat) (w : World) : Calls Tryd.prog 43 #[.int .u32 x, .int .i64 (-22)] w fun e w' => e = .returned (.int .u32 (rotr x 22)) ∧ w = w' := rot x 22 10 (-22) (by decide +kernel) rfl w
theorem rot25 (x : Nat) (w : World) : Calls Tryd.prog 43 #[.int .u32 x, .int .i64 (-25)] w fun e w' => e = .returned (.int .u32 (rotr x 25)) ∧ w = w' := rot x 25 7 (-25) (by decide +kernel) rfl w

set_option maxHeartbeats 4000000 in
set_option maxRecDepth 100000 in
theorem schedule (s : ByteArray) (w : World) (hs : s.size ≤ maxLen) :
    Calls Tryd.prog 42 #[.string s] w fun e w' => e = .returned (.agg (wv (arr s.data.toList 64))) ∧ Below w.heap.size w w' := by
  go_enter Tryd.func42, Tryd.ntmps42
  go_wp2
  go_loopw [10] (fun i wr => ∃ k : Nat, k ≤ 16 ∧ i = .int .i64 k ∧ SchedAt s.data.toList w k wr) (fun i _ => 16 - (intOf i).toNat)
  case atStart => exact ⟨0, Nat.zero_le _, rfl, SchedAt.start _ w⟩
  case round =>
    obtain ⟨k, hk, rfl, hS⟩ := hrel
    by_cases hlt : k < 16
    · have hc := hS.cell k (by omega)
      have hf := hS.frozen k
      have HS := Lib.hid hS
      clear hS
      go_wp2_with fail
      refine (word4 s k wr hlt hs).mono ?_
      rintro e w1 ⟨rfl, rfl⟩
      go_wp2
      go_roundw
      case rel => exact ⟨k + 1, by omega, by go_num, HS.out.put _ (by unfold wordNo; rw [if_pos hlt])⟩
      case measure => simp [intOf]; omega
    · obtain rfl : k = 16 := by omega
      have HS := Lib.hid hS
      clear hS
      rw [show ((16 : Nat) : Int) = (16 : Int) from rfl]
      go_wp2
      go_loopw [5] (fun i wr => ∃ k : Nat, 16 ≤ k ∧ k ≤ 64 ∧ i = .int .i64 k ∧ SchedAt s.data.toList w k wr) (fun i _ => 64 - (intOf i).toNat)
      case atStart => exact ⟨16, by omega, by omega, rfl, HS.out⟩
      case round =>
        clear HS
        obtain ⟨k, hk0, hk, rfl, hS⟩ := hrel
        by_cases hlt : k < 64
        · obtain ⟨y, hy⟩ : ∃ y, nth (arr s.data.toList k) (k - 2) = y := ⟨_, rfl⟩
          obtain ⟨x, hx⟩ : ∃ x, nth (arr s.data.toList k) (k - 15) = x := ⟨_, rfl⟩
          obtain ⟨a, ha⟩ : ∃ a, nth (arr s.data.toList k) (k - 7) = a := ⟨_, rfl⟩
          obtain ⟨b, hb⟩ : ∃ b, nth (arr s.data.toList k) (k - 16) = b := ⟨_, rfl⟩
          have c2 := hS.cell (k - 2) (by omega)
          have c15 := hS.cell (k - 15) (by omega)
          rw [hy] at c2
          rw [hx] at c15
          have EV := Lib.hid (show wadd (wadd (wadd (wxor (wxor (rotr y 17) (rotr y 19)) (wshr y 10)) a) (wxor (wxor (rotr x 7) (rotr x 18)) (wshr x 3))) b = wordNo s.data.toList (arr s.data.toList k) k by
            unfold wordNo nextW
            rw [if_neg (by omega), hy, hx, ha, hb]
            rfl)
          have HA := Lib.hid ha
          have HB := Lib.hid hb
          have HS := Lib.hid hS
          clear hS hy hx ha hb
          have n2 : ((k : Int) - 2).toNat = k - 2 := by omega
          have n15 : ((k : Int) - 15).toNat = k - 15 := by omega
          have p2 : 0 ≤ (k : Int) - 2 := by omega
          have p15 : 0 ≤ (k : Int) - 15 := by omega
          have q2 : (k : Int) - 2 < 64 := by omega
          have q15 : (k : Int) - 15 < 64 := by omega
          go_wp2
          go_quiet (fail)
          have HS2 := Lib.hid (HS.out.drewN nq)
          clear HS c2 c15 n2 n15 p2 p15 q2 q15
          generalize wr.drewN nq = w2 at *
          go_wp2_with fail
          refine (rot7 x w2).mono ?_
          rintro e w3 ⟨rfl, rfl⟩
          go_wp2_with fail
          refine (rot18 x w2).mono ?_
          rintro e w3 ⟨rfl, rfl⟩
          have hxor := r_xor
          have hr3 := r_shr x 3
          have hr10 := r_shr y 10
          simp only [show (2 : Int) ^ 3 = 8 by decide] at hr3
          simp only [show (2 : Int) ^ 10 = 1024 by decide] at hr10
          go_wp2_with fail
          refine (rot17 y w2).mono ?_
          rintro e w3 ⟨rfl, rfl⟩
          go_wp2_with fail
          refine (rot19 y w2).mono ?_
          rintro e w3 ⟨rfl, rfl⟩
          go_wp2
          clear hxor hr3 hr10
          have c7 := HS2.out.cell (k - 7) (by omega)
          have c16 := HS2.out.cell (k - 16) (by omega)
          have ck := HS2.out.cell k (by omega)
          have fk := HS2.out.frozen k
          rw [HA.out] at c7
          rw [HB.out] at c16
          have n7 : ((k : Int) - 7).toNat = k - 7 := by omega
          have n16 : ((k : Int) - 16).toNat = k - 16 := by omega
          have p7 : 0 ≤ (k : Int) - 7 := by omega
          have p16 : 0 ≤ (k : Int) - 16 := by omega
          have q7 : (k : Int) - 7 < 64 := by omega
          have q16 : (k : Int) - 16 < 64 := by omega
          have hadd := r_add
          go_region
          have HS3 := Lib.hid (HS2.out.put _ EV.out).drew
          clear HS2 c7 c16 ck fk n7 n16 p7 p16 q7 q16 hadd HA HB EV
          generalize World.drew _ = w4 at *
          go_wp2
          go_roundw
          case rel => exact ⟨k + 1, by omega, by omega, by go_num, HS3.out⟩
          case measure => simp [intOf]; omega
        · obtain rfl : k = 64 := by omega
          have HS := Lib.hid hS
          clear hS
          go_wp2_with (first
            | (refine wpList_load_row rfl 57 _ rfl (w.heap.size + 1) rfl 57 _ (0, 0) _ HS.out.1 Tryd.underlying57 rfl (by rw [wv_size, arr_len]; exact info64) ?_)
            | (refine wpList_store_row rfl 57 _ _ rfl w.heap.size (wv (arr s.data.toList 64)) rfl rfl 57 (wv (List.replicate 64 0)) HS.out.2.1 (by rw [wv_size, arr_len]; exact info64) (by rw [wv_size, wv_size, arr_len, List.length_replicate]) (wv_one _) ?_))
          have hb : Below w.heap.size w (wr.setRow w.heap.size (wv (arr s.data.toList 64))) := below_setRow HS.out.2.2.1 (Nat.le_refl _)
          exact bodyPost_ret (v := .agg (wv (arr s.data.toList 64))) (results_cell_row Tryd.results42 _ _ w.heap.size 57 _ (0, 0) _ rfl (setRow_heap _ _ _ _ _ _ HS.out.2.1) Tryd.underlying57 rfl (by rw [wv_size, arr_len]; exact info64)) rfl ⟨rfl, hb⟩
end Go.Proofs.YtbfpepiglcikbaaDoor.W
