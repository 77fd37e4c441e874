/-
  Texts of one level, merged: SPad, SSched, SRounds, SBlock, SSum, KProg, KSplit, CPart, KComb, CStrs, CApp, XMem, CSince, XTree.
-/
import Derived.Deep.WholeRow
import Derived.BigRegion
import Derived.Deep.RegionHeld3
import Derived.StillTailTactics
import Derived.IntWalk
import Derived.Maps.OwnIn
import Derived.Maps.AppendAt
import Derived.Laws.AppendOwn
import Derived.Deep.AppendLies
import Derived.Test.YtkinnlfjcmhcoaaDoorZ0c
import Derived.Test.YtkinnlfjcmhcoaaDoorZ0a
import Derived.Test.YtkinnlfjcmhcoaaDoorZ0b
/-
  sha.Pad: what a message of so many bytes is padded with.
-/
namespace Go.Proofs.YtkinnlfjcmhcoaaDoor.W
open Go.RowKit

theorem made_eq (n : Nat) : (madeCells (Value.int .u8 0).cells n).toList = cells (List.replicate n 0) := by
  apply List.ext_getElem?
  intro i
  simp only [madeCells, cells, Array.getElem?_toList, Array.getElem?_map, List.getElem?_map, List.getElem?_replicate, Array.getElem?_range]
  split
  · simp [Value.cells, Nat.mod_one]
  · rfl
/-- 'make([]byte, z+1, z+9)', its first byte then 128 -/
theorem OwnBuf_pad (z : Nat) (hz : z < 64) (w : World) :
    Lib.OwnBuf w.heap.size 5 (.slice (some ⟨w.heap.size, 0, none⟩) (z + 1) (z + 9)) (z + 1) (cells (128 :: List.replicate z 0)) w (w.alloc (.cells ((madeCells (Value.int .u8 0).cells (z + 9)).setIfInBounds 0 (.int .u8 128)) 5)) := by
  have hB : Blk (w.alloc (.cells ((madeCells (Value.int .u8 0).cells (z + 9)).setIfInBounds 0 (.int .u8 128)) 5)) w.heap.size 5 ((madeCells (Value.int .u8 0).cells (z + 9)).setIfInBounds 0 (.int .u8 128)) := Blk.new _ _ _
  refine ⟨⟨by simp [cells], .inr ⟨w.heap.size, z + 9, _, (0, 0), rfl, Nat.le_refl _, hB, Nat.zero_le _, by omega, by unfold maxLen; omega, by simp [size_madeCells], ?_⟩⟩, (Below.refl _ _).alloc (Nat.le_refl _) _, by simp⟩
  rw [Array.toList_setIfInBounds, made_eq, Nat.mul_one]
  show Value.int .u8 128 :: (cells (List.replicate (z + 8) 0)).take z = Value.int .u8 128 :: cells (List.replicate z 0)
  unfold cells
  rw [← List.map_take, List.take_replicate, Nat.min_eq_left (by omega)]
theorem made_cell (n : Nat) (hn : 0 < n) : (madeCells (Value.int .u8 0).cells n)[0]? = some (.int .u8 0) := by
  rw [← Array.getElem?_toList, made_eq]
  obtain ⟨m, rfl⟩ : ∃ m, n = m + 1 := ⟨n - 1, by omega⟩
  rfl

theorem pad_neg (n : Int) (hn : n < 0) (w : World) :
    Calls Tryd.prog 89 #[.int .i64 n] w fun e w' => e = .returned (.string (bs [])) ∧ w = w' := by
  go_enter Tryd.func89, Tryd.ntmps89
  go_wp2
  go_ret
  exact ⟨rfl, rfl⟩

theorem pad_len (z m k : Nat) : ((128 : UInt8) :: (List.replicate z 0 ++ by8 m k)).length = z + 1 + k := by
  simp [by8_len]
  omega
theorem pad_more (z m k c : Nat) (hc : m / 2 ^ (56 - 8 * k) % 256 = c) : cells (128 :: (List.replicate z 0 ++ by8 m (k + 1))) = cells (128 :: (List.replicate z 0 ++ by8 m k)) ++ [.int .u8 c] := by
  have e : (UInt8.ofNat (m / 2 ^ (56 - 8 * k) % 256)).toNat = c := by rw [W.toNat_ofNat (Nat.mod_lt _ (by decide)), hc]
  show cells (128 :: (List.replicate z 0 ++ (by8 m k ++ [UInt8.ofNat (m / 2 ^ (56 - 8 * k) % 256)]))) = _
  generalize UInt8.ofNat (m / 2 ^ (56 - 8 * k) % 256) = b at *
  simp [cells, e]
theorem pad_step {B z m k c : Nat} {v : Value} {W0 w : World} (hc : m / 2 ^ (56 - 8 * k) % 256 = c) (h : Lib.OwnBuf B 5 v (z + 1 + k + 1) (cells (128 :: (List.replicate z 0 ++ by8 m k)) ++ [.int .u8 c]) W0 w) :
    Lib.OwnBuf B 5 v (z + 1 + (k + 1)) (cells (128 :: (List.replicate z 0 ++ by8 m (k + 1)))) W0 w := by
  rw [pad_more z m k c hc]
  exact h

set_option maxHeartbeats 4000000 in
set_option maxRecDepth 100000 in
theorem pad_this (n m z : Nat) (hn : n ≤ 9223372036854775807) (HZ : Hid (zs n = z)) (HM : Hid (n * 8 % 18446744073709551616 = m)) (w : World) :
    Calls Tryd.prog 89 #[.int .i64 n] w fun e w' => e = .returned (.string (bs (128 :: List.replicate z 0 ++ by8 m 8))) ∧ Below w.heap.size w w' := by
  have hz : z < 64 := by rw [← HZ.out]; exact zs_lt n
  have ez : ((119 : Int) - (n : Int) % 64) % 64 = (z : Int) := by rw [← HZ.out]; unfold zs; omega
  obtain ⟨i0, hi, hz0, hz1, hz2⟩ := info_parts infoU8
  have hmk : ∀ W : World, (Instr.makeSlice 74 (.int .i64 (1 + (z : Int))) (.int .i64 (1 + (z : Int) + 8))).run Tryd.prog W = .ok (.slice (some ⟨W.heap.size, 0, none⟩) (z + 1) (z + 9)) (W.alloc (.cells (madeCells (Value.int .u8 0).cells (z + 9)) 5)) := fun W => by
    have hr := run_make (P := Tryd.prog) W 74 5 i0 _ Tryd.underlying74 hi hz0 .i64 .i64 (1 + (z : Int)) (1 + (z : Int) + 8) (by omega) (by omega) (by rw [hz2]; omega) (by omega)
    rw [hz1, show (1 + (z : Int)).toNat = z + 1 by omega, show (1 + (z : Int) + 8).toNat = z + 9 by omega, Nat.mul_one] at hr
    exact hr
  have hc := made_cell (z + 9) (by omega)
  have hO := OwnBuf_pad z hz w
  generalize madeCells (Value.int .u8 0).cells (z + 9) = M at *
  have HO := Lib.hid hO
  clear hO
  have eM : IntKind.u64.wrap ((n : Int) * 8) = (m : Int) := by rw [IntKind.wrap_u64, ← HM.out]; omega
  go_enter Tryd.func89, Tryd.ntmps89
  go_wp2
  simp only [ez]
  clear ez eM hmk hc
  go_loopw [4, 24] (fun v i wr => ∃ k : Nat, k ≤ 8 ∧ i = .int .i64 k ∧ Lib.OwnBuf w.heap.size 5 v (z + 1 + k) (cells (128 :: List.replicate z 0 ++ by8 m k)) w wr) (fun _ i _ => 8 - (intOf i).toNat)
  case atStart => exact ⟨0, Nat.zero_le _, rfl, by simpa [by8] using HO.out⟩
  case round =>
    clear HO
    obtain ⟨k, hk, rfl, hown⟩ := hrel
    by_cases hlt : k < 8
    · have n1 : ((56 : Int) - 8 * (k : Int)).toNat = 56 - 8 * k := by omega
      have p1 : 0 ≤ (56 : Int) - 8 * (k : Int) := by omega
      have q1 : (56 : Int) - 8 * (k : Int) ≤ 64 := by omega
      obtain ⟨c, hc⟩ : ∃ c, m / 2 ^ (56 - 8 * k) % 256 = c := ⟨_, rfl⟩
      have ec : (m : Int) / 2 ^ (56 - 8 * k) % 256 = (c : Int) := by
        rw [← hc, Int.natCast_emod, Int.natCast_ediv, Int.natCast_pow]
        rfl
      have HC := Lib.hid hc
      clear hc
      go_wp2_with (at_builtin; go_must (refine Lib.wpList_append_byte rfl _ _ 74 rfl w.heap.size 5 i0 Tryd.underlying74 hi hz0 hz1 hz2 u4 (z + 1 + k) _ rfl w wr _ hown rfl (by omega) ?_))
      intro v2 w2 h2
      have R := pad_step HC.out h2
      clear h2 hown ec n1 p1 q1
      go_wp2
      go_roundw
      case rel => exact ⟨k + 1, by omega, by go_num, R⟩
      case measure => simp [intOf]; omega
    · obtain rfl : k = 8 := by omega
      have hst := run_string w.heap.size u4 (128 :: (List.replicate z 0 ++ by8 m 8)) w wr (by
        have := hown
        rw [pad_len]
        exact this)
      go_wp2
      go_ret
      exact ⟨rfl, hown.2.1⟩

theorem pad (n : Nat) (hn : n ≤ 9223372036854775807) (w : World) :
    Calls Tryd.prog 89 #[.int .i64 n] w fun e w' => e = .returned (.string (bs (padOf n))) ∧ Below w.heap.size w w' :=
  pad_this n _ _ hn (Lib.hid rfl) (Lib.hid rfl) w
theorem padAny (n : Int) (hn : n ≤ 9223372036854775807) (w : World) :
    Calls Tryd.prog 89 #[.int .i64 n] w fun e w' => e = .returned (.string (bs (padI n))) ∧ Below w.heap.size w w' := by
  unfold padI
  by_cases h : n < 0
  · rw [if_pos h]
    refine (pad_neg n h w).mono ?_
    rintro e w' ⟨rfl, rfl⟩
    exact ⟨rfl, Below.refl _ _⟩
  · rw [if_neg h]
    have e : n = (n.toNat : Int) := by omega
    have k := pad n.toNat (by omega) w
    rw [← e] at k
    exact k
end Go.Proofs.YtkinnlfjcmhcoaaDoor.W
/-
  sha.schedule: the words of a block, one for each round.
-/
namespace Go.Proofs.YtkinnlfjcmhcoaaDoor.W
open Go.RowKit

/-- words as cells -/
def wv (l : List Nat) : Array Value := (l.map fun x : Nat => Value.int .u32 (x : Int)).toArray
theorem wv_size (l : List Nat) : (wv l).size = l.length := by simp [wv]
theorem wv_at (l : List Nat) (i : Nat) (h : i < l.length) : (wv l)[i]? = some (.int .u32 (nth l i)) := by
  unfold wv
  rw [List.getElem?_toArray, List.getElem?_map, nth_lt l i h]
  rfl
theorem wv_set (l : List Nat) (i v : Nat) : (wv l).setIfInBounds i (.int .u32 (v : Int)) = wv (l.set i v) := by
  apply Array.toList_inj.1
  simp [wv, List.map_set]
theorem wv_one (l : List Nat) : (wv l).all (·.oneCell') = true := by
  rw [Array.all_eq_true_iff_forall_mem]
  intro v hv
  simp [wv] at hv
  obtain ⟨x, _, rfl⟩ := hv
  rfl
theorem drewN_blk {w : World} {g : Nat} {t : TypeId} {cs : Array Value} (h : Blk w g t cs) (n : Nat) : Blk (w.drewN n) g t cs := h
theorem drewN_size (w : World) (n : Nat) : (w.drewN n).heap.size = w.heap.size := rfl

/-- the schedule's array lies in the second new block, the result's in the first -/
def SchedAt (l : List UInt8) (w : World) (t : Nat) (wr : World) : Prop :=
  Blk wr (w.heap.size + 1) 134 (wv (arr l t)) ∧ Blk wr w.heap.size 134 (wv (List.replicate 64 0)) ∧ Below w.heap.size w wr ∧ wr.heap.size = w.heap.size + 2
theorem SchedAt.start (l : List UInt8) (w : World) : SchedAt l w 0 ((w.alloc (.cells (wv (List.replicate 64 0)) 134)).alloc (.cells (wv (List.replicate 64 0)) 134)) := by
  refine ⟨?_, ?_, ?_, ?_⟩
  · have h := Blk.new (w.alloc (.cells (wv (List.replicate 64 0)) 134)) 134 (wv (List.replicate 64 0))
    rw [show (w.alloc (.cells (wv (List.replicate 64 0)) 134)).heap.size = w.heap.size + 1 by simp] at h
    exact h
  · exact (Blk.new w 134 (wv (List.replicate 64 0))).alloc _
  · exact ((Below.refl _ _).alloc (Nat.le_refl _) _).alloc (by simp) _
  · simp
theorem SchedAt.put {l : List UInt8} {w wr : World} {t : Nat} (h : SchedAt l w t wr) (x : Nat) (hx : x = wordNo l (arr l t) t) : SchedAt l w (t + 1) (wr.setCell ⟨w.heap.size + 1, t, none⟩ (.int .u32 (x : Int))) := by
  subst hx
  obtain ⟨h1, h2, h3, h4⟩ := h
  refine ⟨?_, h2.far (by simp) _, h3.setCell (by simp) _, by simpa [World.setCell] using h4⟩
  have := h1.set_ t (.int .u32 (wordNo l (arr l t) t : Nat))
  rw [wv_set] at this
  exact this
theorem SchedAt.cell {l : List UInt8} {w wr : World} {t : Nat} (h : SchedAt l w t wr) (i : Nat) (hi : i < 64) : wr.cell? ⟨w.heap.size + 1, i, none⟩ = some (.int .u32 (nth (arr l t) i)) := by
  rw [h.1.cell i, wv_at _ _ (by rw [arr_len]; exact hi)]
theorem SchedAt.frozen {l : List UInt8} {w wr : World} {t : Nat} (h : SchedAt l w t wr) (i : Nat) : wr.frozen? ⟨w.heap.size + 1, i, none⟩ = false := h.1.frozen i
theorem SchedAt.drewN {l : List UInt8} {w wr : World} {t : Nat} (h : SchedAt l w t wr) (n : Nat) : SchedAt l w t (wr.drewN n) := ⟨h.1, h.2.1, Below.drewN h.2.2.1 n, h.2.2.2⟩
theorem SchedAt.drew {l : List UInt8} {w wr : World} {t : Nat} (h : SchedAt l w t wr) : SchedAt l w t wr.drew := h.drewN 1
theorem info64 : (Tryd.prog.info? 134).map (·.size) = some 64 := by kernel_rfl
theorem info8 : (Tryd.prog.info? 116).map (·.size) = some 8 := by kernel_rfl
theorem below_setRow {B : Nat} {a w : World} {g : Nat} {cs : Array Value} (h : Below B a w) (hg : B ≤ g) : Below B a (w.setRow g cs) :=
  ⟨h.os, h.tape, h.output, by have := h.size; simpa [World.setRow] using this, fun i hi => (setRow_other w g i cs (by omega)).trans (h.block i hi)⟩
theorem word4 (s : ByteArray) (k : Nat) (w : World) (hk : k < 16) (hs : s.size ≤ maxLen) :
    Calls Tryd.prog 99 #[.string s, .int .i64 (4 * (k : Int))] w fun e w' => e = .returned (.int .u32 (wordTo s.data.toList (4 * k) 4)) ∧ w = w' := by
  have h := word s (4 * k) w (by omega) hs
  rwa [show ((4 * k : Nat) : Int) = 4 * (k : Int) by omega] at h
theorem rot2 (x : Nat) (w : World) : Calls Tryd.prog 98 #[.int .u32 x, .int .i64 (-2)] w fun e w' => e = .returned (.int .u32 (rotr x 2)) ∧ w = w' := rot x 2 30 (-2) (by decide +kernel) rfl w
theorem rot6 (x : Nat) (w : World) : Calls Tryd.prog 98 #[.int .u32 x, .int .i64 (-6)] w fun e w' => e = .returned (.int .u32 (rotr x 6)) ∧ w = w' := rot x 6 26 (-6) (by decide +kernel) rfl w
theorem rot7 (x : Nat) (w : World) : Calls Tryd.prog 98 #[.int .u32 x, .int .i64 (-7)] w fun e w' => e = .returned (.int .u32 (rotr x 7)) ∧ w = w' := rot x 7 25 (-7) (by decide +kernel) rfl w
theorem rot11 (x : Nat) (w : World) : Calls Tryd.prog 98 #[.int .u32 x, .int .i64 (-11)] w fun e w' => e = .returned (.int .u32 (rotr x 11)) ∧ w = w' := rot x 11 21 (-11) (by decide +kernel) rfl w
theorem rot13 (x : Nat) (w : World) : Calls Tryd.prog 98 #[.int .u32 x, .int .i64 (-13)] w fun e w' => e = .returned (.int .u32 (rotr x 13)) ∧ w = w' := rot x 13 19 (-13) (by decide +kernel) rfl w
theorem rot17 (x : Nat) (w : World) : Calls Tryd.prog 98 #[.int .u32 x, .int .i64 (-17)] w fun e w' => e = .returned (.int .u32 (rotr x 17)) ∧ w = w' := rot x 17 15 (-17) (by decide +kernel) rfl w
theorem rot18 (x : Nat) (w : World) : Calls Tryd.prog 98 #[.int .u32 x, .int .i64 (-18)] w fun e w' => e = .returned (.int .u32 (rotr x 18)) ∧ w = w' := rot x 18 14 (-18) (by decide +kernel) rfl w
theorem rot19 (x : Nat) (w : World) : Calls Tryd.prog 98 #[.int .u32 x, .int .i64 (-19)] w fun e w' => e = .returned (.int .u32 (rotr x 19)) ∧ w = w' := rot x 19 13 (-19) (by decide +kernel) rfl w
theorem rot22 (x : Nat) (w : World) : Calls Tryd.prog 98 #[.int .u32 x, .int .i64 (-22)] w fun e w' => e = .returned (.int .u32 (rotr x 22)) ∧ w = w' := rot x 22 10 (-22) (by decide +kernel) rfl w
theorem rot25 (x : Nat) (w : World) : Calls Tryd.prog 98 #[.int .u32 x, .int .i64 (-25)] w fun e w' => e = .returned (.int .u32 (rotr x 25)) ∧ w = w' := rot x 25 7 (-25) (by decide +kernel) rfl w

set_option maxHeartbeats 4000000 in
set_option maxRecDepth 100000 in
theorem schedule (s : ByteArray) (w : World) (hs : s.size ≤ maxLen) :
    Calls Tryd.prog 96 #[.string s] w fun e w' => e = .returned (.agg (wv (arr s.data.toList 64))) ∧ Below w.heap.size w w' := by
  go_enter Tryd.func96, Tryd.ntmps96
  go_wp2
  go_loopw [10] (fun i wr => ∃ k : Nat, k ≤ 16 ∧ i = .int .i64 k ∧ SchedAt s.data.toList w k wr) (fun i _ => 16 - (intOf i).toNat)
  case atStart => exact ⟨0, Nat.zero_le _, rfl, SchedAt.start _ w⟩
  case round =>
    obtain ⟨k, hk, rfl, hS⟩ := hrel
    by_cases hlt : k < 16
    · have hc := hS.cell k (by omega)
      have hf := hS.frozen k
      have HS := Lib.hid hS
      clear hS
      go_wp2_with fail
      refine (word4 s k wr hlt hs).mono ?_
      rintro e w1 ⟨rfl, rfl⟩
      go_wp2
      go_roundw
      case rel => exact ⟨k + 1, by omega, by go_num, HS.out.put _ (by unfold wordNo; rw [if_pos hlt])⟩
      case measure => simp [intOf]; omega
    · obtain rfl : k = 16 := by omega
      have HS := Lib.hid hS
      clear hS
      rw [show ((16 : Nat) : Int) = (16 : Int) from rfl]
      go_wp2
      go_loopw [5] (fun i wr => ∃ k : Nat, 16 ≤ k ∧ k ≤ 64 ∧ i = .int .i64 k ∧ SchedAt s.data.toList w k wr) (fun i _ => 64 - (intOf i).toNat)
      case atStart => exact ⟨16, by omega, by omega, rfl, HS.out⟩
      case round =>
        clear HS
        obtain ⟨k, hk0, hk, rfl, hS⟩ := hrel
        by_cases hlt : k < 64
        · obtain ⟨y, hy⟩ : ∃ y, nth (arr s.data.toList k) (k - 2) = y := ⟨_, rfl⟩
          obtain ⟨x, hx⟩ : ∃ x, nth (arr s.data.toList k) (k - 15) = x := ⟨_, rfl⟩
          obtain ⟨a, ha⟩ : ∃ a, nth (arr s.data.toList k) (k - 7) = a := ⟨_, rfl⟩
          obtain ⟨b, hb⟩ : ∃ b, nth (arr s.data.toList k) (k - 16) = b := ⟨_, rfl⟩
          have c2 := hS.cell (k - 2) (by omega)
          have c15 := hS.cell (k - 15) (by omega)
          rw [hy] at c2
          rw [hx] at c15
          have EV := Lib.hid (show wadd (wadd (wadd (wxor (wxor (rotr y 17) (rotr y 19)) (wshr y 10)) a) (wxor (wxor (rotr x 7) (rotr x 18)) (wshr x 3))) b = wordNo s.data.toList (arr s.data.toList k) k by
            unfold wordNo nextW
            rw [if_neg (by omega), hy, hx, ha, hb]
            rfl)
          have HA := Lib.hid ha
          have HB := Lib.hid hb
          have HS := Lib.hid hS
          clear hS hy hx ha hb
          have n2 : ((k : Int) - 2).toNat = k - 2 := by omega
          have n15 : ((k : Int) - 15).toNat = k - 15 := by omega
          have p2 : 0 ≤ (k : Int) - 2 := by omega
          have p15 : 0 ≤ (k : Int) - 15 := by omega
          have q2 : (k : Int) - 2 < 64 := by omega
          have q15 : (k : Int) - 15 < 64 := by omega
          go_wp2
          go_quiet (fail)
          have HS2 := Lib.hid (HS.out.drewN nq)
          clear HS c2 c15 n2 n15 p2 p15 q2 q15
          generalize wr.drewN nq = w2 at *
          go_wp2_with fail
          refine (rot7 x w2).mono ?_
          rintro e w3 ⟨rfl, rfl⟩
          go_wp2_with fail
          refine (rot18 x w2).mono ?_
          rintro e w3 ⟨rfl, rfl⟩
          have hxor := r_xor
          have hr3 := r_shr x 3
          have hr10 := r_shr y 10
          simp only [show (2 : Int) ^ 3 = 8 by decide] at hr3
          simp only [show (2 : Int) ^ 10 = 1024 by decide] at hr10
          go_wp2_with fail
          refine (rot17 y w2).mono ?_
          rintro e w3 ⟨rfl, rfl⟩
          go_wp2_with fail
          refine (rot19 y w2).mono ?_
          rintro e w3 ⟨rfl, rfl⟩
          go_wp2
          clear hxor hr3 hr10
          have c7 := HS2.out.cell (k - 7) (by omega)
          have c16 := HS2.out.cell (k - 16) (by omega)
          have ck := HS2.out.cell k (by omega)
          have fk := HS2.out.frozen k
          rw [HA.out] at c7
          rw [HB.out] at c16
          have n7 : ((k : Int) - 7).toNat = k - 7 := by omega
          have n16 : ((k : Int) - 16).toNat = k - 16 := by omega
          have p7 : 0 ≤ (k : Int) - 7 := by omega
          have p16 : 0 ≤ (k : Int) - 16 := by omega
          have q7 : (k : Int) - 7 < 64 := by omega
          have q16 : (k : Int) - 16 < 64 := by omega
          have hadd := r_add
          go_region
          have HS3 := Lib.hid (HS2.out.put _ EV.out).drew
          clear HS2 c7 c16 ck fk n7 n16 p7 p16 q7 q16 hadd HA HB EV
          generalize World.drew _ = w4 at *
          go_wp2
          go_roundw
          case rel => exact ⟨k + 1, by omega, by omega, by go_num, HS3.out⟩
          case measure => simp [intOf]; omega
        · obtain rfl : k = 64 := by omega
          have HS := Lib.hid hS
          clear hS
          go_wp2_with (first
            | (refine wpList_load_row rfl 134 _ rfl (w.heap.size + 1) rfl 134 _ (0, 0) _ HS.out.1 Tryd.underlying134 rfl (by rw [wv_size, arr_len]; exact info64) ?_)
            | (refine wpList_store_row rfl 134 _ _ rfl w.heap.size (wv (arr s.data.toList 64)) rfl rfl 134 (wv (List.replicate 64 0)) HS.out.2.1 (by rw [wv_size, arr_len]; exact info64) (by rw [wv_size, wv_size, arr_len, List.length_replicate]) (wv_one _) ?_))
          have hb : Below w.heap.size w (wr.setRow w.heap.size (wv (arr s.data.toList 64))) := below_setRow HS.out.2.2.1 (Nat.le_refl _)
          exact bodyPost_ret (v := .agg (wv (arr s.data.toList 64))) (results_cell_row Tryd.results96 _ _ w.heap.size 134 _ (0, 0) _ rfl (setRow_heap _ _ _ _ _ _ HS.out.2.1) Tryd.underlying134 rfl (by rw [wv_size, arr_len]; exact info64)) rfl ⟨rfl, hb⟩
end Go.Proofs.YtkinnlfjcmhcoaaDoor.W
/-
  sha.rounds: all rounds of a block.
-/
namespace Go.Proofs.YtkinnlfjcmhcoaaDoor.W
open Go.RowKit

/-- this world holds sha's table of roots -/
def Roots (w : World) : Prop := ∀ i : Nat, i < 64 → w.cell? ⟨0, i, none⟩ = some (.int .u32 (nth kk i))
theorem Roots.below {w w' : World} {B : Nat} (h : Roots w) (hb : Below B w w') (hB : 0 < B) : Roots w' := fun i hi => (hb.cell (p := ⟨0, i, none⟩) hB).trans (h i hi)
theorem Roots.pos {w : World} (h : Roots w) : 0 < w.heap.size := World.block_lt_of_cell? w _ (h 0 (by omega))
theorem Roots.next {w w' : World} (h : Roots w) (hb : Below w.heap.size w w') : Roots w' := h.below hb h.pos

/-- the boxes of sha.rounds: the registers, the words, the result -/
def RoAt (hs ws : List Nat) (w wr : World) : Prop :=
  Blk wr w.heap.size 116 (wv hs) ∧ Blk wr (w.heap.size + 1) 134 (wv ws) ∧ Blk wr (w.heap.size + 1 + 1) 116 (wv (List.replicate 8 0)) ∧ Below w.heap.size w wr
theorem RoAt.start (hs ws : List Nat) (w : World) : RoAt hs ws w (((w.alloc (.cells (wv hs) 116)).alloc (.cells (wv ws) 134)).alloc (.cells (wv (List.replicate 8 0)) 116)) := by
  have e1 : (w.alloc (.cells (wv hs) 116)).heap.size = w.heap.size + 1 := by simp
  have e2 : ((w.alloc (.cells (wv hs) 116)).alloc (.cells (wv ws) 134)).heap.size = w.heap.size + 1 + 1 := by simp
  refine ⟨?_, ?_, ?_, ?_⟩
  · exact ((Blk.new w 116 (wv hs)).alloc _).alloc _
  · have h := Blk.new (w.alloc (.cells (wv hs) 116)) 134 (wv ws)
    rw [e1] at h
    exact h.alloc _
  · have h := Blk.new ((w.alloc (.cells (wv hs) 116)).alloc (.cells (wv ws) 134)) 116 (wv (List.replicate 8 0))
    rw [e2] at h
    exact h
  · exact (((Below.refl _ _).alloc (Nat.le_refl _) _).alloc (by simp) _).alloc (by simp; omega) _
theorem RoAt.drewN {hs ws : List Nat} {w wr : World} (h : RoAt hs ws w wr) (n : Nat) : RoAt hs ws w (wr.drewN n) := ⟨h.1, h.2.1, h.2.2.1, Below.drewN h.2.2.2 n⟩
theorem RoAt.reg {hs ws : List Nat} {w wr : World} (h : RoAt hs ws w wr) (i : Nat) (hi : i < hs.length) : wr.cell? ⟨w.heap.size, i, none⟩ = some (.int .u32 (nth hs i)) := by
  rw [h.1.cell i, wv_at _ _ hi]
theorem RoAt.word {hs ws : List Nat} {w wr : World} (h : RoAt hs ws w wr) (i : Nat) (hi : i < ws.length) : wr.cell? ⟨w.heap.size + 1, i, none⟩ = some (.int .u32 (nth ws i)) := by
  rw [h.2.1.cell i, wv_at _ _ hi]
theorem zero8 : (#[.int .u32 0, .int .u32 0, .int .u32 0, .int .u32 0, .int .u32 0, .int .u32 0, .int .u32 0, .int .u32 0] : Array Value) = wv (List.replicate 8 0) := rfl
theorem rds_step (ws : List Nat) (r : Reg) (t a b c d e f g h x y : Nat) (hq : rds ws r t = ⟨a, b, c, d, e, f, g, h⟩)
    (hx : x = wadd (wadd (wadd (wadd h (wxor (wxor (rotr e 6) (rotr e 11)) (rotr e 25))) (wxor (wand e f) (wand (wnot e) g))) (nth kk t)) (nth ws t))
    (hy : y = wadd (wxor (wxor (rotr a 2) (rotr a 13)) (rotr a 22)) (wxor (wxor (wand a b) (wand a c)) (wand b c))) :
    rds ws r (t + 1) = ⟨wadd x y, a, b, c, wadd d x, e, f, g⟩ := by
  show rnd (nth kk t) (nth ws t) (rds ws r t) = _
  rw [hq, hx, hy]
  rfl

set_option maxHeartbeats 8000000 in
set_option maxRecDepth 100000 in
theorem rounds (hs ws : List Nat) (w : World) (hr : Roots w) (h8 : hs.length = 8) (h64 : ws.length = 64) :
    Calls Tryd.prog 95 #[.agg (wv hs), .agg (wv ws)] w fun e w' => e = .returned (.agg (wv (rds ws (regOf hs) 64).list)) ∧ Below w.heap.size w w' := by
  obtain ⟨r, hr0⟩ : ∃ r, regOf hs = r := ⟨_, rfl⟩
  rw [hr0]
  obtain ⟨a0, a1, a2, a3, a4, a5, a6, a7⟩ := r
  have z0 : nth hs 0 = a0 := congrArg Reg.a hr0
  have z1 : nth hs 1 = a1 := congrArg Reg.b hr0
  have z2 : nth hs 2 = a2 := congrArg Reg.c hr0
  have z3 : nth hs 3 = a3 := congrArg Reg.d hr0
  have z4 : nth hs 4 = a4 := congrArg Reg.e hr0
  have z5 : nth hs 5 = a5 := congrArg Reg.f hr0
  have z6 : nth hs 6 = a6 := congrArg Reg.g hr0
  have z7 : nth hs 7 = a7 := congrArg Reg.h hr0
  have HZ := Lib.hid (And.intro z0 (And.intro z1 (And.intro z2 (And.intro z3 (And.intro z4 (And.intro z5 (And.intro z6 z7)))))))
  have H8 := Lib.hid h8
  have H64 := Lib.hid h64
  have HR := Lib.hid hr
  clear h8 h64 hr hr0 z0 z1 z2 z3 z4 z5 z6 z7
  go_enter Tryd.func95, Tryd.ntmps95
  go_wp2
  have HD := Lib.hid (RoAt.start hs ws w)
  rw [zero8]
  generalize ((w.alloc (Obj.cells (wv hs) 116)).alloc (Obj.cells (wv ws) 134)).alloc (Obj.cells (wv (List.replicate 8 0)) 116) = w1 at *
  have c0 := HD.out.reg 0 (by rw [H8.out]; omega)
  have c1 := HD.out.reg 1 (by rw [H8.out]; omega)
  have c2 := HD.out.reg 2 (by rw [H8.out]; omega)
  have c3 := HD.out.reg 3 (by rw [H8.out]; omega)
  rw [HZ.out.1] at c0
  rw [HZ.out.2.1] at c1
  rw [HZ.out.2.2.1] at c2
  rw [HZ.out.2.2.2.1] at c3
  go_quiet (fail)
  have HD2 := Lib.hid (HD.out.drewN nq)
  clear HD c0 c1 c2 c3
  generalize w1.drewN nq = w2 at *
  go_wp2
  have c4 := HD2.out.reg 4 (by rw [H8.out]; omega)
  have c5 := HD2.out.reg 5 (by rw [H8.out]; omega)
  have c6 := HD2.out.reg 6 (by rw [H8.out]; omega)
  have c7 := HD2.out.reg 7 (by rw [H8.out]; omega)
  rw [HZ.out.2.2.2.2.1] at c4
  rw [HZ.out.2.2.2.2.2.1] at c5
  rw [HZ.out.2.2.2.2.2.2.1] at c6
  rw [HZ.out.2.2.2.2.2.2.2] at c7
  go_quiet (fail)
  have HD3 := Lib.hid (HD2.out.drewN nq)
  clear HD2 c4 c5 c6 c7 HZ
  generalize w2.drewN _ = w3 at *
  go_wp2
  go_loopw [5, 6, 7, 8, 9, 10, 11, 12, 36] (fun s5 s6 s7 s8 s9 s10 s11 s12 i wr => ∃ t a b c d e f g z : Nat, t ≤ 64 ∧ i = .int .i64 t ∧ s5 = .int .u32 a ∧ s6 = .int .u32 b ∧ s7 = .int .u32 c ∧ s8 = .int .u32 d ∧ s9 = .int .u32 e ∧ s10 = .int .u32 f ∧ s11 = .int .u32 g ∧ s12 = .int .u32 z ∧ Hid (rds ws ⟨a0, a1, a2, a3, a4, a5, a6, a7⟩ t = ⟨a, b, c, d, e, f, g, z⟩) ∧ RoAt hs ws w wr) (fun _ _ _ _ _ _ _ _ i _ => 64 - (intOf i).toNat)
  case atStart => exact ⟨0, a0, a1, a2, a3, a4, a5, a6, a7, Nat.zero_le _, rfl, rfl, rfl, rfl, rfl, rfl, rfl, rfl, rfl, Lib.hid rfl, HD3.out⟩
  case round =>
    clear HD3
    obtain ⟨t, a, b, c, d, e, f, g, z, ht, rfl, rfl, rfl, rfl, rfl, rfl, rfl, rfl, rfl, hq, hD⟩ := hrel
    by_cases hlt : t < 64
    · have HD := Lib.hid hD
      clear hD
      go_wp2_with fail
      refine (rot6 e wr).mono ?_
      rintro e0 w4 ⟨rfl, rfl⟩
      go_wp2_with fail
      refine (rot11 e wr).mono ?_
      rintro e0 w4 ⟨rfl, rfl⟩
      have hxor := r_xor
      have hand := r_and
      have hnot := r_not
      go_wp2_with fail
      refine (rot25 e wr).mono ?_
      rintro e0 w4 ⟨rfl, rfl⟩
      go_wp2
      clear hnot
      obtain ⟨kt, hkt⟩ : ∃ kt, nth kk t = kt := ⟨_, rfl⟩
      obtain ⟨wt, hwt⟩ : ∃ wt, nth ws t = wt := ⟨_, rfl⟩
      have ck := (HR.out.below HD.out.2.2.2 HR.out.pos) t hlt
      have cw := HD.out.word t (by rw [H64.out]; exact hlt)
      rw [hkt] at ck
      rw [hwt] at cw
      have HK := Lib.hid hkt
      have HW := Lib.hid hwt
      clear hkt hwt
      have tl : (t : Int) < 64 := by omega
      have hadd := r_add
      go_quiet (fail)
      have HD5 := Lib.hid (HD.out.drewN nq)
      clear HD ck cw hadd
      generalize wr.drewN nq = w5 at *
      obtain ⟨x, hx⟩ : ∃ x, wadd (wadd (wadd (wadd z (wxor (wxor (rotr e 6) (rotr e 11)) (rotr e 25))) (wxor (wand e f) (wand (wnot e) g))) kt) wt = x := ⟨_, rfl⟩
      simp only [r_add, hx]
      have HX := Lib.hid hx
      clear hx
      go_wp2_with fail
      refine (rot2 a w5).mono ?_
      rintro e0 w4 ⟨rfl, rfl⟩
      go_wp2_with fail
      refine (rot13 a w5).mono ?_
      rintro e0 w4 ⟨rfl, rfl⟩
      go_wp2_with fail
      refine (rot22 a w5).mono ?_
      rintro e0 w4 ⟨rfl, rfl⟩
      have hadd := r_add
      go_wp2
      go_roundw
      case rel => exact ⟨t + 1, _, a, b, c, _, e, f, g, by omega, by go_num, rfl, rfl, rfl, rfl, rfl, rfl, rfl, rfl, Lib.hid (rds_step _ _ _ _ _ _ _ _ _ _ _ _ _ hq.out (by rw [HK.out, HW.out]; exact HX.out.symm) rfl), HD5.out⟩
      case measure => simp [intOf]; omega
    · obtain rfl : t = 64 := by omega
      have HD := Lib.hid hD
      clear hD
      go_wp2_with (refine wpList_store_row rfl 116 _ _ rfl (w.heap.size + 1 + 1) (wv [a, b, c, d, e, f, g, z]) rfl rfl 116 (wv (List.replicate 8 0)) HD.out.2.2.1 (by rw [wv_size]; exact info8) (by rw [wv_size, wv_size]; rfl) (wv_one _) ?_)
      have hb : Below w.heap.size w (wr.setRow (w.heap.size + 1 + 1) (wv [a, b, c, d, e, f, g, z])) := below_setRow HD.out.2.2.2 (by omega)
      exact bodyPost_ret (v := .agg (wv [a, b, c, d, e, f, g, z])) (results_cell_row Tryd.results95 _ _ (w.heap.size + 1 + 1) 116 _ (0, 0) _ rfl (setRow_heap _ _ _ _ _ _ HD.out.2.2.1) Tryd.underlying116 rfl (by rw [wv_size]; exact info8)) rfl ⟨by rw [hq.out]; rfl, hb⟩
end Go.Proofs.YtkinnlfjcmhcoaaDoor.W
/-
  sha.Block: the registers behind a block.
-/
namespace Go.Proofs.YtkinnlfjcmhcoaaDoor.W
open Go.RowKit

theorem Roots.alloc {w : World} (h : Roots w) (o : Obj) : Roots (w.alloc o) := h.next ((Below.refl _ _).alloc (Nat.le_refl _) o)
theorem Roots.drew {w : World} (h : Roots w) : Roots w.drew := h
theorem Roots.drewN {w : World} (h : Roots w) (n : Nat) : Roots (w.drewN n) := h

/-- the boxes of sha.Block -/
def BlAt (hs : List Nat) (w wr : World) : Prop :=
  Blk wr w.heap.size 116 (wv hs) ∧ Blk wr (w.heap.size + 1) 116 (wv (List.replicate 8 0)) ∧ Below w.heap.size w wr ∧ w.heap.size + 2 ≤ wr.heap.size
theorem BlAt.start (hs : List Nat) (w : World) : BlAt hs w ((w.alloc (.cells (wv hs) 116)).alloc (.cells (wv (List.replicate 8 0)) 116)) := by
  have e1 : (w.alloc (.cells (wv hs) 116)).heap.size = w.heap.size + 1 := by simp
  refine ⟨?_, ?_, ?_, ?_⟩
  · exact (Blk.new w 116 (wv hs)).alloc _
  · have h := Blk.new (w.alloc (.cells (wv hs) 116)) 116 (wv (List.replicate 8 0))
    rw [e1] at h
    exact h
  · exact ((Below.refl _ _).alloc (Nat.le_refl _) _).alloc (by simp) _
  · simp
theorem BlAt.next {hs : List Nat} {w wr w' : World} (h : BlAt hs w wr) (hb : Below wr.heap.size wr w') : BlAt hs w w' :=
  ⟨h.1.below hb h.1.lt, h.2.1.below hb h.2.1.lt, h.2.2.1.trans (hb.mono (by have := h.2.2.2; omega)), Nat.le_trans h.2.2.2 hb.size⟩
theorem BlAt.alloc {hs : List Nat} {w wr : World} (h : BlAt hs w wr) (o : Obj) : BlAt hs w (wr.alloc o) := h.next ((Below.refl _ _).alloc (Nat.le_refl _) o)
theorem BlAt.reg {hs : List Nat} {w wr : World} (h : BlAt hs w wr) (i : Nat) (hi : i < hs.length) : wr.cell? ⟨w.heap.size, i, none⟩ = some (.int .u32 (nth hs i)) := by
  rw [h.1.cell i, wv_at _ _ hi]

theorem BlAt.cells {a0 a1 a2 a3 a4 a5 a6 a7 : Nat} {w w' : World} (h : BlAt [a0, a1, a2, a3, a4, a5, a6, a7] w w') :
    w'.cell? ⟨w.heap.size, 0, none⟩ = some (.int .u32 a0) ∧ w'.cell? ⟨w.heap.size, 1, none⟩ = some (.int .u32 a1) ∧ w'.cell? ⟨w.heap.size, 2, none⟩ = some (.int .u32 a2) ∧ w'.cell? ⟨w.heap.size, 3, none⟩ = some (.int .u32 a3) ∧ w'.cell? ⟨w.heap.size, 4, none⟩ = some (.int .u32 a4) ∧ w'.cell? ⟨w.heap.size, 5, none⟩ = some (.int .u32 a5) ∧ w'.cell? ⟨w.heap.size, 6, none⟩ = some (.int .u32 a6) ∧ w'.cell? ⟨w.heap.size, 7, none⟩ = some (.int .u32 a7) :=
  ⟨h.reg 0 (by simp), h.reg 1 (by simp), h.reg 2 (by simp), h.reg 3 (by simp), h.reg 4 (by simp), h.reg 5 (by simp), h.reg 6 (by simp), h.reg 7 (by simp)⟩
theorem BlAt.drew {hs : List Nat} {w wr : World} (h : BlAt hs w wr) : BlAt hs w wr.drew := ⟨h.1, h.2.1, Below.drewN h.2.2.1 1, h.2.2.2⟩
theorem Blk.next {w w' : World} {g : Nat} {t : TypeId} {cs : Array Value} (h : Blk w g t cs) (hb : Below w.heap.size w w') : Blk w' g t cs := h.below hb h.lt
theorem Blk.setRow_far {w : World} {g k : Nat} {t : TypeId} {cs ds : Array Value} (h : Blk w g t cs) (hk : g ≠ k) : Blk (w.setRow k ds) g t cs := (setRow_other w k g ds hk).trans h
/-- behind the rounds: the working variables lie in block G -/
def FinAt (hs work : List Nat) (w : World) (G : Nat) (wr : World) : Prop := BlAt hs w wr ∧ Blk wr G 116 (wv work) ∧ w.heap.size + 2 ≤ G
theorem FinAt.start {hs work : List Nat} {w wr : World} {G : Nat} (h : BlAt hs w wr) (hG : Blk wr G 116 (wv (List.replicate 8 0))) (hge : w.heap.size + 2 ≤ G) : FinAt hs work w G (wr.setRow G (wv work)) :=
  ⟨⟨h.1.setRow_far (by omega), h.2.1.setRow_far (by omega), below_setRow h.2.2.1 (by omega), by simpa using h.2.2.2⟩, setRow_heap _ _ _ _ _ _ hG, hge⟩
theorem FinAt.last {hs work : List Nat} {w wr : World} (h : BlAt hs w wr) : FinAt hs work w wr.heap.size (wr.alloc (.cells (wv work) 116)) := ⟨h.alloc _, Blk.new _ _ _, h.2.2.2⟩
/-- eight zeros lie in block G -/
def Zero8 (W : World) (G : Nat) : Prop := Blk W G 116 (wv (List.replicate 8 0))
theorem store_old (work : List Nat) (hl : work.length = 8) (W : World) (G : Nat) (hG : Zero8 W G) :
    (storeCells ⟨G, 0, none⟩ (wv work).toList).run Tryd.prog W = .ok () (W.setRow G (wv work)) := by
  have h := run_storeCells_from (P := Tryd.prog) G 116 (wv work).toList 0 (wv (List.replicate 8 0)) W hG (by simp [wv, hl]) (fun v hv => (Array.all_eq_true_iff_forall_mem.1 (wv_one work)) v (by simpa using hv))
  simpa using h
theorem store_new (work : List Nat) (hl : work.length = 8) (W : World) :
    (storeCells ⟨W.heap.size, 0, none⟩ (wv work).toList).run Tryd.prog (W.alloc (.cells (wv (List.replicate 8 0)) 116)) = .ok () (W.alloc (.cells (wv work) 116)) := by
  rw [store_old work hl _ _ (Blk.new W 116 _), World.setRow_alloc_new]
theorem FinAt.put {hs work : List Nat} {w wr : World} {G i : Nat} (h : FinAt (addTo hs work i) work w G wr) : FinAt (addTo hs work (i + 1)) work w G (wr.setCell ⟨w.heap.size, i, none⟩ (.int .u32 (wadd (nth (addTo hs work i) i) (nth work i) : Nat))) := by
  obtain ⟨⟨h1, h2, h3, h4⟩, h5, h6⟩ := h
  refine ⟨⟨?_, h2.far (by simp) _, h3.setCell (by simp) _, by simpa [World.setCell] using h4⟩, h5.far (by simp; omega) _, h6⟩
  have := h1.set_ i (.int .u32 (wadd (nth (addTo hs work i) i) (nth work i) : Nat))
  rw [wv_set] at this
  exact this
theorem FinAt.drew {hs work : List Nat} {w wr : World} {G : Nat} (h : FinAt hs work w G wr) : FinAt hs work w G wr.drew := ⟨h.1.drew, h.2.1, h.2.2⟩

set_option maxHeartbeats 8000000 in
set_option maxRecDepth 100000 in
theorem block_this (a0 a1 a2 a3 a4 a5 a6 a7 : Nat) (s : ByteArray) (w : World) (hr : Roots w) (hs : s.size ≤ maxLen) (out : List Nat) (HO : Hid (blk [a0, a1, a2, a3, a4, a5, a6, a7] s.data.toList = out)) :
    Calls Tryd.prog 90 #[.agg (wv [a0, a1, a2, a3, a4, a5, a6, a7]), .string s] w fun e w' => e = .returned (.agg (wv out)) ∧ Below w.heap.size w w' := by
  have HR := Lib.hid (hr.alloc (.cells (wv [a0, a1, a2, a3, a4, a5, a6, a7]) 116) |>.alloc (.cells (wv (List.replicate 8 0)) 116))
  have HB := Lib.hid (BlAt.start [a0, a1, a2, a3, a4, a5, a6, a7] w)
  clear hr
  go_enter Tryd.func90, Tryd.ntmps90
  go_wp2
  rw [zero8]
  generalize (w.alloc (Obj.cells (wv [a0, a1, a2, a3, a4, a5, a6, a7]) 116)).alloc (Obj.cells (wv (List.replicate 8 0)) 116) = w1 at *
  have X0 := Lib.hid HB.out.drew
  have s1 := store_old (rds (arr s.data.toList 64) (regOf [a0, a1, a2, a3, a4, a5, a6, a7]) 64).list rfl
  have s2 := store_new (rds (arr s.data.toList 64) (regOf [a0, a1, a2, a3, a4, a5, a6, a7]) 64).list rfl
  rw [← zero8] at s2
  have c0 : w1.cell? ⟨w.heap.size, 0, none⟩ = some (.int .u32 a0) := HB.out.reg 0 (by simp)
  have c1 : w1.cell? ⟨w.heap.size, 1, none⟩ = some (.int .u32 a1) := HB.out.reg 1 (by simp)
  have c2 : w1.cell? ⟨w.heap.size, 2, none⟩ = some (.int .u32 a2) := HB.out.reg 2 (by simp)
  have c3 : w1.cell? ⟨w.heap.size, 3, none⟩ = some (.int .u32 a3) := HB.out.reg 3 (by simp)
  have c4 : w1.cell? ⟨w.heap.size, 4, none⟩ = some (.int .u32 a4) := HB.out.reg 4 (by simp)
  have c5 : w1.cell? ⟨w.heap.size, 5, none⟩ = some (.int .u32 a5) := HB.out.reg 5 (by simp)
  have c6 : w1.cell? ⟨w.heap.size, 6, none⟩ = some (.int .u32 a6) := HB.out.reg 6 (by simp)
  have c7 : w1.cell? ⟨w.heap.size, 7, none⟩ = some (.int .u32 a7) := HB.out.reg 7 (by simp)
  go_region_held3 (fun w' => w'.cell? ⟨w.heap.size, 0, none⟩ = some (.int .u32 a0) ∧ w'.cell? ⟨w.heap.size, 1, none⟩ = some (.int .u32 a1) ∧ w'.cell? ⟨w.heap.size, 2, none⟩ = some (.int .u32 a2) ∧ w'.cell? ⟨w.heap.size, 3, none⟩ = some (.int .u32 a3) ∧ w'.cell? ⟨w.heap.size, 4, none⟩ = some (.int .u32 a4) ∧ w'.cell? ⟨w.heap.size, 5, none⟩ = some (.int .u32 a5) ∧ w'.cell? ⟨w.heap.size, 6, none⟩ = some (.int .u32 a6) ∧ w'.cell? ⟨w.heap.size, 7, none⟩ = some (.int .u32 a7))
    (first
      | exact BlAt.cells (X0.out.next b4)
      | exact BlAt.cells ((X0.out.alloc _).next b4)
      | exact BlAt.cells ((X0.out.next b4).alloc _)
      | exact BlAt.cells ((X0.out.next b4).next b5)
      | exact BlAt.cells (((X0.out.alloc _).next b4).next b5)
      | exact BlAt.cells (((X0.out.next b4).alloc _).next b5)
      | exact BlAt.cells (((X0.out.next b4).next b5).alloc _)
      | exact BlAt.cells (((X0.out.next b4).next b5).alloc _)
      | exact BlAt.cells (FinAt.start (work := (rds (arr s.data.toList 64) (regOf [a0, a1, a2, a3, a4, a5, a6, a7]) 64).list) (((X0.out.alloc _).next b4).next b5) hz X0.out.2.2.2).1
      | exact BlAt.cells (FinAt.start (work := (rds (arr s.data.toList 64) (regOf [a0, a1, a2, a3, a4, a5, a6, a7]) 64).list) (((X0.out.next b4).alloc _).next b5) hz (X0.out.next b4).2.2.2).1
      | go_keep)
    (first
      | (go_at_call 96; refine (schedule s _ hs).mono ?_; rintro en w4 ⟨rfl, b4⟩)
      | (go_at_call 95; refine (rounds [a0, a1, a2, a3, a4, a5, a6, a7] (arr s.data.toList 64) _ (HR.out.drew.next b4) rfl (arr_len _ _)).mono ?_; rintro en w5 ⟨rfl, b5⟩)
      | (go_at_call 95; refine (rounds [a0, a1, a2, a3, a4, a5, a6, a7] (arr s.data.toList 64) _ ((HR.out.drew.alloc _).next b4) rfl (arr_len _ _)).mono ?_; rintro en w5 ⟨rfl, b5⟩; have hz : Zero8 w5 w1.heap.size := ((Blk.new w1.drew _ _).next b4).next b5)
      | (go_at_call 95; refine (rounds [a0, a1, a2, a3, a4, a5, a6, a7] (arr s.data.toList 64) _ ((HR.out.drew.next b4).alloc _) rfl (arr_len _ _)).mono ?_; rintro en w5 ⟨rfl, b5⟩; have hz : Zero8 w5 w4.heap.size := (Blk.new w4 _ _).next b5))
  have hF := Lib.hid (FinAt.last (work := (rds (arr s.data.toList 64) (regOf [a0, a1, a2, a3, a4, a5, a6, a7]) 64).list) ((X0.out.next b4).next b5))
  clear b4 b5 s1 s2 X0 HR HB c0 c1 c2 c3 c4 c5 c6 c7
  generalize w5.alloc (Obj.cells (wv (rds (arr s.data.toList 64) (regOf [a0, a1, a2, a3, a4, a5, a6, a7]) 64).list) 116) = w6 at *
  generalize w5.heap.size = G at *
  clear w5 w4 w1
  rotate_left
  have hF := Lib.hid (FinAt.start (work := (rds (arr s.data.toList 64) (regOf [a0, a1, a2, a3, a4, a5, a6, a7]) 64).list) (((X0.out.next b4).alloc _).next b5) hz (X0.out.next b4).2.2.2)
  clear hz b4 b5 s1 s2 X0 HR HB c0 c1 c2 c3 c4 c5 c6 c7
  generalize w5.setRow w4.heap.size (wv (rds (arr s.data.toList 64) (regOf [a0, a1, a2, a3, a4, a5, a6, a7]) 64).list) = w6 at *
  generalize w4.heap.size = G at *
  clear w5 w4 w1
  rotate_left
  have hF := Lib.hid (show FinAt [a0, a1, a2, a3, a4, a5, a6, a7] _ w w1.heap.size _ from FinAt.start (work := (rds (arr s.data.toList 64) (regOf [a0, a1, a2, a3, a4, a5, a6, a7]) 64).list) (((X0.out.alloc _).next b4).next b5) hz X0.out.2.2.2)
  clear hz b4 b5 s1 s2 X0 HR HB c0 c1 c2 c3 c4 c5 c6 c7
  generalize w5.setRow w1.heap.size (wv (rds (arr s.data.toList 64) (regOf [a0, a1, a2, a3, a4, a5, a6, a7]) 64).list) = w6 at *
  generalize w1.heap.size = G at *
  clear w5 w4 w1
  rotate_left
  all_goals
    obtain ⟨work, hwork⟩ : ∃ work, (rds (arr s.data.toList 64) (regOf [a0, a1, a2, a3, a4, a5, a6, a7]) 64).list = work := ⟨_, rfl⟩
    have HL := Lib.hid (show work.length = 8 by rw [← hwork]; rfl)
    have HO2 := Lib.hid (show addTo [a0, a1, a2, a3, a4, a5, a6, a7] work 8 = out by rw [← hwork]; exact HO.out)
    rw [hwork] at hF
    simp only [hwork]
    clear hwork HO
    go_wp2
    go_loopw [11] (fun i wr => ∃ k : Nat, k ≤ 8 ∧ i = .int .i64 k ∧ FinAt (addTo [a0, a1, a2, a3, a4, a5, a6, a7] work k) work w G wr) (fun i _ => 8 - (intOf i).toNat)
    case atStart => exact ⟨0, Nat.zero_le _, rfl, hF.out⟩
    case round =>
      clear hF
      obtain ⟨k, hk, rfl, hF⟩ := hrel
      by_cases hlt : k < 8
      · have c1 := hF.1.reg k (by rw [addTo_len]; exact hlt)
        have c2 : wr.cell? ⟨G, k, none⟩ = some (.int .u32 (nth work k)) := by rw [hF.2.1.cell k, wv_at _ _ (by rw [HL.out]; exact hlt)]
        have f1 : wr.frozen? ⟨w.heap.size, k, none⟩ = false := hF.1.1.frozen k
        have HF2 := Lib.hid hF.put.drew
        obtain ⟨x, hx⟩ : ∃ x, nth (addTo [a0, a1, a2, a3, a4, a5, a6, a7] work k) k = x := ⟨_, rfl⟩
        obtain ⟨y, hy⟩ : ∃ y, nth work k = y := ⟨_, rfl⟩
        rw [hx] at c1
        rw [hy] at c2
        rw [hx, hy] at HF2
        have hl8 : (k : Int) < 8 := by omega
        have hadd := r_add
        clear hF hx hy
        go_wp2
        go_region
        clear c1 c2 f1 hadd
        generalize World.drew _ = w7 at *
        go_wp2
        go_roundw
        case rel => exact ⟨k + 1, by omega, by go_num, HF2.out⟩
        case measure => simp [intOf]; omega
      · obtain rfl : k = 8 := by omega
        rw [HO2.out] at hF
        have HQ := Lib.hid (show out.length = 8 by rw [← HO2.out, addTo_len]; rfl)
        have HF := Lib.hid hF
        clear hF
        go_wp2_with (first
          | (refine wpList_load_row rfl 116 _ rfl w.heap.size rfl 116 _ (0, 0) _ HF.out.1.1 Tryd.underlying116 rfl (by rw [wv_size, HQ.out]; exact info8) ?_)
          | (refine wpList_store_row rfl 116 _ _ rfl (w.heap.size + 1) (wv out) rfl rfl 116 (wv (List.replicate 8 0)) HF.out.1.2.1 (by rw [wv_size, HQ.out]; exact info8) (by rw [wv_size, wv_size, HQ.out]; rfl) (wv_one _) ?_))
        have hb : Below w.heap.size w (wr.setRow (w.heap.size + 1) (wv out)) := below_setRow HF.out.1.2.2.1 (by omega)
        exact bodyPost_ret (v := .agg (wv out)) (results_cell_row Tryd.results90 _ _ (w.heap.size + 1) 116 _ (0, 0) _ rfl (setRow_heap _ _ _ _ _ _ HF.out.1.2.1) Tryd.underlying116 rfl (by rw [wv_size, HQ.out]; exact info8)) rfl ⟨rfl, hb⟩

theorem block (hs : List Nat) (s : ByteArray) (w : World) (hr : Roots w) (hz : s.size ≤ maxLen) (h8 : hs.length = 8) :
    Calls Tryd.prog 90 #[.agg (wv hs), .string s] w fun e w' => e = .returned (.agg (wv (blk hs s.data.toList))) ∧ Below w.heap.size w w' := by
  match hs, h8 with
  | [a0, a1, a2, a3, a4, a5, a6, a7], _ => exact block_this a0 a1 a2 a3 a4 a5 a6 a7 s w hr hz _ (Lib.hid rfl)
end Go.Proofs.YtkinnlfjcmhcoaaDoor.W
/-
  sha.Sum: the hash of a string.
-/
namespace Go.Proofs.YtkinnlfjcmhcoaaDoor.W
open Go.RowKit

/-- 'buf = append(buf, a, b, c, d)' -/
theorem wpList_append_four {P : Program} {ops : Array Oper} {rest : List Oper} {o : Oper} {a : Act} {Q : Exit → Act → World → Prop} (hgd : o.guard = none) (s x : Operand) (t : TypeId)
    (ho : o.op = .call { callee := .builtin .append, args := #[s, x], argTypes := #[t, t] })
    (B : Nat) (e : TypeId) (i : TypeInfo) (ht : P.underlying t = some (.slice e)) (hi : P.info? e = some i) (hz : i.zero = some (.int .u8 0)) (hsize : i.size = 1) (hby : i.bytes = 1)
    (v : Value) (n : Nat) (xs : List Value) (hs : a.eval s = v) (W0 w0 : World) (c d f g : Int) (hb : Lib.OwnBuf B e v n xs W0 w0)
    (hx : a.eval x = .slice (some ⟨w0.heap.size, 0, none⟩) 4 4) (hlen : n + 4 ≤ 140737488355328)
    (h : ∀ v' w', Lib.OwnBuf B e v' (n + 4) (xs ++ [.int .u8 c, .int .u8 d, .int .u8 f, .int .u8 g]) W0 w' → wpList P ops Q rest (a.put o.dst v') w') : wpList P ops Q (o :: rest) a (w0.alloc (.cells #[.int .u8 c, .int .u8 d, .int .u8 f, .int .u8 g] e)) := by
  have hb' := hb.alloc (.cells #[.int .u8 c, .int .u8 d, .int .u8 f, .int .u8 g] e)
  refine wpList_append_ownF _ hgd s x t ho B e i (.int .u8 0) 1 1 ht hi hz hsize hby rfl (by decide) v n xs hs hb'.1 ⟨w0.heap.size, 0, none⟩ 4 4 [.int .u8 c, .int .u8 d, .int .u8 f, .int .u8 g] hx rfl ?_ ?_ (by unfold maxLen; omega) (by omega) hb'.2.2 ?_
  · intro j u hj
    match j, hj with
    | 0, hj => simp at hj; subst hj; simp [Addr.add]
    | 1, hj => simp at hj; subst hj; simp [Addr.add]
    | 2, hj => simp at hj; subst hj; simp [Addr.add]
    | 3, hj => simp at hj; subst hj; simp [Addr.add]
    | (j + 4), hj => simp at hj
  · intro u hu
    simp at hu
    rcases hu with rfl | rfl | rfl | rfl <;> rfl
  · intro v' w' ho' hg _
    exact h v' w' (hb'.grown ho' hg)

/-- the registers lie in the first new block -/
def SumAt (p : List UInt8) (w : World) (k : Nat) (wr : World) : Prop := Blk wr w.heap.size 116 (wv (blks p k)) ∧ Below w.heap.size w wr

theorem SumAt.drew {p : List UInt8} {w wr : World} {k : Nat} (h : SumAt p w k wr) : SumAt p w k wr.drew := ⟨h.1, Below.drewN h.2 1⟩
theorem SumAt.reg {p : List UInt8} {w wr : World} {k : Nat} (h : SumAt p w k wr) (i : Nat) (hi : i < 8) : wr.cell? ⟨w.heap.size, i, none⟩ = some (.int .u32 (nth (blks p k) i)) := by
  rw [h.1.cell i, wv_at _ _ (by rw [blks_len]; exact hi)]
theorem extract_data (p : ByteArray) (a b : Nat) : (p.extract a b).data.toList = (p.data.toList.drop a).take (b - a) := by
  rw [ByteArray.data_extract, Array.toList_extract, List.extract_eq_take_drop]
theorem SumAt.step {p : ByteArray} {w w2 w3 : World} {k : Nat} (h : SumAt p.data.toList w k w2) (b : Below w2.heap.size w2 w3) : SumAt p.data.toList w (k + 1) (w3.setRow w.heap.size (wv (blk (blks p.data.toList k) (p.extract (64 * k) (64 * k + 64)).data.toList))) := by
  refine ⟨?_, below_setRow (h.2.trans (b.mono h.2.size)) (Nat.le_refl _)⟩
  have e : blks p.data.toList (k + 1) = blk (blks p.data.toList k) (p.extract (64 * k) (64 * k + 64)).data.toList := by
    rw [extract_data, show 64 * k + 64 - 64 * k = 64 by omega]
    rfl
  rw [e]
  exact setRow_heap _ _ _ _ _ _ (h.1.next b)
theorem at_next (k : Nat) : Value.int .i64 (64 * (k : Int) + 64) = Value.int .i64 ((64 * (k + 1) : Nat) : Int) := by rw [show ((64 * (k + 1) : Nat) : Int) = 64 * (k : Int) + 64 by omega]
theorem out_start {w wr : World} {v : Value} {w2 : World} (hb : Below w.heap.size w wr) (h : Lib.OwnBuf wr.heap.size 5 v 0 [] wr w2) : Lib.OwnBuf w.heap.size 5 v 0 [] w w2 := by
  obtain ⟨h1, h2, h3⟩ := h
  refine ⟨⟨h1.1, ?_⟩, hb.trans (h2.mono hb.size), Nat.le_trans hb.size h3⟩
  rcases h1.2 with hn | ⟨g, cap, cur, fz, e1, e2, rest⟩
  · exact .inl hn
  · exact .inr ⟨g, cap, cur, fz, e1, Nat.le_trans hb.size e2, rest⟩
theorem info32 : (Tryd.prog.info? 115).map (fun i => (i.zero, i.size, i.bytes)) = some (some (.int .u32 0), 1, 4) := by kernel_rfl
theorem run_index_word (w : World) (hs : List Nat) (i : Nat) (hi : i < hs.length) (h8 : hs.length = 8) :
    (Instr.index 116 (.agg (wv hs)) (.int .i64 (i : Int))).run Tryd.prog w = .ok (.int .u32 (nth hs i)) w := by
  obtain ⟨i0, hi0, _, hz1, _⟩ := info_parts info32
  have hn : 0 ≤ (i : Int) ∧ (i : Int) < ((8 : Nat) : Int) := by omega
  have hl : i < 8 := by omega
  simp [Instr.index, run_underlying Tryd.underlying116, asIntOf, hl, sizeOf, typeInfo, hi0, hz1, isAgg, run_underlying Tryd.underlying115, wv_at hs i hi, go_sem]
theorem by4_cells (x b0 b1 b2 b3 : Nat) (h0 : x / 16777216 % 256 = b0) (h1 : x / 65536 % 256 = b1) (h2 : x / 256 % 256 = b2) (h3 : x % 256 = b3) : cells (by4 x) = [.int .u8 b0, .int .u8 b1, .int .u8 b2, .int .u8 b3] := by
  unfold by4 cells
  simp only [List.map_cons, List.map_nil]
  rw [h0, h1, h2, h3, W.toNat_ofNat (by omega), W.toNat_ofNat (by omega), W.toNat_ofNat (by omega), W.toNat_ofNat (by omega)]
theorem out_step {hh : List Nat} {j x : Nat} {B : Nat} {l : List Value} {v : Value} {W0 w : World} (hx : nth hh j = x) (hl : cells (by4 x) = l) (h : Lib.OwnBuf B 5 v (4 * j + 4) (cells (outTo hh j) ++ l) W0 w) : Lib.OwnBuf B 5 v (4 * (j + 1)) (cells (outTo hh (j + 1))) W0 w := by
  rw [show outTo hh (j + 1) = outTo hh j ++ by4 (nth hh j) from rfl, cells_append, hx, hl]
  exact h
theorem eight {l : List Nat} (h : l.length = 8) : ∃ a0 a1 a2 a3 a4 a5 a6 a7, l = [a0, a1, a2, a3, a4, a5, a6, a7] := by
  match l, h with
  | [a0, a1, a2, a3, a4, a5, a6, a7], _ => exact ⟨_, _, _, _, _, _, _, _, rfl⟩

set_option maxHeartbeats 1000000 in
set_option maxRecDepth 100000 in
theorem sum_this (s p : ByteArray) (nb : Nat) (w : World) (hr : Roots w) (hs : s.size ≤ 1099511627776) (HP : Hid (p = bs (padded s.data.toList))) (hp : p.size = 64 * nb) (out : List UInt8) (HO : Hid (outTo (blks p.data.toList nb) 8 = out)) :
    Calls Tryd.prog 76 #[.string s] w fun e w' => e = .returned (.string (bs out)) ∧ Below w.heap.size w w' := by
  have hps : p.size ≤ 1099511627776 + 72 := by
    have h1 := padOf_len s.size
    have h2 := zs_lt s.size
    rw [HP.out, bs_size, padded, List.length_append, size_list]
    omega
  have hadd : ∀ W : World, (Op.stringOp .add s (bs (padOf s.size))).run Tryd.prog W = .ok (.string p) W := fun W => by
    have h := run_add W s.data.toList (padOf s.size) (by have h1 := padOf_len s.size; have h2 := zs_lt s.size; rw [size_list]; omega)
    rw [bs_of] at h
    rw [h, HP.out, padded, size_list]
  obtain ⟨i0, hi, hz0, hz1, hz2⟩ := info_parts infoU8
  have HR := Lib.hid hr
  have HPAD := Lib.hid (pad s.size (by omega) (w.alloc (.cells (wv regs0) 116)))
  have HPS := Lib.hid hp
  have H0 := Lib.hid (Blk.new w 116 (wv regs0))
  have HB0 := Lib.hid ((Below.refl w.heap.size w).alloc (Nat.le_refl _) (.cells (wv regs0) 116))
  clear hr hp HP
  go_enter Tryd.func76, Tryd.ntmps76
  go_wp2_with fail
  refine HPAD.out.mono ?_
  rintro e w2 ⟨rfl, b2⟩
  have HS := Lib.hid (show SumAt p.data.toList w 0 w2 from ⟨H0.out.next b2, HB0.out.trans (b2.mono (by simp))⟩)
  clear HPAD H0 HB0 b2
  go_wp2
  clear hadd
  go_loopw [5] (fun i wr => ∃ k : Nat, k ≤ nb ∧ i = .int .i64 ((64 * k : Nat) : Int) ∧ SumAt p.data.toList w k wr) (fun i _ => p.size - (intOf i).toNat)
  case atStart => exact ⟨0, Nat.zero_le _, rfl, HS.out⟩
  case round =>
    clear HS
    obtain ⟨k, hk, rfl, hS⟩ := hrel
    by_cases hlt : k < nb
    · have t1 : 64 * (k : Int) < (p.size : Int) := by have := HPS.out; omega
      have t2 : 64 * (k : Int) + 64 ≤ (p.size : Int) := by have := HPS.out; omega
      have n1 : (64 * (k : Int)).toNat = 64 * k := by omega
      have n2 : (64 * (k : Int) + 64).toNat = 64 * k + 64 := by omega
      have p1 : 0 ≤ 64 * (k : Int) := by omega
      have p2 : 0 ≤ 64 * (k : Int) + 64 := by omega
      have p3 : 64 * (k : Int) ≤ 64 * (k : Int) + 64 := by omega
      have wr1 : IntKind.i64.wrap (64 * (k : Int) + 64) = 64 * (k : Int) + 64 := IntWalk.i64_in _ (by omega)
      have HS := Lib.hid hS.drew
      have hc := hS.drew
      obtain ⟨a0, a1, a2, a3, a4, a5, a6, a7, ha⟩ := eight (blks_len p.data.toList k)
      have c0 := hc.reg 0 (by decide)
      have c1 := hc.reg 1 (by decide)
      have c2 := hc.reg 2 (by decide)
      have c3 := hc.reg 3 (by decide)
      have c4 := hc.reg 4 (by decide)
      have c5 := hc.reg 5 (by decide)
      have c6 := hc.reg 6 (by decide)
      have c7 := hc.reg 7 (by decide)
      rw [ha] at c0 c1 c2 c3 c4 c5 c6 c7
      replace c0 : wr.drew.cell? ⟨w.heap.size, 0, none⟩ = some (.int .u32 a0) := c0
      replace c1 : wr.drew.cell? ⟨w.heap.size, 1, none⟩ = some (.int .u32 a1) := c1
      replace c2 : wr.drew.cell? ⟨w.heap.size, 2, none⟩ = some (.int .u32 a2) := c2
      replace c3 : wr.drew.cell? ⟨w.heap.size, 3, none⟩ = some (.int .u32 a3) := c3
      replace c4 : wr.drew.cell? ⟨w.heap.size, 4, none⟩ = some (.int .u32 a4) := c4
      replace c5 : wr.drew.cell? ⟨w.heap.size, 5, none⟩ = some (.int .u32 a5) := c5
      replace c6 : wr.drew.cell? ⟨w.heap.size, 6, none⟩ = some (.int .u32 a6) := c6
      replace c7 : wr.drew.cell? ⟨w.heap.size, 7, none⟩ = some (.int .u32 a7) := c7
      have HA := Lib.hid ha
      have HRW := Lib.hid (HR.out.below hc.2 HR.out.pos)
      clear hc hS ha
      go_wp2
      refine wp_region_still_tail 6 (by kernel_rfl) (by kernel_rfl) ?_
      simp only [List.take_succ_cons, List.take_zero, List.drop_succ_cons, List.drop_zero]
      change wpStill _ _ wr.drew (fun a' => wpList _ _ _ _ a' wr.drew) _ _
      generalize wr.drew = w3 at *
      repeat still_step
      refine wpStill_nil ?_
      clear c0 c1 c2 c3 c4 c5 c6 c7 p1 p2 p3 n1 n2 wr1
      go_wp2_with fail
      obtain ⟨o8, h8⟩ : ∃ o8, blk [a0, a1, a2, a3, a4, a5, a6, a7] (p.extract (64 * k) (64 * k + 64)).data.toList = o8 := ⟨_, rfl⟩
      have l8 : o8.length = 8 := by rw [← h8, blk_len _ _ rfl]
      have H8 := Lib.hid h8
      have L8 := Lib.hid l8
      clear h8 l8
      refine (block_this a0 a1 a2 a3 a4 a5 a6 a7 (p.extract (64 * k) (64 * k + 64)) w3 HRW.out (by rw [ByteArray.size_extract]; unfold maxLen; omega) o8 H8).mono ?_
      rintro e w4 ⟨rfl, b4⟩
      have R := Lib.hid (HS.out.step b4)
      rw [HA.out, H8.out] at R
      have hB := HS.out.1.next b4
      rw [HA.out] at hB
      have HB := Lib.hid hB
      clear hB HS HA HRW b4 H8
      go_wp2_with (refine wpList_store_row rfl 116 _ _ rfl w.heap.size (wv o8) rfl rfl 116 _ HB.out (by rw [wv_size, L8.out]; exact info8) (by rw [wv_size, wv_size, L8.out]; rfl) (wv_one _) ?_)
      go_roundw
      case rel => exact ⟨k + 1, by omega, at_next k, R.out⟩
      case measure =>
        show p.size - (64 * (k : Int) + 64).toNat < p.size - ((64 * k : Nat) : Int).toNat
        omega
    · obtain rfl : k = nb := by omega
      have t1 : ¬ 64 * (k : Int) < (p.size : Int) := by have := HPS.out; omega
      have HS := Lib.hid hS
      have hmk : ∀ W : World, (Instr.makeSlice 74 (.int .i64 0) (.int .i64 32)).run Tryd.prog W = .ok (.slice (some ⟨W.heap.size, 0, none⟩) 0 32) (W.alloc (.cells (madeCells (Value.int .u8 0).cells 32) 5)) := fun W => run_make0 32 (by omega) W
      have HOW := OwnBuf_made 32 (by unfold maxLen; omega) wr
      generalize madeCells (Value.int .u8 0).cells 32 = M at *
      have HB := Lib.hid (hS.1.alloc (.cells M 5))
      have HW := Lib.hid (out_start hS.2 HOW)
      have H8 := Lib.hid (blks_len p.data.toList k)
      clear hS HOW HS
      generalize blks p.data.toList k = hh at *
      go_wp2_with (refine wpList_load_row rfl 116 _ rfl w.heap.size rfl 116 _ (0, 0) _ HB.out Tryd.underlying116 rfl (by rw [wv_size, H8.out]; exact info8) ?_)
      clear HB hmk
      go_loopw [6, 30] (fun v i wr => ∃ j : Nat, j ≤ 8 ∧ i = .int .i64 j ∧ Lib.OwnBuf w.heap.size 5 v (4 * j) (cells (outTo hh j)) w wr) (fun _ i _ => 8 - (intOf i).toNat)
      case atStart => exact ⟨0, Nat.zero_le _, rfl, HW.out⟩
      case round =>
        clear HW
        obtain ⟨j, hj, rfl, hown⟩ := hrel
        by_cases hjl : j < 8
        · obtain ⟨x, hx⟩ : ∃ x, nth hh j = x := ⟨_, rfl⟩
          have hix := run_index_word wr hh j (by rw [H8.out]; exact hjl) H8.out
          rw [hx] at hix
          obtain ⟨b0, h0⟩ : ∃ b, x / 16777216 % 256 = b := ⟨_, rfl⟩
          obtain ⟨b1, h1⟩ : ∃ b, x / 65536 % 256 = b := ⟨_, rfl⟩
          obtain ⟨b2, h2⟩ : ∃ b, x / 256 % 256 = b := ⟨_, rfl⟩
          obtain ⟨b3, h3⟩ : ∃ b, x % 256 = b := ⟨_, rfl⟩
          have e0 : (x : Int) / 16777216 % 256 = (b0 : Int) := by omega
          have e1 : (x : Int) / 65536 % 256 = (b1 : Int) := by omega
          have e2 : (x : Int) / 256 % 256 = (b2 : Int) := by omega
          have e3 : (x : Int) % 256 = (b3 : Int) := by omega
          have HX := Lib.hid (by4_cells x b0 b1 b2 b3 h0 h1 h2 h3)
          have HN := Lib.hid hx
          clear h0 h1 h2 h3 hx
          go_wp2_with (at_builtin; go_must (refine wpList_append_four rfl _ _ 74 rfl w.heap.size 5 i0 Tryd.underlying74 hi hz0 hz1 hz2 u6 (4 * j) _ rfl w wr _ _ _ _ hown rfl (by omega) ?_))
          intro v5 w5 h5
          have R := out_step HN.out HX.out h5
          clear h5 hown e0 e1 e2 e3 hix HX HN
          go_wp2
          go_roundw
          case rel => exact ⟨j + 1, by omega, by go_num, R⟩
          case measure => simp [intOf]; omega
        · obtain rfl : j = 8 := by omega
          have hst := run_string w.heap.size u6 (outTo hh 8) w _ (by rw [outTo_len]; exact hown)
          rw [HO.out] at hst
          go_wp2
          go_ret
          exact ⟨rfl, hown.2.1⟩

theorem sum (s : ByteArray) (w : World) (hr : Roots w) (hs : s.size ≤ 1099511627776) :
    Calls Tryd.prog 76 #[.string s] w fun e w' => e = .returned (.string (bs (shaOf s.data.toList))) ∧ Below w.heap.size w w' := by
  refine sum_this s (bs (padded s.data.toList)) ((padded s.data.toList).length / 64) w hr hs (Lib.hid rfl) ?_ _ (Lib.hid rfl)
  rw [bs_size]
  exact padded_len _
end Go.Proofs.YtkinnlfjcmhcoaaDoor.W
/-
  merkle.Leaf, Node, Top: what each answers.
-/
namespace Go.Proofs.YtkinnlfjcmhcoaaDoor.W
open Go.RowKit

theorem shaC (l out : List UInt8) (HO : Hid (shaOf l = out)) (w : World) (hr : Roots w) (hl : l.length ≤ 1000000) :
    Calls Tryd.prog 76 #[.string (bs l)] w fun e w' => e = .returned (.string (bs out)) ∧ Below w.heap.size w w' := by
  have h := sum (bs l) w hr (by rw [bs_size]; omega)
  rw [bs_data, HO.out] at h
  exact h
theorem textC (k : ByteArray) (x1 : List UInt8) (x2 : Int) (h1 : encText k = (x1, x2)) (W : World) :
    Calls Tryd.prog 44 #[.string k] W fun e w' => e = .returned (.tuple #[.string (bs x1), .int .i64 x2]) ∧ Below W.heap.size W w' := by
  have := wText k W
  rw [h1] at this
  exact this
theorem numC (n : Int) (x1 : List UInt8) (x2 : Int) (h1 : encNum n = (x1, x2)) (W : World) :
    Calls Tryd.prog 43 #[.int .i64 n] W fun e w' => e = .returned (.tuple #[.string (bs x1), .int .i64 x2]) ∧ Below W.heap.size W w' := by
  have := wNum n W
  rw [h1] at this
  exact this

set_option maxHeartbeats 1000000 in
set_option maxRecDepth 100000 in
theorem leaf_this (k v : ByteArray) (x1 y1 : List UInt8) (x2 y2 : Int) (h1 : encText k = (x1, x2)) (h2 : encText v = (y1, y2)) (w : World) (hr : Roots w) (out : List UInt8) (HO : Hid (shaOf (0 :: (x1 ++ y1)) = out)) :
    Calls Tryd.prog 63 #[.agg #[.string k, .string v]] w fun e w' => e = .returned (.string (bs out)) ∧ Below w.heap.size w w' := by
  have lx : x1.length ≤ 65544 := by have := encText_len k; rw [h1] at this; exact this
  have ly : y1.length ≤ 65544 := by have := encText_len v; rw [h2] at this; exact this
  have K1 := Lib.hid (textC k x1 x2 h1)
  have K2 := Lib.hid (textC v y1 y2 h2)
  have a1 : ∀ W, (Op.stringOp .add ⟨#[0]⟩ (bs x1)).run Tryd.prog W = .ok (.string (bs (0 :: x1))) W := fun W => run_add W [0] x1 (by simp; omega)
  have a2 : ∀ W, (Op.stringOp .add (bs (0 :: x1)) (bs y1)).run Tryd.prog W = .ok (.string (bs (0 :: (x1 ++ y1)))) W := fun W => run_add W (0 :: x1) y1 (by simp; omega)
  have HR := Lib.hid hr
  have HB := Lib.hid (Blk.new w 32 #[.string k, .string v])
  have HW := Lib.hid ((Below.refl w.heap.size w).alloc (Nat.le_refl _) (.cells #[.string k, .string v] 32))
  have L := Lib.hid (show (0 :: (x1 ++ y1)).length ≤ 1000000 by simp; omega)
  clear hr lx ly h1 h2
  go_enter Tryd.func63, Tryd.ntmps63
  go_wp2_with fail
  refine (K1.out _).mono ?_
  rintro e w1 ⟨rfl, b1⟩
  have c1 : w1.cell? ⟨w.heap.size, 1, none⟩ = some (.string v) := (HB.out.next b1).cell 1
  have B1 := Lib.hid (HW.out.trans (b1.mono (by simp)))
  clear b1 HB HW K1
  go_wp2_with fail
  refine (K2.out _).mono ?_
  rintro e w2 ⟨rfl, b2⟩
  have B2 := Lib.hid (step_below B1.out b2)
  clear b2 B1 K2 c1
  go_wp2_with fail
  refine (shaC _ out HO w2 (HR.out.next B2.out) L.out).mono ?_
  rintro e w3 ⟨rfl, b3⟩
  go_wp2
  go_ret
  exact ⟨rfl, step_below B2.out b3⟩
theorem leafC (p : KV) (w : World) (hr : Roots w) :
    Calls Tryd.prog 63 #[.agg #[.string p.1, .string p.2]] w fun e w' => e = .returned (.string (bs (shaOf (leafOf p)))) ∧ Below w.heap.size w w' :=
  leaf_this p.1 p.2 _ _ _ _ rfl rfl w hr _ (Lib.hid rfl)

set_option maxHeartbeats 1000000 in
set_option maxRecDepth 100000 in
theorem node_this (a b : List UInt8) (w : World) (hr : Roots w) (out : List UInt8) (HO : Hid (shaOf (1 :: (a ++ b)) = out)) (ha : a.length ≤ 1000) (hb : b.length ≤ 1000) :
    Calls Tryd.prog 64 #[.string (bs a), .string (bs b)] w fun e w' => e = .returned (.string (bs out)) ∧ Below w.heap.size w w' := by
  have a1 : ∀ W, (Op.stringOp .add ⟨#[1]⟩ (bs a)).run Tryd.prog W = .ok (.string (bs (1 :: a))) W := fun W => run_add W [1] a (by simp; omega)
  have a2 : ∀ W, (Op.stringOp .add (bs (1 :: a)) (bs b)).run Tryd.prog W = .ok (.string (bs (1 :: (a ++ b)))) W := fun W => run_add W (1 :: a) b (by simp; omega)
  have L := Lib.hid (show (1 :: (a ++ b)).length ≤ 1000000 by simp; omega)
  have HR := Lib.hid hr
  clear hr ha hb
  go_enter Tryd.func64, Tryd.ntmps64
  go_wp2_with fail
  refine (shaC _ out HO w HR.out L.out).mono ?_
  rintro e w3 ⟨rfl, b3⟩
  go_wp2
  go_ret
  exact ⟨rfl, b3⟩
theorem nodeC (a b : List UInt8) (w : World) (hr : Roots w) (ha : a.length ≤ 1000) (hb : b.length ≤ 1000) :
    Calls Tryd.prog 64 #[.string (bs a), .string (bs b)] w fun e w' => e = .returned (.string (bs (shaOf (nodeOf a b)))) ∧ Below w.heap.size w w' :=
  node_this a b w hr _ (Lib.hid rfl) ha hb

set_option maxHeartbeats 1000000 in
set_option maxRecDepth 100000 in
theorem top_this (n : Int) (t : List UInt8) (x1 : List UInt8) (x2 : Int) (h1 : encNum n = (x1, x2)) (w : World) (hr : Roots w) (out : List UInt8) (HO : Hid (shaOf (2 :: (x1 ++ t)) = out)) (ht : t.length ≤ 1000) :
    Calls Tryd.prog 41 #[.int .i64 n, .string (bs t)] w fun e w' => e = .returned (.string (bs out)) ∧ Below w.heap.size w w' := by
  have lx : x1.length ≤ 8 := by have := encNum_len n; rw [h1] at this; exact this
  have K1 := Lib.hid (numC n x1 x2 h1)
  have a1 : ∀ W, (Op.stringOp .add ⟨#[2]⟩ (bs x1)).run Tryd.prog W = .ok (.string (bs (2 :: x1))) W := fun W => run_add W [2] x1 (by simp; omega)
  have a2 : ∀ W, (Op.stringOp .add (bs (2 :: x1)) (bs t)).run Tryd.prog W = .ok (.string (bs (2 :: (x1 ++ t)))) W := fun W => run_add W (2 :: x1) t (by simp; omega)
  have L := Lib.hid (show (2 :: (x1 ++ t)).length ≤ 1000000 by simp; omega)
  have HR := Lib.hid hr
  clear hr lx ht h1
  go_enter Tryd.func41, Tryd.ntmps41
  go_wp2_with fail
  refine (K1.out _).mono ?_
  rintro e w1 ⟨rfl, b1⟩
  go_wp2_with fail
  refine (shaC _ out HO w1 (HR.out.next b1) L.out).mono ?_
  rintro e w3 ⟨rfl, b3⟩
  go_wp2
  go_ret
  exact ⟨rfl, step_below b1 b3⟩
theorem topC (n : Int) (t : List UInt8) (w : World) (hr : Roots w) (ht : t.length ≤ 1000) :
    Calls Tryd.prog 41 #[.int .i64 n, .string (bs t)] w fun e w' => e = .returned (.string (bs (shaOf (topOf n t)))) ∧ Below w.heap.size w w' :=
  top_this n t _ _ rfl w hr _ (Lib.hid rfl) ht
end Go.Proofs.YtkinnlfjcmhcoaaDoor.W
/-
  merkle.Split.
-/
namespace Go.Proofs.YtkinnlfjcmhcoaaDoor.W
open Go.RowKit

set_option maxHeartbeats 1000000 in
set_option maxRecDepth 100000 in
theorem lenC (x : Int) (w : World) (h0 : 0 ≤ x) (h1 : x ≤ 18446744073709551615) :
    Calls Tryd.prog 85 #[.int .u64 x] w fun e w' => e = .returned (.int .i64 (Lib.bitLen x.toNat)) ∧ w = w' := by
  have K := Lib.hid (len64 x w h0 h1)
  go_enter Tryd.func85, Tryd.ntmps85
  go_wp2_with fail
  refine K.out.mono ?_
  rintro e w1 ⟨rfl, rfl⟩
  go_wp2
  go_ret
  exact ⟨rfl, rfl⟩

theorem wrap_pow (k s : Nat) (hk : k ≤ 62) (hs : 2 ^ k = s) : wrap64 ((2 : Int) ^ k) = (s : Int) := by
  have h1 : 2 ^ k ≤ 2 ^ 62 := Nat.pow_le_pow_right (by decide) hk
  have h2 : ((2 ^ k : Nat) : Int) = (2 : Int) ^ k := by simp
  rw [← h2, hs]
  rw [hs] at h1
  simp only [wrap64]
  omega
set_option maxHeartbeats 1000000 in
set_option maxRecDepth 100000 in
theorem split_this (n : Int) (k s : Nat) (w : World) (h0 : 2 ≤ n) (h1 : n ≤ 9223372036854775807) (hk : Lib.bitLen (n - 1).toNat = k + 1) (hk2 : k ≤ 62) (hs : 2 ^ k = s) :
    Calls Tryd.prog 66 #[.int .i64 n] w fun e w' => e = .returned (.int .i64 s) ∧ w = w' := by
  have K0 := lenC (n - 1) w (by omega) (by omega)
  rw [hk] at K0
  have K := Lib.hid K0
  have hp := wrap_pow k s hk2 hs
  clear K0 hk hs
  go_enter Tryd.func66, Tryd.ntmps66
  go_wp2_with fail
  refine K.out.mono ?_
  rintro e w1 ⟨rfl, rfl⟩
  go_wp2
  go_ret
  exact ⟨congrArg Ending.returned (congrArg (Value.int IntKind.i64) hp), rfl⟩
theorem splitC (n : Int) (w : World) (h1 : n ≤ 9223372036854775807) :
    Calls Tryd.prog 66 #[.int .i64 n] w fun e w' => e = .returned (.int .i64 (spl n.toNat)) ∧ w = w' := by
  by_cases h0 : 2 ≤ n
  · obtain ⟨j, h2, h3⟩ := pow_of n.toNat (by omega)
    have hj : j ≤ 62 := by
      by_cases h : j ≤ 62
      · exact h
      · have := Nat.pow_le_pow_right (n := 2) (by decide) (show 63 ≤ j by omega)
        omega
    refine split_this n j _ w h0 h1 ?_ hj (spl_is j n.toNat h2 h3 (by omega)).symm
    rw [show (n - 1).toNat = n.toNat - 1 by omega]
    exact bitLen_two j _ (by omega) (by rw [Nat.pow_succ]; omega) (by omega)
  · rw [spl_small n.toNat (by omega)]
    go_enter Tryd.func66, Tryd.ntmps66
    go_wp2
    go_ret
    exact ⟨rfl, rfl⟩

/-! the reference's -/
theorem pow_two_le {j n : Nat} (h : 2 ^ j < n) (hn : n ≤ 1099511627776) : j ≤ 40 := by
  by_cases hj : j ≤ 40
  · exact hj
  · have := Nat.pow_le_pow_right (n := 2) (by decide) (show 41 ≤ j by omega)
    omega
set_option maxHeartbeats 1000000 in
set_option maxRecDepth 100000 in
theorem rSplitC (n : Int) (w : World) (h1 : n ≤ 9223372036854775807) :
    Calls Tryd.prog 68 #[.int .i64 n] w fun e w' => e = .returned (.int .i64 (spl n.toNat)) ∧ Below w.heap.size w w' := by
  by_cases h0 : 2 ≤ n
  · obtain ⟨m, rfl⟩ := Int.eq_ofNat_of_zero_le (show 0 ≤ n by omega)
    rw [Int.toNat_natCast]
    obtain ⟨r, hr⟩ : ∃ r, spl m = r := ⟨_, rfl⟩
    rw [hr]
    have HR := Lib.hid hr
    clear hr
    go_enter Tryd.func68, Tryd.ntmps68
    go_wp2
    go_loopw [3] (fun v wr => ∃ s : Nat, v = .int .i64 s ∧ Hid (∃ j, s = 2 ^ j) ∧ 1 ≤ s ∧ s < m ∧ Below w.heap.size w wr) (fun v _ => m - (intOf v).toNat)
    case atStart => exact ⟨1, rfl, Lib.hid ⟨0, rfl⟩, by omega, by omega, Below.refl _ _⟩
    case round =>
      obtain ⟨s, rfl, HJ, hs1, hs2, hbel⟩ := hrel
      by_cases hlt : s + s < m
      · go_wp2
        go_roundw
        case rel => exact ⟨2 * s, by go_num, Lib.hid (by obtain ⟨j, rfl⟩ := HJ.out; exact ⟨j + 1, by rw [Nat.pow_succ, Nat.mul_comm]⟩), by omega, by omega, hbel⟩
        case measure => simp [intOf]; omega
      · have hx : s = r := by
          obtain ⟨j, rfl⟩ := HJ.out
          rw [← HR.out, spl_is j m hs2 (by omega) (by omega)]
        subst hx
        go_wp2
        go_ret
        exact ⟨rfl, hbel⟩
  · rw [spl_small n.toNat (by omega)]
    go_enter Tryd.func68, Tryd.ntmps68
    go_wp2
    go_ret
    exact ⟨rfl, Below.refl _ _⟩
end Go.Proofs.YtkinnlfjcmhcoaaDoor.W
/-
  Parts of a slice of pairs: 'l[i:]' and 'l[:i]'.
-/
namespace Go.Proofs.YtkinnlfjcmhcoaaDoor.W
open Go.RowKit

section
variable {w : World} {A : Option Addr} {cap : Nat} {l : List KV}
theorem prs_cut (T : TypeId) (hT : Tryd.prog.underlying T = some (.slice (Tryd.prog.elem T))) (hE : Tryd.prog.elem T = 32) (h : Prs w (.slice A l.length cap) l) (i : Nat) (hi : i ≤ l.length) :
    ∃ A' c', (∀ W, (Instr.slice T (.slice A l.length cap) (some (.int .i64 i)) none none).run Tryd.prog W = .ok (.slice A' (l.drop i).length c') W) ∧ Prs w (.slice A' (l.drop i).length c') (l.drop i) := by
  obtain ⟨A0, cap0, e, hcap, hc⟩ := h
  cases e
  refine ⟨_, cap - i, fun W => ?_, ⟨if cap = i then A else A.map (·.add (i * 2)), cap - i, rfl, by rw [List.length_drop]; omega, fun j hj => ?_⟩⟩
  · obtain ⟨i0, hi0, hz0, hz1, hz2⟩ := info_parts infoPair
    have hr := run_slice_l (P := Tryd.prog) (w := W) T A l.length cap hT .i64 i (by omega) (by omega)
    rw [hE, run_sizeOf W hi0, show Tryd.prog.cellsOf 32 = 2 by kernel_rfl] at hr
    rw [hr, List.length_drop]
    simp [Result.andThen, sliced]
  · rw [List.length_drop] at hj
    obtain ⟨b, off, rfl, h1, h2⟩ := hc (i + j) (by omega)
    refine ⟨b, off + i * 2, ?_, ?_, ?_⟩
    · rw [if_neg (by omega), Option.map_some, add_far]
    · rw [List.getElem_drop, show off + i * 2 + j * 2 = off + (i + j) * 2 by omega]; exact h1
    · rw [List.getElem_drop, show off + i * 2 + j * 2 + 1 = off + (i + j) * 2 + 1 by omega]; exact h2
theorem prs_upto (T : TypeId) (hT : Tryd.prog.underlying T = some (.slice (Tryd.prog.elem T))) (hE : Tryd.prog.elem T = 32) (h : Prs w (.slice A l.length cap) l) (i : Nat) (hi : i ≤ l.length) :
    (∀ W, (Instr.slice T (.slice A l.length cap) none (some (.int .i64 i)) none).run Tryd.prog W = .ok (.slice A i cap) W) ∧ Prs w (.slice A i cap) (l.take i) := by
  obtain ⟨A0, cap0, e, hcap, hc⟩ := h
  cases e
  refine ⟨fun W => ?_, ⟨A, cap, by rw [List.length_take, Nat.min_eq_left hi], by rw [List.length_take]; omega, fun j hj => ?_⟩⟩
  · obtain ⟨i0, hi0, hz0, hz1, hz2⟩ := info_parts infoPair
    have hr := run_slice_h (P := Tryd.prog) (w := W) T A l.length cap hT .i64 i (by omega) (by omega)
    rw [hE, run_sizeOf W hi0, show Tryd.prog.cellsOf 32 = 2 by kernel_rfl] at hr
    rw [hr]
    cases A <;> simp [Result.andThen, sliced]
    rename_i a
    rcases a with ⟨b, off, x⟩
    cases x <;> simp [Addr.add]
  · rw [List.length_take] at hj
    obtain ⟨b, off, rfl, h1, h2⟩ := hc j (by omega)
    exact ⟨b, off, rfl, by rw [List.getElem_take]; exact h1, by rw [List.getElem_take]; exact h2⟩
end

end Go.Proofs.YtkinnlfjcmhcoaaDoor.W
/-
  merkle.combine, Root.
-/
namespace Go.Proofs.YtkinnlfjcmhcoaaDoor.W
open Go.RowKit

set_option maxHeartbeats 1000000 in
set_option maxRecDepth 100000 in
theorem comb0 (v f g : Value) (w : World) (hP : Prs w v []) :
    Calls Tryd.prog 62 #[v, f, g] w fun e w' => e = .returned (.string (bs [])) ∧ Below w.heap.size w w' := by
  obtain ⟨A, cap, rfl, _, _⟩ := hP
  go_enter Tryd.func62, Tryd.ntmps62
  go_wp2
  go_ret
  exact ⟨rfl, Below.refl _ _⟩
set_option maxHeartbeats 1000000 in
set_option maxRecDepth 100000 in
theorem comb1 (v g : Value) (p : KV) (w : World) (hP : Prs w v [p]) (hr : Roots w) :
    Calls Tryd.prog 62 #[v, .func (.func 63) #[] #[], g] w fun e w' => e = .returned (.string (bs (shaOf (leafOf p)))) ∧ Below w.heap.size w w' := by
  obtain ⟨A, cap, rfl, _, hc⟩ := hP
  obtain ⟨b, off, rfl, c0, c1⟩ := hc 0 (by simp)
  have H := Lib.hid (leafC p w hr)
  generalize shaOf (leafOf p) = out at *
  simp only [List.getElem_cons_zero, Nat.zero_mul, Nat.add_zero] at c0 c1
  simp only [List.length_singleton]
  clear hc hr
  go_enter Tryd.func62, Tryd.ntmps62
  go_wp2_with fail
  refine H.out.mono ?_
  rintro e w3 ⟨rfl, b3⟩
  go_wp2
  go_ret
  exact ⟨rfl, b3⟩
set_option maxHeartbeats 2000000 in
set_option maxRecDepth 100000 in
theorem comb2 (A : Option Addr) (n cap s : Nat) (w : World) (A' : Option Addr) (n' c' : Nat) (x y out : List UInt8) (hn : 2 ≤ n) (hn2 : n ≤ 1000000000) (hs : spl n = s)
    (hs1 : ∀ W, (Instr.slice 22 (.slice A n cap) (some (.int .i64 s)) none none).run Tryd.prog W = .ok (.slice A' n' c') W)
    (hs2 : ∀ W, (Instr.slice 22 (.slice A n cap) none (some (.int .i64 s)) none).run Tryd.prog W = .ok (.slice A s cap) W)
    (H1 : Hid (∀ W, Since w W → Calls Tryd.prog 62 #[.slice A s cap, .func (.func 63) #[] #[], .func (.func 64) #[] #[]] W fun e w' => e = .returned (.string (bs x)) ∧ Since w w'))
    (H2 : Hid (∀ W, Since w W → Calls Tryd.prog 62 #[.slice A' n' c', .func (.func 63) #[] #[], .func (.func 64) #[] #[]] W fun e w' => e = .returned (.string (bs y)) ∧ Since w w'))
    (H3 : Hid (∀ W, Since w W → Calls Tryd.prog 64 #[.string (bs x), .string (bs y)] W fun e w' => e = .returned (.string (bs out)) ∧ Since w w')) :
    Calls Tryd.prog 62 #[.slice A n cap, .func (.func 63) #[] #[], .func (.func 64) #[] #[]] w fun e w' => e = .returned (.string (bs out)) ∧ Below w.heap.size w w' := by
  have K0 := splitC n w (by omega)
  rw [Int.toNat_natCast, hs] at K0
  have K := Lib.hid K0
  clear K0 hs
  have r0 := Since.refl w
  have n0 : ((n : Int) == 0) = false := by simp; omega
  have n1 : ((n : Int) == 1) = false := by simp; omega
  clear hn
  go_enter Tryd.func62, Tryd.ntmps62
  go_wp2_with fail
  refine K.out.mono ?_
  rintro e w1 ⟨rfl, rfl⟩
  clear K
  go_wp2
  go_region_held3 (fun _ => True)
    (first | trivial | go_keep)
    (first
      | (go_at_call 62; refine (H1.out _ (by exact r0)).mono ?_; clear H1; rintro en w5 ⟨rfl, s5⟩)
      | (go_at_call 62; refine (H2.out _ (by exact s5)).mono ?_; clear H2; rintro en w6 ⟨rfl, s6⟩)
      | (go_at_call 64; refine (H3.out _ (by exact s6)).mono ?_; clear H3; rintro en w7 ⟨rfl, s7⟩))
  all_goals go_wp2
  all_goals go_ret
  all_goals exact ⟨rfl, s7.below⟩

theorem roots_since {w W : World} (hr : Roots w) (h : Since w W) : Roots W := hr.next h.below
set_option maxRecDepth 100000 in
theorem combC : ∀ (n : Nat) (l : List KV) (v : Value) (w : World), l.length = n → Prs w v l → Roots w → n ≤ 1000000000 →
    Calls Tryd.prog 62 #[v, .func (.func 63) #[] #[], .func (.func 64) #[] #[]] w fun e w' => e = .returned (.string (bs (tree l))) ∧ Below w.heap.size w w' := by
  intro n
  induction n using Nat.strongRecOn with
  | _ n ih =>
    intro l v w hl hP hr hn
    by_cases h2 : 2 ≤ n
    · obtain ⟨s1, s2, s3⟩ := spl_pos h2 (by omega)
      have ht := tree_two l (by omega) (by omega)
      rw [hl] at ht
      rw [ht]
      obtain ⟨A, cap, rfl, hcap, hc⟩ := hP
      have hP : Prs w (.slice A l.length cap) l := ⟨A, cap, rfl, hcap, hc⟩
      obtain ⟨A1, c1, hs1, P1⟩ := prs_cut 22 Tryd.underlying22 (by kernel_rfl) hP (spl n) (by omega)
      obtain ⟨hs2, P2⟩ := prs_upto 22 Tryd.underlying22 (by kernel_rfl) hP (spl n) (by omega)
      rw [hl] at hs1 hs2 ⊢
      refine comb2 A n cap (spl n) w A1 _ c1 (tree (l.take (spl n))) (tree (l.drop (spl n))) _ h2 hn rfl hs1 hs2 ?_ ?_ ?_
      · exact Lib.hid fun W hW => (ih (spl n) s2 (l.take (spl n)) _ W (by rw [List.length_take]; omega) (P2.below hW.below) (roots_since hr hW) (by omega)).mono fun e w' ⟨he, hb⟩ => ⟨he, since_of (step_below hW.below hb)⟩
      · exact Lib.hid fun W hW => (ih (n - spl n) (by omega) (l.drop (spl n)) _ W (by rw [List.length_drop, hl]) (P1.below hW.below) (roots_since hr hW) (by omega)).mono fun e w' ⟨he, hb⟩ => ⟨he, since_of (step_below hW.below hb)⟩
      · exact Lib.hid fun W hW => (nodeC _ _ W (roots_since hr hW) (by have := tree_le (l.take (spl n)) (by rw [List.length_take]; omega); omega) (by have := tree_le (l.drop (spl n)) (by rw [List.length_drop]; omega); omega)).mono fun e w' ⟨he, hb⟩ => ⟨he, since_of (step_below hW.below hb)⟩
    · match l with
      | [] => exact comb0 v _ _ w hP
      | [p] => exact comb1 v _ p w hP hr
      | p :: q :: r => simp at hl; omega

set_option maxHeartbeats 1000000 in
set_option maxRecDepth 100000 in
theorem root_this (A : Option Addr) (n cap : Nat) (w : World) (t out : List UInt8)
    (H1 : Hid (Calls Tryd.prog 62 #[.slice A n cap, .func (.func 63) #[] #[], .func (.func 64) #[] #[]] w fun e w' => e = .returned (.string (bs t)) ∧ Below w.heap.size w w'))
    (H2 : Hid (∀ W, Since w W → Calls Tryd.prog 41 #[.int .i64 n, .string (bs t)] W fun e w' => e = .returned (.string (bs out)) ∧ Since w w')) :
    Calls Tryd.prog 24 #[.slice A n cap] w fun e w' => e = .returned (.string (bs out)) ∧ Below w.heap.size w w' := by
  go_enter Tryd.func24, Tryd.ntmps24
  go_wp2_with fail
  refine H1.out.mono ?_
  rintro e w1 ⟨rfl, b1⟩
  go_wp2_with fail
  refine (H2.out w1 (since_of b1)).mono ?_
  rintro e w2 ⟨rfl, s2⟩
  go_wp2
  go_ret
  exact ⟨rfl, s2.below⟩
set_option maxRecDepth 100000 in
theorem rootC (l : List KV) (v : Value) (w : World) (hP : Prs w v l) (hr : Roots w) (hn : l.length ≤ 1000000000) :
    Calls Tryd.prog 24 #[v] w fun e w' => e = .returned (.string (bs (rootOf l))) ∧ Below w.heap.size w w' := by
  have H1 := Lib.hid (combC l.length l v w rfl hP hr hn)
  obtain ⟨A, cap, rfl, hcap, hc⟩ := hP
  exact root_this A l.length cap w _ _ H1 (Lib.hid fun W hW => (topC l.length (tree l) W (roots_since hr hW) (by have := tree_le l (by omega); omega)).mono fun e w' ⟨he, hb⟩ => ⟨he, since_of (step_below hW.below hb)⟩)
end Go.Proofs.YtkinnlfjcmhcoaaDoor.W
/-
  A slice of strings that a call owns.
-/
namespace Go.Proofs.YtkinnlfjcmhcoaaDoor.W
open Go.RowKit

theorem infoStr : (Tryd.prog.info? 9).map (fun i => (i.zero, i.size, i.bytes)) = some (some (.string .empty), 1, 16) := by kernel_rfl

def strVals (ss : List ByteArray) : List Value := ss.map Value.string
theorem strVals_len (ss : List ByteArray) : (strVals ss).length = ss.length := by simp [strVals]
theorem Txs.of_own {w : World} {base : Nat} {v : Value} {ss : List ByteArray} (h : w.ownsRow base 9 1 v ss.length (strVals ss)) : Txs w w.heap.size v ss := by
  rcases h.2 with ⟨rfl, hn⟩ | ⟨g, cap, cur, rfl, hb, hg, _⟩
  · obtain rfl : ss = [] := List.eq_nil_of_length_eq_zero hn
    exact Txs.nil _ _ _ _
  · refine ⟨some ⟨g, 0, none⟩, cap, rfl, fun i hi => ⟨g, 0, rfl, (Array.getElem?_eq_some_iff.1 hg).1, ?_⟩⟩
    have := h.cells (g := g) rfl i (.string ss[i]) (by simp [strVals, hi])
    rw [show (⟨g, 0, none⟩ : Addr).add i = ⟨g, 0 + i, none⟩ by unfold Addr.add; split <;> simp_all] at this
    exact this

/-- a slice of no more elements than it has room for -/
def Roomy (v : Value) : Prop := ∃ A n cap, v = .slice A n cap ∧ n ≤ cap
theorem roomy_nil : Roomy (.slice none 0 0) := ⟨none, 0, 0, rfl, Nat.le_refl _⟩
theorem own_roomy {w : World} {B : Nat} {e : TypeId} {k n : Nat} {v : Value} {xs : List Value} (h : w.ownsRow B e k v n xs) : Roomy v := by
  rcases h.2 with ⟨rfl, _⟩ | ⟨g, cap, cur, rfl, _, _, hc, _⟩
  · exact roomy_nil
  · exact ⟨_, _, _, rfl, hc⟩
/-- the slice value v is a row of the call's own that holds the strings ss; nothing below B has turned -/
def OwnStrs (B : Nat) (v : Value) (ss : List ByteArray) (W0 w : World) : Prop :=
  w.ownsRow B 9 1 v ss.length (strVals ss) ∧ Below B W0 w ∧ B ≤ w.heap.size
theorem OwnStrs_nil (w : World) : OwnStrs w.heap.size (.slice none 0 0) [] w w := ⟨World.ownsRow_nil _ _ _ _, Below.refl _ _, Nat.le_refl _⟩
section
variable {B : Nat} {v : Value} {ss : List ByteArray} {W0 w w' : World}
theorem OwnStrs.after (h : OwnStrs B v ss W0 w) (k : Below w.heap.size w w') : OwnStrs B v ss W0 w' := by
  refine ⟨h.1.kept (row := none) ⟨k.os, k.tape, k.output, k.size, fun i hi _ => k.block i hi⟩ (by cases hv : v.ownBlock <;> simp), h.2.1.trans (k.mono h.2.2), Nat.le_trans h.2.2 k.size⟩
theorem OwnStrs.alloc (h : OwnStrs B v ss W0 w) (o : Obj) : OwnStrs B v ss W0 (w.alloc o) := h.after ((Below.refl _ _).alloc (Nat.le_refl _) _)
theorem OwnStrs.txs (h : OwnStrs B v ss W0 w) : Txs w w.heap.size v ss := Txs.of_own h.1
theorem OwnStrs.below (h : OwnStrs W0.heap.size v ss W0 w) : Below W0.heap.size W0 w := h.2.1
end
/-- 'l = append(l, s)' -/
theorem wpList_append_str {ops : Array Oper} {rest : List Oper} {o : Oper} {a : Act} {Q : Exit → Act → World → Prop} (hgd : o.guard = none) (s x : Operand)
    (ho : o.op = .call { callee := .builtin .append, args := #[s, x], argTypes := #[34, 34] })
    (B : Nat) (v : Value) (ss : List ByteArray) (hs : a.eval s = v) (W0 w0 : World) (c : ByteArray) (hb : OwnStrs B v ss W0 w0)
    (hx : a.eval x = .slice (some ⟨w0.heap.size, 0, none⟩) 1 1) (hlen : ss.length ≤ 1000000000)
    (h : ∀ v' w', OwnStrs B v' (ss ++ [c]) W0 w' → wpList Tryd.prog ops Q rest (a.put o.dst v') w') : wpList Tryd.prog ops Q (o :: rest) a (w0.alloc (.cells #[.string c] 9)) := by
  obtain ⟨i0, hi, hz0, hz1, hz2⟩ := info_parts infoStr
  have hb' := hb.alloc (.cells #[.string c] 9)
  refine wpList_append_own _ hgd s x 34 ho B 9 i0 (.string .empty) 1 16 Tryd.underlying34 hi hz0 hz1 hz2 rfl (by decide) v ss.length (strVals ss) hs hb'.1 ⟨w0.heap.size, 0, none⟩ 1 1 [.string c] hx rfl ?_ ?_ ?_ ?_ hb'.2.2 ?_
  · intro j u hj
    match j, hj with
    | 0, hj => simp at hj; subst hj; simp [Addr.add]
    | (j + 1), hj => simp at hj
  · intro u hu
    simp at hu
    subst hu
    rfl
  · unfold maxLen; omega
  · omega
  · intro v' w' ho' hg _
    refine h v' w' ⟨?_, hb'.2.1.grown hg hb'.2.2 (fun k hk => (hb'.1.lt k hk).1), Nat.le_trans hb'.2.2 hg.size⟩
    simpa [strVals] using ho'
/-- 'make([]string, 0, n)' -/
theorem run_make_strs (n : Nat) (h : n ≤ 1000000000) (w : World) : (Instr.makeSlice 34 (.int .i64 0) (.int .i64 n)).run Tryd.prog w = .ok (.slice (some ⟨w.heap.size, 0, none⟩) 0 n) (w.alloc (.cells (madeCells #[.string .empty] n) 9)) := by
  obtain ⟨i0, hi, hz0, hz1, hz2⟩ := info_parts infoStr
  have hr := run_make (P := Tryd.prog) w 34 9 i0 _ Tryd.underlying34 hi hz0 .i64 .i64 0 n (by omega) (by omega) (by rw [hz2]; omega) (by omega)
  rw [hz1, show (Value.string ByteArray.empty).cells = #[.string .empty] from rfl] at hr
  simpa using hr
theorem OwnStrs_made (n : Nat) (h : n ≤ 1000000000) (w : World) : OwnStrs w.heap.size (.slice (some ⟨w.heap.size, 0, none⟩) 0 n) [] w (w.alloc (.cells (madeCells #[.string .empty] n) 9)) :=
  ⟨World.ownsRow_made w _ n (Nat.le_refl _) (by unfold maxLen; omega) (by rw [size_madeCells, Nat.mul_one]), (Below.refl _ _).alloc (Nat.le_refl _) _, by simp⟩
end Go.Proofs.YtkinnlfjcmhcoaaDoor.W
/-
  'l = append(l, m...)' of strings: onto a slice that the call owns.
-/
namespace Go.Proofs.YtkinnlfjcmhcoaaDoor.W
open Go.RowKit

theorem strVals_append (a b : List ByteArray) : strVals (a ++ b) = strVals a ++ strVals b := by simp [strVals]
theorem strVals_one {ss : List ByteArray} : ∀ u ∈ strVals ss, u.oneCell' = true := by
  intro u hu
  simp only [strVals, List.mem_map] at hu
  obtain ⟨x, _, rfl⟩ := hu
  rfl
theorem addS (b off j : Nat) : (⟨b, off, none⟩ : Addr).add j = ⟨b, off + j, none⟩ := by unfold Addr.add; split <;> simp_all
theorem Txs.cells {w : World} {B b off cap : Nat} {ss : List ByteArray} (h : Txs w B (.slice (some ⟨b, off, none⟩) ss.length cap) ss) : ∀ j u, (strVals ss)[j]? = some u → w.cell? ((⟨b, off, none⟩ : Addr).add j) = some u := by
  intro j u hj
  obtain ⟨A, cap', e, hc⟩ := h
  cases e
  have hlt : j < ss.length := by rw [← strVals_len]; exact (List.getElem?_eq_some_iff.1 hj).1
  obtain ⟨b', off', e, _, h1⟩ := hc j hlt
  cases e
  rw [addS, h1]
  simp [strVals, hlt] at hj
  rw [hj]
theorem run_append_empty (P : Program) (w : World) (t ty e : TypeId) (i : TypeInfo) (ht : P.underlying t = some (.slice e)) (hi : P.info? e = some i) (A : Option Addr) (n cap c : Nat) (hn : n ≤ cap) :
    (Builtin.append_ #[t, t] ty #[.slice A n cap, .slice none 0 c]).run P w = .ok (.slice A n cap) w := by
  cases A <;> simp [Builtin.append_, run_underlying ht, go_sem, run_sizeOf w hi, hn]
theorem run_append_txs (w : World) (B B' : Nat) (ty : TypeId) (v y : Value) (l m : List ByteArray) (hown : w.ownsRow B 9 1 v l.length (strVals l)) (hP : Txs w B' y m) (hB : B ≤ w.heap.size) (hlen : l.length + m.length ≤ 1000000000) :
    ∃ v' w', (Builtin.append_ #[34, 34] ty #[v, y]).run Tryd.prog w = .ok v' w' ∧ w'.ownsRow B 9 1 v' (l ++ m).length (strVals (l ++ m)) ∧ w.grownBy w' v.ownBlock := by
  obtain ⟨i0, hi, hz0, hz1, hz2⟩ := info_parts infoStr
  have hP' := hP
  obtain ⟨A, cap, rfl, hc⟩ := hP'
  match A, hc with
  | none, hc =>
    have hm : m = [] := by
      cases m with
      | nil => rfl
      | cons x m => obtain ⟨b, off, e, _⟩ := hc 0 (by simp); cases e
    subst hm
    rw [List.append_nil]
    have hv : ∃ A' n c, v = .slice A' n c ∧ n ≤ c := by
      rcases hown.2 with ⟨rfl, _⟩ | ⟨g, cap, cur, rfl, _, _, h1, _⟩
      · exact ⟨none, 0, 0, rfl, Nat.le_refl _⟩
      · exact ⟨_, _, _, rfl, h1⟩
    obtain ⟨A', n, c, rfl, hn⟩ := hv
    exact ⟨_, w, run_append_empty Tryd.prog w 34 ty _ i0 Tryd.underlying34 hi A' n c cap hn, hown, only_refl _ _⟩
  | some ad, hc =>
    by_cases hm : m = []
    · subst hm
      obtain ⟨v', w', hr, h2, h3, _, h5⟩ := run_append_own_at (P := Tryd.prog) w B 34 ty 9 i0 _ 1 16 Tryd.underlying34 hi hz0 hz1 hz2 rfl (by decide) v l.length (strVals l) hown ad 0 cap [] rfl (fun j u h => by simp at h) (fun u h => by cases h) (by unfold maxLen; simp only [List.length_nil] at hlen; omega) (by simp only [List.length_nil] at hlen; omega) hB
      exact ⟨v', w', hr, by simpa using h2, h3⟩
    · obtain ⟨b, off, e, _⟩ := hc 0 (by cases m <;> simp_all)
      cases e
      obtain ⟨v', w', hr, h2, h3, _, h5⟩ := run_append_own_at (P := Tryd.prog) w B 34 ty 9 i0 _ 1 16 Tryd.underlying34 hi hz0 hz1 hz2 rfl (by decide) v l.length (strVals l) hown ⟨b, off, none⟩ m.length cap (strVals m) (by rw [strVals_len]; omega) hP.cells strVals_one (by unfold maxLen; omega) (by omega) hB
      exact ⟨v', w', hr, by rw [List.length_append, strVals_append]; exact h2, h3⟩
/-- 'l = append(l, m...)' -/
theorem wpList_append_txs {ops : Array Oper} {rest : List Oper} {o : Oper} {a : Act} {Q : Exit → Act → World → Prop} (w : World) (hgd : o.guard = none) (s x : Operand)
    (ho : o.op = .call { callee := .builtin .append, args := #[s, x], argTypes := #[34, 34] }) (B B' : Nat) (v y : Value) (l m : List ByteArray) (hs : a.eval s = v) (hx : a.eval x = y) (W0 : World)
    (hown : OwnStrs B v l W0 w) (hP : Txs w B' y m) (hlen : l.length + m.length ≤ 1000000000)
    (h : ∀ v' w', OwnStrs B v' (l ++ m) W0 w' → w.grownBy w' v.ownBlock → wpList Tryd.prog ops Q rest (a.put o.dst v') w') : wpList Tryd.prog ops Q (o :: rest) a w := by
  refine wpList_plain hgd fun K hK => ?_
  obtain ⟨v', w', hr, h2, h3⟩ := run_append_txs w B B' o.type v y l m hown.1 hP hown.2.2 hlen
  simp [Oper.wp, Oper.upon, execOp, ho, resolve, invoke, builtin, hs, hx, hr, Result.andThen]
  exact hK _ _ (h v' w' ⟨h2, hown.2.1.grown h3 hown.2.2 (fun k hk => (hown.1.lt k hk).1), Nat.le_trans hown.2.2 h3.size⟩ h3)
/-- the same behind a guard -/
theorem wpList_append_txsG {ops : Array Oper} {rest : List Oper} {o : Oper} {a : Act} {Q : Exit → Act → World → Prop} (w : World) (hgd : Region.wanted o (yielded ops a.tmps) = true) (s x : Operand)
    (ho : o.op = .call { callee := .builtin .append, args := #[s, x], argTypes := #[34, 34] }) (B B' : Nat) (v y : Value) (l m : List ByteArray) (hs : a.eval s = v) (hx : a.eval x = y) (W0 : World)
    (hown : OwnStrs B v l W0 w) (hP : Txs w B' y m) (hlen : l.length + m.length ≤ 1000000000)
    (h : ∀ v' w', OwnStrs B v' (l ++ m) W0 w' → w.grownBy w' v.ownBlock → wpList Tryd.prog ops Q rest (a.put o.dst v') w') : wpList Tryd.prog ops Q (o :: rest) a w := by
  refine wpList_step fun K hK => ?_
  rw [if_pos hgd]
  obtain ⟨v', w', hr, h2, h3⟩ := run_append_txs w B B' o.type v y l m hown.1 hP hown.2.2 hlen
  simp [Oper.wp, Oper.upon, execOp, ho, resolve, invoke, builtin, hs, hx, hr, Result.andThen]
  exact hK _ _ (h v' w' ⟨h2, hown.2.1.grown h3 hown.2.2 (fun k hk => (hown.1.lt k hk).1), Nat.le_trans hown.2.2 h3.size⟩ h3)
/-- an empty slice is anyone's own -/
theorem OwnStrs.start {w w1 : World} (h : Below w.heap.size w w1) : OwnStrs w.heap.size (.slice none 0 0) [] w w1 := ⟨World.ownsRow_nil _ _ _ _, h, h.size⟩
theorem own_down {w : World} {B B' : Nat} {t : TypeId} {k n : Nat} {v : Value} {xs : List Value} (h : w.ownsRow B t k v n xs) (hB : B' ≤ B) : w.ownsRow B' t k v n xs := by
  refine ⟨h.1, ?_⟩
  rcases h.2 with hn | ⟨g, cap, cur, e1, e2, rest⟩
  · exact .inl hn
  · exact .inr ⟨g, cap, cur, e1, Nat.le_trans hB e2, rest⟩
theorem OwnStrs.from {w w1 w2 : World} {v : Value} {ss : List ByteArray} (h : Below w.heap.size w w1) (k : OwnStrs w1.heap.size v ss w1 w2) : OwnStrs w.heap.size v ss w w2 :=
  ⟨own_down k.1 h.size, step_below h k.below, Nat.le_trans h.size k.2.2⟩
theorem txs_kept {w w' : World} {B : Nat} {y : Value} {ss : List ByteArray} {r : Option Nat} (h : Txs w B y ss) (k : w.grownBy w' r) (hd : ∀ g, y.ownBlock = some g → g < w.heap.size ∧ some g ≠ r) : Txs w' B y ss :=
  h.moved fun g hg => k.block g (hd g hg).1 (hd g hg).2
end Go.Proofs.YtkinnlfjcmhcoaaDoor.W
/-
  A slice of slices of strings in memory; a proof in memory.
-/
namespace Go.Proofs.YtkinnlfjcmhcoaaDoor.W
open Go.RowKit

theorem infoSl : (Tryd.prog.info? 34).map (fun i => (i.zero, i.size, i.bytes)) = some (some (.slice none 0 0), 1, 24) := by kernel_rfl

/-- the slice value v reads as these lists of strings -/
def Pths (w : World) (v : Value) (L : List (List (List UInt8))) : Prop :=
  ∃ A cap, v = .slice A L.length cap ∧ L.length ≤ cap ∧ ∀ (i : Nat) q, L[i]? = some q → ∃ b off u, A = some ⟨b, off, none⟩ ∧ w.cell? ⟨b, off + i, none⟩ = some u ∧ Txs w w.heap.size u (bss q) ∧ Roomy u
section
variable {w w' : World} {v : Value} {L : List (List (List UInt8))}
theorem Pths.below (h : Pths w v L) (hb : Below w.heap.size w w') : Pths w' v L := by
  obtain ⟨A, cap, rfl, hl, hc⟩ := h
  refine ⟨A, cap, rfl, hl, fun i q hq => ?_⟩
  obtain ⟨b, off, u, rfl, h1, h2, h3⟩ := hc i q hq
  exact ⟨b, off, u, rfl, (since_of hb).cell h1, (h2.below hb).more hb.size, h3⟩
theorem Pths.nil (w : World) (A : Option Addr) (cap : Nat) : Pths w (.slice A 0 cap) [] := ⟨A, cap, rfl, Nat.zero_le _, fun i q h => by simp at h⟩
/-- '[]string[]{u}' -/
theorem pths_one {w : World} {g : Nat} {u : Value} {q : List (List UInt8)} (h : Blk w g 34 #[u]) (hT : Txs w w.heap.size u (bss q)) (hR : Roomy u) : Pths w (.slice (some ⟨g, 0, none⟩) 1 1) [q] := by
  refine ⟨_, 1, rfl, Nat.le_refl _, fun i q' hq => ?_⟩
  obtain ⟨hi, e⟩ := List.getElem?_eq_some_iff.1 hq
  obtain rfl : i = 0 := by simpa using hi
  obtain rfl : q = q' := by simpa using e
  exact ⟨g, 0, u, rfl, h.cell 0, hT, hR⟩
end

/-- a row of the call's own (from block B on) that holds these lists, each in another block of its own or in none -/
def OwnPths (B : Nat) (v : Value) (L : List (List (List UInt8))) (w : World) : Prop :=
  ∃ us : List Value, us.length = L.length ∧ w.ownsRow B 34 1 v L.length us ∧ B ≤ w.heap.size ∧ ∀ (i : Nat) u q, us[i]? = some u → L[i]? = some q → Txs w w.heap.size u (bss q) ∧ Roomy u ∧ ∀ g, u.ownBlock = some g → B ≤ g ∧ g < w.heap.size ∧ some g ≠ v.ownBlock
section
variable {B : Nat} {v : Value} {L : List (List (List UInt8))} {w w' : World}
theorem OwnPths.nil (hB : B ≤ w.heap.size) : OwnPths B (.slice none 0 0) [] w := ⟨[], rfl, World.ownsRow_nil _ _ _ _, hB, fun i u q h => by simp at h⟩
theorem OwnPths.lt (h : OwnPths B v L w) : ∀ g, v.ownBlock = some g → B ≤ g ∧ g < w.heap.size := by
  obtain ⟨us, _, h1, _⟩ := h
  exact h1.lt
/-- a step that leaves all blocks from B on as they were -/
theorem OwnPths.keep (h : OwnPths B v L w) (hs : w.heap.size ≤ w'.heap.size) (hk : ∀ g, B ≤ g → g < w.heap.size → w'.heap[g]? = w.heap[g]?) : OwnPths B v L w' := by
  obtain ⟨us, h0, h1, h2, h3⟩ := h
  refine ⟨us, h0, ?_, Nat.le_trans h2 hs, fun i u q hu hq => ?_⟩
  · refine ⟨h1.1, ?_⟩
    rcases h1.2 with hn | ⟨g, cap, cur, e1, e2, e3, rest⟩
    · exact .inl hn
    · refine .inr ⟨g, cap, cur, e1, e2, ?_, rest⟩
      rw [hk g e2 (h1.lt g (by rw [e1]; rfl)).2]
      exact e3
  · obtain ⟨hT, hR, hg⟩ := h3 i u q hu hq
    exact ⟨(hT.moved fun g hb => hk g (hg g hb).1 (hg g hb).2.1).more hs, hR, fun g hb => ⟨(hg g hb).1, Nat.lt_of_lt_of_le (hg g hb).2.1 hs, (hg g hb).2.2⟩⟩
theorem OwnPths.after (h : OwnPths B v L w) (k : Below w.heap.size w w') : OwnPths B v L w' := h.keep k.size fun g _ hg => k.block g hg
theorem OwnPths.alloc (h : OwnPths B v L w) (o : Obj) : OwnPths B v L (w.alloc o) := h.after ((Below.refl _ _).alloc (Nat.le_refl _) _)
theorem OwnPths.set_ (h : OwnPths B v L w) (p : Addr) (hp : p.block < B) (u : Value) : OwnPths B v L (w.setCell p u) :=
  h.keep (by simp [World.setCell]) fun g hg _ => Below.heap_setCell w p u g (by omega)
theorem OwnPths.grown (h : OwnPths B v L w) {b : Nat} (k : w.grownBy w' (some b)) (hb : b < B) : OwnPths B v L w' := h.keep k.size fun g hg hlt => k.block g hlt (by intro e; injection e with e; omega)
theorem OwnPths.drewN (h : OwnPths B v L w) (n : Nat) : OwnPths B v L (w.drewN n) := h.after (quiet_below w n)
theorem OwnPths.drew (h : OwnPths B v L w) : OwnPths B v L w.drew := h.drewN 1
theorem OwnPths.pths (h : OwnPths B v L w) : Pths w v L := by
  obtain ⟨us, h0, h1, _, h3⟩ := h
  rcases h1.2 with ⟨rfl, hn⟩ | ⟨g, cap, cur, rfl, hb, hg, hc, _⟩
  · obtain rfl : L = [] := List.eq_nil_of_length_eq_zero hn
    exact Pths.nil _ _ _
  · refine ⟨some ⟨g, 0, none⟩, cap, rfl, hc, fun i q hq => ?_⟩
    have hi : i < us.length := by rw [h0]; exact (List.getElem?_eq_some_iff.1 hq).1
    have hu : us[i]? = some us[i] := List.getElem?_eq_getElem hi
    have := h1.cells (g := g) rfl i _ hu
    rw [show (⟨g, 0, none⟩ : Addr).add i = ⟨g, 0 + i, none⟩ by unfold Addr.add; split <;> simp_all] at this
    exact ⟨g, 0, _, rfl, this, (h3 i _ q hu hq).1, (h3 i _ q hu hq).2.1⟩
/-- one list more -/
theorem OwnPths.more {u v' : Value} {q : List (List UInt8)} {us : List Value} (h0 : us.length = L.length) (h3 : ∀ (i : Nat) u q, us[i]? = some u → L[i]? = some q → Txs w w.heap.size u (bss q) ∧ Roomy u ∧ ∀ g, u.ownBlock = some g → B ≤ g ∧ g < w.heap.size ∧ some g ≠ v.ownBlock)
    (hT : Txs w w.heap.size u (bss q)) (hR : Roomy u) (hu : ∀ g, u.ownBlock = some g → B ≤ g ∧ g < w.heap.size ∧ some g ≠ v.ownBlock) (hown : w'.ownsRow B 34 1 v' (L.length + 1) (us ++ [u])) (hB : B ≤ w'.heap.size) (hg : w.grownBy w' v.ownBlock) (hat : v'.ownBlock = v.ownBlock ∨ ∃ g, v'.ownBlock = some g ∧ w.heap.size ≤ g) :
    OwnPths B v' (L ++ [q]) w' := by
  have key : ∀ (u : Value) (q : List (List UInt8)), (Txs w w.heap.size u (bss q) ∧ Roomy u ∧ ∀ g, u.ownBlock = some g → B ≤ g ∧ g < w.heap.size ∧ some g ≠ v.ownBlock) → Txs w' w'.heap.size u (bss q) ∧ Roomy u ∧ ∀ g, u.ownBlock = some g → B ≤ g ∧ g < w'.heap.size ∧ some g ≠ v'.ownBlock := by
    rintro u q ⟨k1, k0, k2⟩
    refine ⟨(k1.moved fun g hb => hg.block g (k2 g hb).2.1 (k2 g hb).2.2).more hg.size, k0, fun g hb => ⟨(k2 g hb).1, Nat.lt_of_lt_of_le (k2 g hb).2.1 hg.size, ?_⟩⟩
    rcases hat with e | ⟨g', e, hge⟩
    · rw [e]; exact (k2 g hb).2.2
    · rw [e]
      intro e2
      injection e2 with e2
      have := (k2 g hb).2.1
      omega
  refine ⟨us ++ [u], by rw [List.length_append, List.length_append, h0]; rfl, by rw [List.length_append]; exact hown, hB, fun i u' q' hu' hq' => ?_⟩
  by_cases hi : i < us.length
  · rw [List.getElem?_append_left hi] at hu'
    rw [List.getElem?_append_left (by omega)] at hq'
    exact key u' q' (h3 i u' q' hu' hq')
  · rw [List.getElem?_append_right (by omega)] at hu' hq'
    by_cases hz : i - us.length = 0
    · rw [hz] at hu'
      rw [show i - L.length = 0 by omega] at hq'
      simp only [List.getElem?_cons_zero, Option.some.injEq] at hu' hq'
      subst hu' hq'
      exact key u q ⟨hT, hR, hu⟩
    · rw [List.getElem?_eq_none (by simp; omega)] at hu'
      cases hu'
end
/-- a proof -/
def Prf (w : World) (v : Value) (x : Pf) : Prop := ∃ nv pv, v = .agg #[.int .i64 x.n, .int .i64 x.pos, .bool x.there, nv, pv] ∧ Prs w nv x.near ∧ Pths w pv x.paths
theorem Prf.below {w w' : World} {v : Value} {x : Pf} (h : Prf w v x) (hb : Below w.heap.size w w') : Prf w' v x := by
  obtain ⟨nv, pv, rfl, h1, h2⟩ := h
  exact ⟨nv, pv, rfl, h1.below hb, h2.below hb⟩
theorem Prf.zero (w : World) : Prf w (.agg #[.int .i64 0, .int .i64 0, .bool false, .slice none 0 0, .slice none 0 0]) Pf.zero := ⟨_, _, rfl, Prs.nil _ _ _, Pths.nil _ _ _⟩
end Go.Proofs.YtkinnlfjcmhcoaaDoor.W
/-
  Slices of strings since an earlier world; the rest of a slice of strings.
-/
namespace Go.Proofs.YtkinnlfjcmhcoaaDoor.W
open Go.RowKit

theorem Since.txs {w0 W : World} (h : Since w0 W) {v : Value} {ss : List ByteArray} (hT : Txs w0 w0.heap.size v ss) : Txs W W.heap.size v ss := (hT.below h.below).more h.2.2.2.1
/-- the rest of a slice of strings that is not empty: l[1:], as the model gives it -/
theorem Txs.tail {w : World} {b off c : Nat} {p : ByteArray} {r : List ByteArray} (h : Txs w w.heap.size (.slice (some ⟨b, off, none⟩) (r.length + 1) c) (p :: r)) :
    w.cell? ⟨b, off, none⟩ = some (.string p) ∧ ∀ k, Txs w w.heap.size (.slice (some ⟨b, off + 1, none⟩) r.length k) r := by
  obtain ⟨A, c', e, hc⟩ := h
  simp only [Value.slice.injEq] at e
  obtain ⟨rfl, -, rfl⟩ := e
  obtain ⟨b0, o0, e0, hb0, h0⟩ := hc 0 (by simp)
  cases e0
  refine ⟨by simpa using h0, fun k => ⟨_, k, rfl, fun i hi => ⟨b, off + 1, rfl, hb0, ?_⟩⟩⟩
  obtain ⟨b', o', e', -, hcell⟩ := hc (i + 1) (by simp; omega)
  cases e'
  rw [show off + 1 + i = off + (i + 1) by omega, hcell]
  simp
end Go.Proofs.YtkinnlfjcmhcoaaDoor.W
/-
  proof.leavesOf, treeOf, pathOf.
-/
namespace Go.Proofs.YtkinnlfjcmhcoaaDoor.W
open Go.RowKit

def lv (l : List KV) : List (List UInt8) := l.map fun p => shaOf (leafOf p)
theorem lv_len (l : List KV) : (lv l).length = l.length := by simp [lv]
theorem lv_take (l : List KV) (k : Nat) : lv (l.take k) = (lv l).take k := by simp [lv, List.map_take]
theorem lv_drop (l : List KV) (k : Nat) : lv (l.drop k) = (lv l).drop k := by simp [lv, List.map_drop]
theorem bss_take (L : List (List UInt8)) (k : Nat) : bss (L.take k) = (bss L).take k := by simp [bss, List.map_take]
theorem bss_drop (L : List (List UInt8)) (k : Nat) : bss (L.drop k) = (bss L).drop k := by simp [bss, List.map_drop]

/-! ### Parts of a slice of strings -/
section
variable {w : World} {A : Option Addr} {cap B : Nat} {ss : List ByteArray}
set_option maxRecDepth 100000 in
theorem txs_cut (h : Txs w B (.slice A ss.length cap) ss) (hcap : ss.length ≤ cap) (i : Nat) (hi : i ≤ ss.length) :
    ∃ A' c', (∀ W, (Instr.slice 34 (.slice A ss.length cap) (some (.int .i64 i)) none none).run Tryd.prog W = .ok (.slice A' (ss.drop i).length c') W) ∧ Txs w B (.slice A' (ss.drop i).length c') (ss.drop i) ∧ (ss.drop i).length ≤ c' := by
  obtain ⟨A0, cap0, e, hc⟩ := h
  cases e
  refine ⟨_, cap - i, fun W => ?_, ⟨if cap = i then A else A.map (·.add (i * 1)), cap - i, rfl, fun j hj => ?_⟩, by rw [List.length_drop]; omega⟩
  · obtain ⟨i0, hi0, hz0, hz1, hz2⟩ := info_parts infoStr
    have hE : Tryd.prog.elem 34 = 9 := by kernel_rfl
    have hr := run_slice_l (P := Tryd.prog) (w := W) 34 A ss.length cap (by kernel_rfl) .i64 i (by omega) (by omega)
    rw [hE, run_sizeOf W hi0, show Tryd.prog.cellsOf 9 = 1 by kernel_rfl] at hr
    rw [hr, List.length_drop]
    simp [Result.andThen, sliced]
  · rw [List.length_drop] at hj
    obtain ⟨b, off, rfl, hb, h1⟩ := hc (i + j) (by omega)
    refine ⟨b, off + i * 1, ?_, hb, ?_⟩
    · rw [if_neg (by omega), Option.map_some, add_far]
    · rw [List.getElem_drop, show off + i * 1 + j = off + (i + j) by omega]; exact h1
set_option maxRecDepth 100000 in
theorem txs_upto (h : Txs w B (.slice A ss.length cap) ss) (hcap : ss.length ≤ cap) (i : Nat) (hi : i ≤ ss.length) :
    (∀ W, (Instr.slice 34 (.slice A ss.length cap) none (some (.int .i64 i)) none).run Tryd.prog W = .ok (.slice A i cap) W) ∧ Txs w B (.slice A i cap) (ss.take i) := by
  obtain ⟨A0, cap0, e, hc⟩ := h
  cases e
  refine ⟨fun W => ?_, ⟨A, cap, by rw [List.length_take, Nat.min_eq_left hi], fun j hj => ?_⟩⟩
  · obtain ⟨i0, hi0, hz0, hz1, hz2⟩ := info_parts infoStr
    have hE : Tryd.prog.elem 34 = 9 := by kernel_rfl
    have hr := run_slice_h (P := Tryd.prog) (w := W) 34 A ss.length cap (by kernel_rfl) .i64 i (by omega) (by omega)
    rw [hE, run_sizeOf W hi0, show Tryd.prog.cellsOf 9 = 1 by kernel_rfl] at hr
    rw [hr]
    cases A <;> simp [Result.andThen, sliced]
    rename_i a
    rcases a with ⟨b, off, x⟩
    cases x <;> simp [Addr.add]
  · rw [List.length_take] at hj
    obtain ⟨b, off, rfl, hb, h1⟩ := hc j (by omega)
    exact ⟨b, off, rfl, hb, by rw [List.getElem_take]; exact h1⟩
end

/-! ### leavesOf -/
theorem lv_step {l : List KV} {k : Nat} (h : k < l.length) : bss (lv (l.take (k + 1))) = bss (lv (l.take k)) ++ [bs (shaOf (leafOf l[k]))] := by
  rw [List.take_succ_eq_append_getElem h]
  unfold lv bss
  rw [List.map_append, List.map_append]
  rfl
set_option maxHeartbeats 2000000 in
set_option maxRecDepth 100000 in
theorem leavesC (v : Value) (l : List KV) (w : World) (hP : Prs w v l) (hr : Roots w) (hz : l.length ≤ 1000000) :
    Calls Tryd.prog 32 #[v] w fun e w' => ∃ u, e = .returned u ∧ OwnStrs w.heap.size u (bss (lv l)) w w' := by
  obtain ⟨A, cap, rfl, hcap, hc⟩ := hP
  have HC := Lib.hid hc
  have HR := Lib.hid hr
  have HZ := Lib.hid hz
  clear hc hr hz
  go_enter Tryd.func32, Tryd.ntmps32
  go_wp2
  go_loopw [3, 5, 8] (fun s _ i wr => ∃ k : Nat, k ≤ l.length ∧ i = .int .i64 k ∧ OwnStrs w.heap.size s (bss (lv (l.take k))) w wr) (fun _ _ i _ => l.length - (intOf i).toNat)
  case atStart => exact ⟨0, Nat.zero_le _, rfl, OwnStrs_nil w⟩
  case round =>
    obtain ⟨k, hk, rfl, hown⟩ := hrel
    have hz := HZ.out
    by_cases hlt : k < l.length
    · obtain ⟨b, off, rfl, d0, d1⟩ := HC.out k hlt
      have c0 := (since_of hown.below).cell d0
      have c1 := (since_of hown.below).cell d1
      have HE := Lib.hid (lv_step hlt)
      have HL := Lib.hid (show (bss (lv (l.take k))).length ≤ 1000000 by rw [bss_len, lv_len, List.length_take]; omega)
      obtain ⟨p, hp⟩ : ∃ p, l[k] = p := ⟨_, rfl⟩
      rw [hp] at c0 c1 HE
      have O := Lib.hid hown
      have i0 : (0 : Int) ≤ (k : Int) := by omega
      have i1 : (k : Int) < (l.length : Int) := by omega
      have KL := Lib.hid (fun W (h : Below w.heap.size w W) => leafC p W (HR.out.next h))
      obtain ⟨p1, p2⟩ := p
      simp only at c0 c1 KL
      generalize shaOf (leafOf (p1, p2)) = y at *
      have HB := Lib.hid (Blk.new wr 32 #[.string p1, .string p2])
      have e0 : (wr.alloc (.cells #[.string p1, .string p2] 32)).cell? ⟨wr.heap.size, 0, none⟩ = some (.string p1) := HB.out.cell 0
      have e1 : (wr.alloc (.cells #[.string p1, .string p2] 32)).cell? ⟨wr.heap.size, 1, none⟩ = some (.string p2) := HB.out.cell 1
      clear hown d0 d1 hp
      go_wp2_with fail
      refine (KL.out _ (O.out.alloc (.cells #[.string p1, .string p2] 32)).below).mono ?_
      rintro e w2 ⟨rfl, b2⟩
      have O2 := Lib.hid (OwnStrs.after (O.out.alloc (.cells #[.string p1, .string p2] 32)) b2)
      clear O b2
      go_wp2_with (at_builtin; (refine wpList_append_str rfl _ _ rfl w.heap.size u3 _ rfl w w2 (bs y) O2.out rfl (by have := HL.out; omega) ?_; intro v7 w7 o7; rw [← HE.out] at o7; clear O2 HE))
      go_roundw
      case rel => exact ⟨k + 1, by omega, by go_num, o7⟩
      case measure => simp [intOf]; omega
    · obtain rfl : k = l.length := by omega
      rw [List.take_length] at hown
      go_wp2
      go_ret
      exact ⟨_, rfl, hown⟩

/-! ### treeOf -/
set_option maxHeartbeats 1000000 in
set_option maxRecDepth 100000 in
theorem treeOf1 (v : Value) (x : List UInt8) (w : World) (hT : Txs w w.heap.size v [bs x]) :
    Calls Tryd.prog 67 #[v] w fun e w' => e = .returned (.string (bs x)) ∧ Below w.heap.size w w' := by
  obtain ⟨A, cap, rfl, hc⟩ := hT
  obtain ⟨b, off, rfl, _, c0⟩ := hc 0 (by simp)
  simp only [List.getElem_cons_zero, Nat.add_zero] at c0
  simp only [List.length_singleton]
  clear hc
  go_enter Tryd.func67, Tryd.ntmps67
  go_wp2
  go_ret
  exact ⟨rfl, Below.refl _ _⟩
set_option maxHeartbeats 2000000 in
set_option maxRecDepth 100000 in
theorem treeOf2 (A : Option Addr) (n cap s : Nat) (w : World) (A' : Option Addr) (n' c' : Nat) (x y out : List UInt8) (hn : 2 ≤ n) (hn2 : n ≤ 1000000000) (hs : spl n = s)
    (hs1 : ∀ W, (Instr.slice 34 (.slice A n cap) (some (.int .i64 s)) none none).run Tryd.prog W = .ok (.slice A' n' c') W)
    (hs2 : ∀ W, (Instr.slice 34 (.slice A n cap) none (some (.int .i64 s)) none).run Tryd.prog W = .ok (.slice A s cap) W)
    (H1 : Hid (∀ W, Since w W → Calls Tryd.prog 67 #[.slice A s cap] W fun e w' => e = .returned (.string (bs x)) ∧ Since w w'))
    (H2 : Hid (∀ W, Since w W → Calls Tryd.prog 67 #[.slice A' n' c'] W fun e w' => e = .returned (.string (bs y)) ∧ Since w w'))
    (H3 : Hid (∀ W, Since w W → Calls Tryd.prog 64 #[.string (bs x), .string (bs y)] W fun e w' => e = .returned (.string (bs out)) ∧ Since w w')) :
    Calls Tryd.prog 67 #[.slice A n cap] w fun e w' => e = .returned (.string (bs out)) ∧ Below w.heap.size w w' := by
  have K0 := splitC n w (by omega)
  rw [Int.toNat_natCast, hs] at K0
  have K := Lib.hid K0
  clear K0 hs
  have r0 := Since.refl w
  have n1 : ((n : Int) == 1) = false := by simp; omega
  clear hn
  go_enter Tryd.func67, Tryd.ntmps67
  go_wp2_with fail
  refine K.out.mono ?_
  rintro e w1 ⟨rfl, rfl⟩
  clear K
  go_wp2
  go_region_held3 (fun _ => True)
    (first | trivial | go_keep)
    (first
      | (go_at_call 67; refine (H1.out _ (by exact r0)).mono ?_; clear H1; rintro en w5 ⟨rfl, s5⟩)
      | (go_at_call 67; refine (H2.out _ (by exact s5)).mono ?_; clear H2; rintro en w6 ⟨rfl, s6⟩)
      | (go_at_call 64; refine (H3.out _ (by exact s6)).mono ?_; clear H3; rintro en w7 ⟨rfl, s7⟩))
  all_goals go_wp2
  all_goals go_ret
  all_goals exact ⟨rfl, s7.below⟩
set_option maxRecDepth 100000 in
theorem treeOfC : ∀ (n : Nat) (l : List KV) (v : Value) (w : World), l.length = n → l ≠ [] → Txs w w.heap.size v (bss (lv l)) → Roomy v → Roots w → n ≤ 1000000000 →
    Calls Tryd.prog 67 #[v] w fun e w' => e = .returned (.string (bs (tree l))) ∧ Below w.heap.size w w' := by
  intro n
  induction n using Nat.strongRecOn with
  | _ n ih =>
    intro l v w hl hne hT hR hr hn
    by_cases h2 : 2 ≤ n
    · obtain ⟨s1, s2, s3⟩ := spl_pos h2 (by omega)
      have ht := tree_two l (by omega) (by omega)
      rw [hl] at ht
      rw [ht]
      have hT0 := hT
      obtain ⟨A, cap, rfl, hc⟩ := hT0
      have hcap : (bss (lv l)).length ≤ cap := by
        obtain ⟨A0, n0, c0, e, h⟩ := hR
        cases e
        exact h
      have hll : (bss (lv l)).length = n := by rw [bss_len, lv_len, hl]
      obtain ⟨A1, c1, hs1, P1, R1⟩ := txs_cut hT hcap (spl n) (by omega)
      obtain ⟨hs2, P2⟩ := txs_upto hT hcap (spl n) (by omega)
      have e1 : (bss (lv l)).take (spl n) = bss (lv (l.take (spl n))) := by rw [lv_take, bss_take]
      have e2 : (bss (lv l)).drop (spl n) = bss (lv (l.drop (spl n))) := by rw [lv_drop, bss_drop]
      rw [e1] at P2
      rw [e2] at hs1 P1 R1
      rw [hll] at hs1 hs2 ⊢
      have len1 : (l.take (spl n)).length = spl n := by rw [List.length_take]; omega
      have len2 : (l.drop (spl n)).length = n - spl n := by rw [List.length_drop, hl]
      refine treeOf2 A n cap (spl n) w A1 _ c1 (tree (l.take (spl n))) (tree (l.drop (spl n))) _ h2 hn rfl hs1 hs2 ?_ ?_ ?_
      · exact Lib.hid fun W hW => (ih (spl n) s2 (l.take (spl n)) _ W len1 (by intro e; rw [e] at len1; simp at len1; omega) (hW.txs P2) ⟨_, _, _, rfl, by omega⟩ (roots_since hr hW) (by omega)).mono fun e w' ⟨he, hb⟩ => ⟨he, since_of (step_below hW.below hb)⟩
      · exact Lib.hid fun W hW => (ih (n - spl n) (by omega) (l.drop (spl n)) _ W len2 (by intro e; rw [e] at len2; simp at len2; omega) (hW.txs P1) ⟨_, _, _, rfl, R1⟩ (roots_since hr hW) (by omega)).mono fun e w' ⟨he, hb⟩ => ⟨he, since_of (step_below hW.below hb)⟩
      · exact Lib.hid fun W hW => (nodeC _ _ W (roots_since hr hW) (by have := tree_le (l.take (spl n)) (by omega); omega) (by have := tree_le (l.drop (spl n)) (by omega); omega)).mono fun e w' ⟨he, hb⟩ => ⟨he, since_of (step_below hW.below hb)⟩
    · match l, hne with
      | [p], _ => exact treeOf1 v _ w hT
      | p :: q :: r, _ => simp at hl; omega

/-! ### pathOf -/
set_option maxHeartbeats 1000000 in
set_option maxRecDepth 100000 in
theorem pathOf1 (A : Option Addr) (cap : Nat) (i : Int) (w : World) :
    Calls Tryd.prog 33 #[.slice A 1 cap, .int .i64 i] w fun e w' => ∃ u, e = .returned u ∧ OwnStrs w.heap.size u (bss []) w w' := by
  have h := OwnStrs_nil w
  go_enter Tryd.func33, Tryd.ntmps33
  go_wp2
  go_ret
  exact ⟨_, rfl, h⟩
end Go.Proofs.YtkinnlfjcmhcoaaDoor.W
