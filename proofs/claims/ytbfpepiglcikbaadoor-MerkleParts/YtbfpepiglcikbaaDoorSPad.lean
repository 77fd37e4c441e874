/-
  sha.Pad: what a message of so many bytes is padded with.
-/
import Derived.Test.YtbfpepiglcikbaaDoorCStr
import Derived.Test.YtbfpepiglcikbaaDoorSRun
namespace Go.Proofs.YtbfpepiglcikbaaDoor.W
open Go.RowKit

theorem made_eq (n : Nat) : (madeCells (Value.int .u8 0).cells n).toList = cells (List.replicate n 0) := by
  apply List.ext_getElem?
  intro i
  simp only [madeCells, cells, Array.getElem?_toList, Array.getElem?_map, List.getElem?_map, List.getElem?_replicate, Array.getElem?_range]
  split
  · simp [Value.cells, Nat.mod_one]
  · rfl
/-- 'make([]byte, z+1, z+9)', its first byte then 128 -/
theorem OwnBuf_pad (z : Nat) (hz : z < 64) (w : World) :
    Lib.OwnBuf w.heap.size 5 (.slice (some ⟨w.heap.size, 0, none⟩) (z + 1) (z + 9)) (z + 1) (cells (128 :: List.replicate z 0)) w (w.alloc (.cells ((madeCells (Value.int .u8 0).cells (z + 9)).setIfInBounds 0 (.int .u8 128)) 5)) := by
  have hB : Blk (w.alloc (.cells ((madeCells (Value.int .u8 0).cells (z + 9)).setIfInBounds 0 (.int .u8 128)) 5)) w.heap.size 5 ((madeCells (Value.int .u8 0).cells (z + 9)).setIfInBounds 0 (.int .u8 128)) := Blk.new _ _ _
  refine ⟨⟨by simp [cells], .inr ⟨w.heap.size, z + 9, _, (0, 0), rfl, Nat.le_refl _, hB, Nat.zero_le _, by omega, by unfold maxLen; omega, by simp [size_madeCells], ?_⟩⟩, (Below.refl _ _).alloc (Nat.le_refl _) _, by simp⟩
  rw [Array.toList_setIfInBounds, made_eq, Nat.mul_one]
  show Value.int .u8 128 :: (cells (List.replicate (z + 8) 0)).take z = Value.int .u8 128 :: cells (List.replicate z 0)
  unfold cells
  rw [← List.map_take, List.take_replicate, Nat.min_eq_left (by omega)]
theorem made_cell (n : Nat) (hn : 0 < n) : (madeCells (Value.int .u8 0).cells n)[0]? = some (.int .u8 0) := by
  rw [← Array.getElem?_toList, made_eq]
  obtain ⟨m, rfl⟩ : ∃ m, n = m + 1 := ⟨n - 1, by omega⟩
  rfl

theorem pad_neg (n : Int) (hn : n < 0) (w : World) :
    Calls Tryd.prog 33 #[.int .i64 n] w fun e w' => e = .returned (.string (bs [])) ∧ w = w' := by
  go_enter Tryd.func33, Tryd.ntmps33
  go_wp2
  go_ret
  exact ⟨rfl, rfl⟩

theorem pad_len (z m k : Nat) : ((128 : UInt8) :: (List.replicate z 0 ++ by8 m k)).length = z + 1 + k := by
  simp [by8_len]
  omega
theorem pad_more (z m k c : Nat) (hc : m / 2 ^ (56 - 8 * k) % 256 = c) : cells (128 :: (List.replicate z 0 ++ by8 m (k + 1))) = cells (128 :: (List.replicate z 0 ++ by8 m k)) ++ [.int .u8 c] := by
  have e : (UInt8.ofNat (m / 2 ^ (56 - 8 * k) % 256)).toNat = c := by rw [W.toNat_ofNat (Nat.mod_lt _ (by decide)), hc]
  show cells (128 :: (List.replicate z 0 ++ (by8 m k ++ [UInt8.ofNat (m / 2 ^ (56 - 8 * k) % 256)]))) = _
  generalize UInt8.ofNat (m / 2 ^ (56 - 8 * k) % 256) = b at *
  simp [cells, e]
theorem pad_step {B z m k c : Nat} {v : Value} {W0 w : World} (hc : m / 2 ^ (56 - 8 * k) % 256 = c) (h : Lib.OwnBuf B 5 v (z + 1 + k + 1) (cells (128 :: (List.replicate z 0 ++ by8 m k)) ++ [.int .u8 c]) W0 w) :
    Lib.OwnBuf B 5 v (z + 1 + (k + 1)) (cells (128 :: (List.replicate z 0 ++ by8 m (k + 1)))) W0 w := by
  rw [pad_more z m k c hc]
  exact h

set_option maxHeartbeats 4000000 in
theorem pad_this (n m z : Nat) (hn : n ≤ 9223372036854775807) (HZ : Hid (zs n = z)) (HM : Hid (n * 8 % 18446744073709551616 = m)) (w : World) :
    Calls Tryd.prog 33 #[.int .i64 n] w fun e w' => e = .returned (.string (bs (128 :: List.replicate z 0 ++ by8 m 8))) ∧ Below w.heap.size w w' := by
  have hz : z < 64 := by rw [← HZ.out]; exact zs_lt n
  have ez : ((119 : Int) - (n : Int) % 64) % 64 = (z : Int) := by rw [← HZ.out]; unfold zs; omega
  obtain ⟨i0, hi, hz0, hz1, hz2⟩ := info_parts infoU8
  have hmk : ∀ W : World, (Instr.makeSlice 47 (.int .i64 (1 + (z : Int))) (.int .i64 (1 + (z : Int) + 8))).run Tryd.prog W = .ok (.slice (some ⟨W.heap.size, 0, none⟩) (z + 1) (z + 9)) (W.alloc (.cells (madeCells (Value.int .u8 0).cells (z + 9)) 5)) := fun W => by
    have hr := run_make (P := Tryd.prog) W 47 5 i0 _ Tryd.underlying47 hi hz0 .i64 .i64 (1 + (z : Int)) (1 + (z : Int) + 8) (by omega) (by omega) (by rw [hz2]; omega) (by omega)
    rw [hz1, show (1 + (z : Int)).toNat = z + 1 by omega, show (1 + (z : Int) + 8).toNat = z + 9 by omega, Nat.mul_one] at hr
    exact hr
  have hc := made_cell (z + 9) (by omega)
  have hO := OwnBuf_pad z hz w
  generalize madeCells (Value.int .u8 0).cells (z + 9) = M at *
  have HO := Lib.hid hO
  clear hO
  have eM : IntKind.u64.wrap ((n : Int) * 8) = (m : Int) := by rw [IntKind.wrap_u64, ← HM.out]; omega
  go_enter Tryd.func33, Tryd.ntmps33
  go_wp2
  simp only [ez]
  clear ez eM hmk hc
  go_loopw [4, 24] (fun v i wr => ∃ k : Nat, k ≤ 8 ∧ i = .int .i64 k ∧ Lib.OwnBuf w.heap.size 5 v (z + 1 + k) (cells (128 :: List.replicate z 0 ++ by8 m k)) w wr) (fun _ i _ => 8 - (intOf i).toNat)
  case atStart => exact ⟨0, Nat.zero_le _, rfl, by simpa [by8] using HO.out⟩
  case round =>
    clear HO
    obtain ⟨k, hk, rfl, hown⟩ := hrel
    by_cases hlt : k < 8
    · have n1 : ((56 : Int) - 8 * (k : Int)).toNat = 56 - 8 * k := by omega
      have p1 : 0 ≤ (56 : Int) - 8 * (k : Int) := by omega
      have q1 : (56 : Int) - 8 * (k : Int) ≤ 64 := by omega
      obtain ⟨c, hc⟩ : ∃ c, m / 2 ^ (56 - 8 * k) % 256 = c := ⟨_, rfl⟩
      have ec : (m : Int) / 2 ^ (56 - 8 * k) % 256 = (c : Int) := by
        rw [← hc, Int.natCast_emod, Int.natCast_ediv, Int.natCast_pow]
        rfl
      have HC := Lib.hid hc
      clear hc
      go_wp2_with (at_builtin; go_must (refine Lib.wpList_append_byte rfl _ _ 47 rfl w.heap.size 5 i0 Tryd.underlying47 hi hz0 hz1 hz2 u4 (z + 1 + k) _ rfl w wr _ hown rfl (by omega) ?_))
      intro v2 w2 h2
      have R := pad_step HC.out h2
      clear h2 hown ec n1 p1 q1
      go_wp2
      go_roundw
      case rel => exact ⟨k + 1, by omega, by go_num, R⟩
      case measure => simp [intOf]; omega
    · obtain rfl : k = 8 := by omega
      have hst := run_string w.heap.size u4 (128 :: (List.replicate z 0 ++ by8 m 8)) w wr (by
        have := hown
        rw [pad_len]
        exact this)
      go_wp2
      go_ret
      exact ⟨rfl, hown.2.1⟩

theorem pad (n : Nat) (hn : n ≤ 9223372036854775807) (w : World) :
    Calls Tryd.prog 33 #[.int .i64 n] w fun e w' => e = .returned (.string (bs (padOf n))) ∧ Below w.heap.size w w' :=
  pad_this n _ _ hn (Lib.hid rfl) (Lib.hid rfl) w
theorem padAny (n : Int) (hn : n ≤ 9223372036854775807) (w : World) :
    Calls Tryd.prog 33 #[.int .i64 n] w fun e w' => e = .returned (.string (bs (padI n))) ∧ Below w.heap.size w w' := by
  unfold padI
  by_cases h : n < 0
  · rw [if_pos h]
    refine (pad_neg n h w).mono ?_
    rintro e w' ⟨rfl, rfl⟩
    exact ⟨rfl, Below.refl _ _⟩
  · rw [if_neg h]
    have e : n = (n.toNat : Int) := by omega
    have k := pad n.toNat (by omega) w
    rw [← e] at k
    exact k
end Go.Proofs.YtbfpepiglcikbaaDoor.W
