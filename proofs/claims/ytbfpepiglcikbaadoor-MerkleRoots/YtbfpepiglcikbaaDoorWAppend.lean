/-
  appendNum and appendText, for every buffer that the call owns.
-/
import Derived.Test.YtbfpepiglcikbaaDoorWBits
import Derived.Test.YtbfpepiglcikbaaDoorCBuf
import Derived.Lib.BufSteps
import Derived.Lib.Hide
import Derived.WalkSpells
namespace Go.Proofs.YtbfpepiglcikbaaDoor.W
open Go.RowKit

/-- Len64, as its caller wants it -/
theorem len64_bytes (n : Nat) (w : World) (hn : n ≤ 9007199254740992) :
    Calls Tryd.prog 40 #[.int .u64 n] w fun e w' => ∃ m : Nat, e = .returned (.int .i64 m) ∧ ((m : Int) + 7) / 8 = ((be n).length : Nat) ∧ m ≤ 64 ∧ w = w' := by
  refine (len64 n w (by omega) (by omega)).mono ?_
  rintro e w' ⟨rfl, rfl⟩
  have hL := be_len n (by omega)
  refine ⟨Lib.bitLen n, by rw [Int.toNat_natCast], by rw [hL]; omega, ?_, rfl⟩
  exact Lib.bitLen_le n 64 (by omega) (by omega)

/-- what is laid behind j rounds -/
def part (n c j : Nat) : List Value := cells (UInt8.ofNat c :: (be n).take j)
theorem part_step {n c j B k : Nat} {xs : List Value} {v : Value} {W0 w : World} {T : TypeId} (hc : (be n).length = c) (hj : j < c)
    (h : Lib.OwnBuf B T v (k + 1 + j + 1) (xs ++ (part n c j ++ [Value.int .u8 ((n : Int) / 2 ^ (8 * (c - 1 - j)) % 256)])) W0 w) : Lib.OwnBuf B T v (k + 1 + (j + 1)) (xs ++ part n c (j + 1)) W0 w := by
  have e : part n c (j + 1) = part n c j ++ [Value.int .u8 ((n : Int) / 2 ^ (8 * (c - 1 - j)) % 256)] := by
    unfold part
    rw [be_take n j (by omega), ← List.cons_append, cells_append, hc]
    congr 1
    simp only [cells, List.map_cons, List.map_nil]
    rw [W.toNat_ofNat (Nat.mod_lt _ (by decide))]
    have hp : (256 : Nat) ^ (c - 1 - j) = 2 ^ (8 * (c - 1 - j)) := by rw [Nat.pow_mul]
    rw [hp]
    congr 2
  rw [e]
  exact h
theorem part_end {n j B k : Nat} {xs : List Value} {v : Value} {W0 w : World} {T : TypeId} (hc : (be n).length = j)
    (h : Lib.OwnBuf B T v (k + 1 + j) (xs ++ part n j j) W0 w) : Lib.OwnBuf B T v (k + (num n).length) (xs ++ cells (num n)) W0 w := by
  have e1 : k + (num n).length = k + 1 + j := by rw [num_len, hc]; omega
  have e2 : cells (num n) = part n j j := by
    unfold part num
    rw [hc, List.take_of_length_le (by omega)]
  rw [e1, e2]
  exact h
set_option maxHeartbeats 1000000 in
set_option maxRecDepth 100000 in
theorem appendNum (B : Nat) (v : Value) (k : Nat) (xs : List Value) (n : Nat) (W0 w : World) (h : Lib.OwnBuf B 5 v k xs W0 w) (hk : k ≤ 70368744177664) (hn : n ≤ 9007199254740992) :
    Calls Tryd.prog 38 #[v, .int .i64 n] w fun e w' => ∃ v', e = .returned v' ∧ Lib.OwnBuf B 5 v' (k + (num n).length) (xs ++ cells (num n)) W0 w' := by
  obtain ⟨i0, hi, hz0, hz1, hz2⟩ := info_parts infoU8
  have hle := be_len_le n 7 (by omega)
  have hc := len64_bytes n w hn
  obtain ⟨c, hcc⟩ : ∃ c, (be n).length = c := ⟨_, rfl⟩
  rw [hcc] at hc hle
  have HC := Lib.hid hcc
  have HL := Lib.hid hc
  clear hc hcc
  go_enter Tryd.func38, Tryd.ntmps38
  go_wp2_with fail
  refine HL.out.mono ?_
  rintro e w' ⟨m, rfl, hm, hm64, rfl⟩
  go_wp2_with (at_builtin; refine Lib.wpList_append_byte rfl _ _ 47 rfl B 5 i0 Tryd.underlying47 hi hz0 hz1 hz2 v k xs rfl W0 w _ h rfl (by omega) ?_)
  intro v1 w1 h1
  go_wp2
  go_loopw [0, 6] (fun v i wr => ∃ j : Nat, j ≤ c ∧ i = .int .i64 ((c : Int) - 1 - j) ∧ Lib.OwnBuf B 5 v (k + 1 + j) (xs ++ part n c j) W0 wr) (fun _ i _ => (intOf i + 1).toNat)
  case atStart => exact ⟨0, Nat.zero_le _, by simp, by simpa [part, cells, W.toNat_ofNat (show c < 256 by omega)] using h1⟩
  case round =>
    obtain ⟨j, hj, rfl, hown⟩ := hrel
    by_cases hlt : j < c
    · go_wp2_with (at_builtin; go_must (refine Lib.wpList_append_byte rfl _ _ 47 rfl B 5 i0 Tryd.underlying47 hi hz0 hz1 hz2 u0 (k + 1 + j) _ rfl W0 wr _ hown rfl (by omega) ?_))
      intro v2 w2 h2
      have R := part_step (n := n) (c := c) (j := j) HC.out hlt h2
      clear h2 hown
      go_wp2
      go_roundw
      case rel => exact ⟨j + 1, by omega, by go_num, R⟩
      case measure => simp [intOf]; omega
    · obtain rfl : j = c := by omega
      have R := part_end HC.out hown
      clear hown
      go_wp2
      go_ret
      exact ⟨_, rfl, R⟩

set_option maxHeartbeats 1000000 in
theorem appendText (B : Nat) (v : Value) (k : Nat) (xs : List Value) (s : ByteArray) (W0 w : World) (h : Lib.OwnBuf B 5 v k xs W0 w) (hk : k ≤ 70000000000000) (hs : s.size ≤ 65536) :
    Calls Tryd.prog 32 #[v, .string s] w fun e w' => ∃ v', e = .returned v' ∧ Lib.OwnBuf B 5 v' (k + (text s.data.toList).length) (xs ++ cells (text s.data.toList)) W0 w' := by
  obtain ⟨i0, hi, hz0, hz1, hz2⟩ := info_parts infoU8
  have HA := Lib.hid (appendNum B v k xs s.size W0 w h (by omega) (by omega))
  have hle := be_len_le s.size 7 (by omega)
  go_enter Tryd.func32, Tryd.ntmps32
  go_wp2_with fail
  refine HA.out.mono ?_
  rintro e w1 ⟨v1, rfl, h1⟩
  have hln := num_len s.size
  go_wp2_with (at_builtin; go_must (refine Lib.wpList_append_text rfl _ _ 47 9 rfl B 5 i0 Tryd.underlying47 Tryd.underlying9 hi hz0 hz1 hz2 v1 _ _ rfl W0 h1 s rfl (by omega) ?_))
  intro v2 w2 h2
  have R : Lib.OwnBuf B 5 v2 (k + (text s.data.toList).length) (xs ++ cells (text s.data.toList)) W0 w2 := by
    unfold text
    rw [cells_append, ← List.append_assoc, List.length_append, size_list, ← Nat.add_assoc]
    simpa [strCells_eq, num_len] using h2
  clear h2 h1
  go_wp2
  go_ret
  exact ⟨_, rfl, R⟩

end Go.Proofs.YtbfpepiglcikbaaDoor.W
