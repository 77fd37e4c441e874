/-
  Words in a run: sums, bits and shifts of uint32 as plain numbers; math/bits.RotateLeft32.
-/
import Derived.Test.YtbfpepiglcikbaaDoorCTxs
import Derived.Test.YtbfpepiglcikbaaDoorSMath
import Derived.BigQuiet
import Derived.Deep.QuietTactic
namespace Go.Proofs.YtbfpepiglcikbaaDoor.W
open Go.RowKit

theorem ret_w {a b : Nat} (h : a = b) : Ending.returned (.int .u32 (a : Int)) = .returned (.int .u32 (b : Int)) := by rw [h]
theorem val_w {a : Int} {b : Nat} (h : a = (b : Int)) : Value.int .u32 a = .int .u32 (b : Int) := by rw [h]
theorem ofInt_nat (a : Nat) : (BitVec.ofInt 32 (a : Int)).toNat = a % 4294967296 := by
  rw [BitVec.ofInt_natCast, BitVec.toNat_ofNat]
theorem ofInt_lit : (BitVec.ofInt 32 (4294967295 : Int)).toNat = 4294967295 := by decide
theorem r_add (a b : Nat) : ((a : Int) + (b : Int)) % 4294967296 = (wadd a b : Nat) := by unfold wadd; omega
theorem r_xor (a b : Nat) : bits .xor .u32 (a : Int) (b : Int) = (wxor a b : Nat) := by
  show IntKind.u32.wrap ((BitVec.ofInt 32 (a : Int) ^^^ BitVec.ofInt 32 (b : Int)).toNat : Int) = _
  rw [BitVec.toNat_xor, ofInt_nat, ofInt_nat, IntKind.wrap_u32, ← Nat.xor_mod_two_pow (n := 32)]
  unfold wxor
  omega
theorem r_and (a b : Nat) : bits .and .u32 (a : Int) (b : Int) = (wand a b : Nat) := by
  show IntKind.u32.wrap ((BitVec.ofInt 32 (a : Int) &&& BitVec.ofInt 32 (b : Int)).toNat : Int) = _
  rw [BitVec.toNat_and, ofInt_nat, ofInt_nat, IntKind.wrap_u32, ← Nat.and_mod_two_pow (n := 32)]
  unfold wand
  omega
theorem r_or (a b : Nat) : bits .or .u32 (a : Int) (b : Int) = (wor a b : Nat) := by
  show IntKind.u32.wrap ((BitVec.ofInt 32 (a : Int) ||| BitVec.ofInt 32 (b : Int)).toNat : Int) = _
  rw [BitVec.toNat_or, ofInt_nat, ofInt_nat, IntKind.wrap_u32, ← Nat.or_mod_two_pow (n := 32)]
  unfold wor
  omega
theorem or_byteS (y : Nat) (c : UInt8) : bits .or .u32 (y : Int) ((c.toNat : Int) % 4294967296) = (wor y c.toNat : Nat) := by
  have h := c.toNat_lt
  rw [show ((c.toNat : Int) % 4294967296) = (c.toNat : Int) by omega]
  exact r_or y c.toNat
theorem r_not (a : Nat) : bits .xor .u32 IntKind.u32.max (a : Int) = (wnot a : Nat) := by
  rw [show IntKind.u32.max = 4294967295 by decide]
  show IntKind.u32.wrap ((BitVec.ofInt 32 (4294967295 : Int) ^^^ BitVec.ofInt 32 (a : Int)).toNat : Int) = _
  rw [BitVec.toNat_xor, ofInt_nat, ofInt_lit, IntKind.wrap_u32, show (4294967295 : Nat) = 4294967295 % 2 ^ 32 by decide, show (4294967296 : Nat) = 2 ^ 32 by decide, ← Nat.xor_mod_two_pow (n := 32)]
  unfold wnot
  omega
theorem r_shl (a n : Nat) : ((a : Int) * 2 ^ n) % 4294967296 = (wshl a n : Nat) := by
  unfold wshl
  rw [Int.natCast_emod, Int.natCast_mul, Int.natCast_pow]
  rfl
theorem r_shr (a n : Nat) : (a : Int) / 2 ^ n = (wshr a n : Nat) := by
  unfold wshr
  rw [Int.natCast_ediv, Int.natCast_pow]
  rfl

set_option maxHeartbeats 1000000 in
theorem rot (x n m : Nat) (k : Int) (hk : bits .and .u64 (IntKind.u64.wrap k) 31 = (m : Int)) (hm : m + n = 32) (w : World) :
    Calls Tryd.prog 43 #[.int .u32 x, .int .i64 k] w fun e w' => e = .returned (.int .u32 (rotr x n)) ∧ w = w' := by
  have hor := r_or
  have hl := r_shl x m
  have hr := r_shr x n
  have hn : ((32 : Int) - (m : Int)).toNat = n := by omega
  have hm1 : (m : Int) ≤ 32 := by omega
  have hm2 : (0 : Int) ≤ 32 - (m : Int) := by omega
  have hm3 : (32 : Int) - (m : Int) ≤ 32 := by omega
  have e : wor (wshl x m) (wshr x n) = rotr x n := by unfold rotr; rw [show 32 - n = m by omega]
  have E := Lib.hid e
  have HM := Lib.hid hm
  clear e hm
  go_enter Tryd.func43, Tryd.ntmps43
  go_wp2
  go_ret
  exact ⟨ret_w E.out, rfl⟩

set_option maxHeartbeats 1000000 in
theorem turned (x n m : Nat) (hm : m + n = 32) (w : World) :
    Calls Tryd.prog 36 #[.int .u32 x, .int .u64 n] w fun e w' => e = .returned (.int .u32 (rotr x n)) ∧ w = w' := by
  have hor := r_or
  have hl := r_shl x m
  have hr := r_shr x n
  have hn : ((32 : Int) - (n : Int)).toNat = m := by omega
  have hm1 : (n : Int) ≤ 32 := by omega
  have hm2 : (0 : Int) ≤ 32 - (n : Int) := by omega
  have hm3 : (32 : Int) - (n : Int) ≤ 32 := by omega
  have e : wor (wshr x n) (wshl x m) = rotr x n := by unfold rotr; rw [show 32 - n = m by omega, wor_comm]
  have E := Lib.hid e
  have HM := Lib.hid hm
  clear e hm
  go_enter Tryd.func36, Tryd.ntmps36
  go_wp2
  go_ret
  exact ⟨ret_w E.out, rfl⟩

theorem word_in (s : ByteArray) (p k : Nat) (h : p + k < s.size) : wor (wshl (wordTo s.data.toList p k) 8) (s[p + k]).toNat = wordTo s.data.toList p (k + 1) := by
  show _ = wor (wshl (wordTo s.data.toList p k) 8) (byteAt s.data.toList (p + k))
  rw [byteAt_in s (p + k) h]
theorem word_out (s : ByteArray) (p k : Nat) (h : s.size ≤ p + k) : wshl (wordTo s.data.toList p k) 8 = wordTo s.data.toList p (k + 1) := by
  show _ = wor (wshl (wordTo s.data.toList p k) 8) (byteAt s.data.toList (p + k))
  rw [byteAt_out s (p + k) h, wor_zero _ (wshl_lt _ _)]

set_option maxHeartbeats 2000000 in
theorem word (s : ByteArray) (p : Nat) (w : World) (hp : p ≤ 64) (hs : s.size ≤ maxLen) :
    Calls Tryd.prog 44 #[.string s, .int .i64 p] w fun e w' => e = .returned (.int .u32 (wordTo s.data.toList p 4)) ∧ w = w' := by
  unfold maxLen at hs
  go_enter Tryd.func44, Tryd.ntmps44
  go_wp2
  go_loop [5, 7] (fun x i => ∃ k y : Nat, k ≤ 4 ∧ i = .int .i64 k ∧ x = .int .u32 y ∧ Hid (y = wordTo s.data.toList p k)) (fun _ i => 4 - (intOf i).toNat)
  case atStart => exact ⟨0, 0, by omega, rfl, rfl, Lib.hid rfl⟩
  case round =>
    obtain ⟨k, y, hk, rfl, rfl, hy⟩ := hrel
    by_cases hlt : k < 4
    · have hsh := r_shl y 8
      simp only [show (2 : Int) ^ 8 = 256 by decide] at hsh
      have hor := r_or
      by_cases hin : p + k < s.size
      · have hw := Lib.hid (word_in s p k hin)
        go_wp2
        go_round
        case rel => exact ⟨k + 1, wor (wshl y 8) (s[p + k]).toNat, by omega, by go_num, val_w (or_byteS _ _), Lib.hid (by rw [hy.out]; exact hw.out)⟩
        case measure => simp [intOf]; omega
      · have hw := Lib.hid (word_out s p k (by omega))
        go_wp2
        go_round
        case rel => exact ⟨k + 1, wshl y 8, by omega, by go_num, val_w hsh, Lib.hid (by rw [hy.out]; exact hw.out)⟩
        case measure => simp [intOf]; omega
    · obtain rfl : k = 4 := by omega
      go_wp2
      go_ret
      exact ⟨ret_w hy.out, rfl⟩

set_option maxHeartbeats 2000000 in
theorem rword (s : ByteArray) (p : Nat) (w : World) (hp : p ≤ 64) (hs : s.size ≤ maxLen) :
    Calls Tryd.prog 35 #[.string s, .int .i64 p] w fun e w' => e = .returned (.int .u32 (wordTo s.data.toList p 4)) ∧ w = w' := by
  unfold maxLen at hs
  go_enter Tryd.func35, Tryd.ntmps35
  go_wp2
  go_loop [5, 6] (fun x i => ∃ k y : Nat, k ≤ 4 ∧ i = .int .i64 (p + k : Nat) ∧ x = .int .u32 y ∧ Hid (y = wordTo s.data.toList p k)) (fun _ i => p + 4 - (intOf i).toNat)
  case atStart => exact ⟨0, 0, by omega, rfl, rfl, Lib.hid rfl⟩
  case round =>
    obtain ⟨k, y, hk, rfl, rfl, hy⟩ := hrel
    by_cases hlt : k < 4
    · have hsh := r_shl y 8
      simp only [show (2 : Int) ^ 8 = 256 by decide] at hsh
      have hor := r_or
      by_cases hin : p + k < s.size
      · have hw := Lib.hid (word_in s p k hin)
        have hob := or_byteS (wshl y 8) s[p + k]
        go_wp2
        go_round
        case rel => exact ⟨k + 1, wor (wshl y 8) (s[p + k]).toNat, by omega, by go_num, rfl, Lib.hid (by rw [hy.out]; exact hw.out)⟩
        case measure => simp [intOf]; omega
      · have hw := Lib.hid (word_out s p k (by omega))
        go_wp2
        go_round
        case rel => exact ⟨k + 1, wshl y 8, by omega, by go_num, val_w hsh, Lib.hid (by rw [hy.out]; exact hw.out)⟩
        case measure => simp [intOf]; omega
    · obtain rfl : k = 4 := by omega
      go_wp2
      go_ret
      exact ⟨ret_w hy.out, rfl⟩
end Go.Proofs.YtbfpepiglcikbaaDoor.W
