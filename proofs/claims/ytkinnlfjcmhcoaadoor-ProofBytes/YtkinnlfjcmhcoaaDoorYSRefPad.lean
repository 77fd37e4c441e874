/-
  The reference's Pad.
-/
import Derived.Test.YtkinnlfjcmhcoaaDoorZ0d
namespace Go.Proofs.YtkinnlfjcmhcoaaDoor.W
open Go.RowKit

theorem OwnBuf_one (w : World) : Lib.OwnBuf w.heap.size 5 (.slice (some ⟨w.heap.size, 0, none⟩) 1 1) 1 (cells [128]) w (w.alloc (.cells #[.int .u8 128] 5)) :=
  ⟨⟨rfl, .inr ⟨w.heap.size, 1, #[.int .u8 128], (0, 0), rfl, Nat.le_refl _, Blk.new w 5 _, Nat.zero_le _, Nat.le_refl _, by unfold maxLen; omega, rfl, rfl⟩⟩, (Below.refl _ _).alloc (Nat.le_refl _) _, by simp⟩
theorem own_slice {B n : Nat} {v : Value} {xs : List Value} {W0 w : World} (h : Lib.OwnBuf B 5 v n xs W0 w) (hn : 0 < n) : ∃ g cap, v = .slice (some ⟨g, 0, none⟩) n cap := by
  rcases h.1.2 with ⟨_, h0⟩ | ⟨g, cap, cur, fz, e, _⟩
  · omega
  · exact ⟨g, cap, e⟩
/-- a slice's length -/
def slen : Value → Nat
  | .slice _ n _ => n
  | _ => 0
theorem rpad_neg (n : Int) (hn : n < 0) (w : World) :
    Calls Tryd.prog 72 #[.int .i64 n] w fun e w' => e = .returned (.string (bs [])) ∧ w = w' := by
  go_enter Tryd.func72, Tryd.ntmps72
  go_wp2
  go_ret
  exact ⟨rfl, rfl⟩
theorem zero_step {B j : Nat} {v : Value} {W0 w : World} (h : Lib.OwnBuf B 5 v (j + 1 + 1) (cells (128 :: List.replicate j 0) ++ [.int .u8 0]) W0 w) : Lib.OwnBuf B 5 v (j + 1 + 1) (cells (128 :: List.replicate (j + 1) 0)) W0 w := by
  rw [List.replicate_succ']
  simpa [cells] using h

set_option maxHeartbeats 4000000 in
set_option maxRecDepth 100000 in
theorem rpad_this (n m z : Nat) (hn : n ≤ 9223372036854775807) (HZ : Hid (zs n = z)) (HM : Hid (n * 8 % 18446744073709551616 = m)) (w : World) :
    Calls Tryd.prog 72 #[.int .i64 n] w fun e w' => e = .returned (.string (bs (128 :: (List.replicate z 0 ++ by8 m 8)))) ∧ Below w.heap.size w w' := by
  have hz : z < 64 := by rw [← HZ.out]; exact zs_lt n
  have HT := Lib.hid (show ∀ j : Nat, j ≤ z → (((n : Int) % 64 + ((j + 1 : Nat) : Int) + 8) % 64 = 0 ↔ j = z) by
    intro j hj
    have e := HZ.out
    unfold zs at e
    omega)
  obtain ⟨i0, hi, hz0, hz1, hz2⟩ := info_parts infoU8
  have HO := Lib.hid (OwnBuf_one w)
  go_enter Tryd.func72, Tryd.ntmps72
  go_wp2
  go_loopw [3] (fun v wr => ∃ j : Nat, j ≤ z ∧ Lib.OwnBuf w.heap.size 5 v (j + 1) (cells (128 :: List.replicate j 0)) w wr) (fun v _ => z + 2 - slen v)
  case atStart => exact ⟨0, Nat.zero_le _, HO.out⟩
  case round =>
    clear HO
    obtain ⟨j, hj, hown⟩ := hrel
    obtain ⟨g, cap, rfl⟩ := own_slice hown (by omega)
    by_cases hlt : j < z
    · have t1 : (((n : Int) % 64 + ((j + 1 : Nat) : Int) + 8) % 64 != 0) = true := by
        have := HT.out j hj
        simp only [bne_iff_ne, ne_eq]
        omega
      have t2 : (((n : Int) % 64 + ((j : Int) + 1) + 8) % 64 != 0) = true := t1
      have t3 : (((n : Int) + ((j : Int) + 1) + 8) % 64 != 0) = true := by
        have := HT.out j hj
        simp only [bne_iff_ne, ne_eq]
        omega
      have HTT := Lib.hid HT
      go_wp2_with (at_builtin; go_must (refine Lib.wpList_append_byte rfl _ _ 74 rfl w.heap.size 5 i0 Tryd.underlying74 hi hz0 hz1 hz2 (.slice (some ⟨g, 0, none⟩) (j + 1) cap) (j + 1) _ rfl w wr _ hown rfl (by omega) ?_))
      intro v2 w2 h2
      have R := zero_step h2
      obtain ⟨g2, cap2, rfl⟩ := own_slice R (by omega)
      clear h2 hown HTT t1 t2 t3
      go_wp2
      go_roundw
      case rel => exact ⟨j + 1, by omega, R⟩
      case measure => simp [slen]; omega
    · obtain rfl : j = z := by omega
      have t1 : (((n : Int) % 64 + ((j + 1 : Nat) : Int) + 8) % 64 != 0) = false := by
        have := HT.out j hj
        simp only [bne_eq_false_iff_eq]
        omega
      have t2 : (((n : Int) % 64 + ((j : Int) + 1) + 8) % 64 != 0) = false := t1
      have t3 : (((n : Int) + ((j : Int) + 1) + 8) % 64 != 0) = false := by
        have := HT.out j hj
        simp only [bne_eq_false_iff_eq]
        omega
      have e0 : ((n : Int) % 64 + ((j : Int) + 1) + 8) % 64 = 0 := (HT.out j hj).2 rfl
      have HE := Lib.hid e0
      have eM : IntKind.u64.wrap ((n : Int) * 8) = (m : Int) := by rw [IntKind.wrap_u64, ← HM.out]; omega
      have HEM := Lib.hid eM
      clear e0 eM
      go_wp2
      clear t1 t2 t3
      simp only [HE.out]
      go_loopw [3, 4] (fun v i wr => ∃ k : Nat, k ≤ 8 ∧ i = .int .i64 (7 - (k : Int)) ∧ Lib.OwnBuf w.heap.size 5 v (j + 1 + k) (cells (128 :: (List.replicate j 0 ++ by8 m k))) w wr) (fun _ i _ => (intOf i + 1).toNat)
      case atStart => exact ⟨0, Nat.zero_le _, by simp, by simpa [by8] using hown⟩
      case round =>
        clear hown
        obtain ⟨k, hk, rfl, hown⟩ := hrel
        by_cases hlt : k < 8
        · have eM := HEM.out
          have n1 : ((8 : Int) * (7 - (k : Int))).toNat = 56 - 8 * k := by omega
          have p1 : 0 ≤ (8 : Int) * (7 - (k : Int)) := by omega
          have q1 : (8 : Int) * (7 - (k : Int)) ≤ 64 := by omega
          have g1 : 0 ≤ 7 - (k : Int) := by omega
          obtain ⟨c, hc⟩ : ∃ c, m / 2 ^ (56 - 8 * k) % 256 = c := ⟨_, rfl⟩
          have ec : (m : Int) / 2 ^ (56 - 8 * k) % 256 = (c : Int) := by
            rw [← hc, Int.natCast_emod, Int.natCast_ediv, Int.natCast_pow]
            rfl
          have HC := Lib.hid hc
          clear hc
          go_wp2_with (at_builtin; go_must (refine Lib.wpList_append_byte rfl _ _ 74 rfl w.heap.size 5 i0 Tryd.underlying74 hi hz0 hz1 hz2 u3 (j + 1 + k) _ rfl w wr _ hown rfl (by omega) ?_))
          intro v2 w2 h2
          have R := pad_step HC.out h2
          clear h2 hown ec n1 p1 q1 eM
          go_wp2
          go_roundw
          case rel => exact ⟨k + 1, by omega, by go_num, R⟩
          case measure => simp [intOf]; omega
        · obtain rfl : k = 8 := by omega
          have hst := run_string w.heap.size u3 (128 :: (List.replicate j 0 ++ by8 m 8)) w wr (by
            have := hown
            rw [pad_len]
            exact this)
          go_wp2
          go_ret
          exact ⟨rfl, hown.2.1⟩

theorem rpad (n : Nat) (hn : n ≤ 9223372036854775807) (w : World) :
    Calls Tryd.prog 72 #[.int .i64 n] w fun e w' => e = .returned (.string (bs (padOf n))) ∧ Below w.heap.size w w' :=
  rpad_this n _ _ hn (Lib.hid rfl) (Lib.hid rfl) w
theorem rpadAny (n : Int) (hn : n ≤ 9223372036854775807) (w : World) :
    Calls Tryd.prog 72 #[.int .i64 n] w fun e w' => e = .returned (.string (bs (padI n))) ∧ Below w.heap.size w w' := by
  unfold padI
  by_cases h : n < 0
  · rw [if_pos h]
    refine (rpad_neg n h w).mono ?_
    rintro e w' ⟨rfl, rfl⟩
    exact ⟨rfl, Below.refl _ _⟩
  · rw [if_neg h]
    have e : n = (n.toNat : Int) := by omega
    have k := rpad n.toNat (by omega) w
    rw [← e] at k
    exact k
end Go.Proofs.YtkinnlfjcmhcoaaDoor.W
