/-
  The reference's Num and Text: they answer what wire's do.
-/
import Derived.Test.YtkinnlfjcmhcoaaDoorZ0a
import Derived.Test.YtkinnlfjcmhcoaaDoorZ0c
namespace Go.Proofs.YtkinnlfjcmhcoaaDoor.W
open Go.RowKit

def RNumRel (N : Nat) (s n : Value) : Prop := ∃ (m : Nat) (t : List UInt8), n = .int .i64 m ∧ s = .string (bs t) ∧ be m ++ t = be N

set_option maxHeartbeats 1000000 in
theorem rNum (n : Int) (w : World) :
    Calls Tryd.prog 71 #[.int .i64 n] w fun e w' => e = .returned (retSE (encNum n)) ∧ Below w.heap.size w w' := by
  by_cases h0 : 0 ≤ n
  · by_cases h1 : n ≤ 9007199254740992
    · obtain ⟨m, rfl⟩ := Int.eq_ofNat_of_zero_le h0
      have HE := Lib.hid (show encNum m = (num m, 0) by simp [encNum, h1])
      have hle := be_len_le m 7 (by omega)
      go_enter Tryd.func71, Tryd.ntmps71
      go_wp2
      go_loopw [0, 4] (fun n s wr => ∃ (j : Nat) (t : List UInt8), n = .int .i64 j ∧ s = .string (bs t) ∧ j ≤ 9007199254740992 ∧ Hid (be j ++ t = be m) ∧ Below w.heap.size w wr) (fun n _ _ => (intOf n).toNat)
      case atStart => exact ⟨m, [], rfl, rfl, by omega, by unfold Hid; simp, Below.refl _ _⟩
      case round =>
        obtain ⟨j, t, rfl, rfl, hj, hcat, hbel⟩ := hrel
        have htl : t.length ≤ 7 := by have := congrArg List.length hcat.out; rw [List.length_append] at this; omega
        have hsz := hbel.size
        by_cases hpos : 0 < j
        · have hcv := run_one wr ((j : Int) % 256) (by omega) (by omega)
          have hadd := fun W => run_add W [UInt8.ofNat (j % 256)] t (by simp; omega)
          go_wp2
          go_roundw
          case rel =>
            refine ⟨j / 256, UInt8.ofNat (j % 256) :: t, by go_num, rfl, by omega, ?_, hbel.alloc hsz _⟩
            have e := be_pos (n := j) (by omega)
            have h2 := hcat.out
            rw [e] at h2
            unfold Hid
            rw [← h2]
            simp
          case measure => simp [intOf]; omega
        · obtain rfl : j = 0 := by omega
          have ht : t = be m := by have := hcat.out; rwa [be_zero, List.nil_append] at this
          subst ht
          have hl : (bs (be m)).size = (be m).length := bs_size _
          have hcv := run_one wr ((be m).length : Int) (by omega) (by omega)
          have hadd := fun W => run_add W [UInt8.ofNat (be m).length] (be m) (by simp; omega)
          go_wp2
          go_ret2
          refine ⟨by rw [HE.out]; rfl, hbel.alloc hsz _⟩
    · have HE := Lib.hid (show encNum n = ([], 3) by simp [encNum, h1])
      go_enter Tryd.func71, Tryd.ntmps71
      go_wp2
      go_ret2
      exact ⟨by rw [HE.out]; rfl, Below.refl _ _⟩
  · have HE := Lib.hid (show encNum n = ([], 3) by simp [encNum, h0])
    go_enter Tryd.func71, Tryd.ntmps71
    go_wp2
    go_ret2
    exact ⟨by rw [HE.out]; rfl, Below.refl _ _⟩

theorem run_add_text (W : World) (s : ByteArray) (h : s.size ≤ 65536) : (Op.stringOp .add (bs (num s.size)) s).run Tryd.prog W = .ok (.string (bs (text s.data.toList))) W := by
  have hl := be_len_le s.size 7 (by omega)
  rw [run_string_add_sum W (bs (num s.size)) s (by rw [bs_size, num_len]; omega)]
  have e : bs (num s.size) ++ s = bs (text s.data.toList) := by
    conv => lhs; rw [← bs_of s]
    rw [bs_append, bs_of]
    unfold text
    rw [size_list]
  rw [e]
theorem encNum_small (n : Nat) (h : n ≤ 9007199254740992) : encNum n = (num n, 0) := by
  unfold encNum
  rw [if_pos ⟨by omega, by omega⟩, Int.toNat_natCast]

set_option maxHeartbeats 1000000 in
theorem rText (s : ByteArray) (w : World) :
    Calls Tryd.prog 81 #[.string s] w fun e w' => e = .returned (retSE (encText s)) ∧ Below w.heap.size w w' := by
  by_cases h1 : s.size ≤ 65536
  · have HE := Lib.hid (show encText s = (text s.data.toList, 0) by simp [encText, h1])
    have hr := rNum s.size w
    rw [encNum_small s.size (by omega)] at hr
    have HA := Lib.hid hr
    clear hr
    have hadd := fun W => run_add_text W s h1
    go_enter Tryd.func81, Tryd.ntmps81
    go_wp2_with fail
    refine HA.out.mono ?_
    rintro e w1 ⟨rfl, hb⟩
    unfold retSE
    go_wp2
    go_ret2
    exact ⟨by rw [HE.out]; rfl, hb⟩
  · have HE := Lib.hid (show encText s = ([], 4) by simp [encText, h1])
    go_enter Tryd.func81, Tryd.ntmps81
    go_wp2
    go_ret2
    exact ⟨by rw [HE.out]; rfl, Below.refl _ _⟩

end Go.Proofs.YtkinnlfjcmhcoaaDoor.W
