/-
  The reference's reader: R.Num, R.Text, R.List and R.Done.
-/
import Derived.Test.YtjohkimjdkginaaDoorZ0a
import Derived.Test.YtjohkimjdkginaaDoorZ0c
namespace Go.Proofs.YtjohkimjdkginaaDoor.W
open Go.RowKit

/-- the reference's state, as a value -/
def rV (s : ByteArray) (e : Int) : Value := .agg #[.string s, .int .i64 e]

theorem ex_one (s : ByteArray) (h : 1 < s.size) (h2 : 0 < (s.extract 1 s.size).size) : (s.extract 1 s.size)[0] = s[1] := by
  have e1 : (s.extract 1 s.size)[0] = (s.extract 1 s.size).data.toList[0]'(by rw [size_list]; exact h2) := rfl
  have e2 : s[1] = s.data.toList[1]'(by rw [size_list]; exact h) := rfl
  rw [e1, e2]
  simp only [drop_all, List.getElem_drop]
theorem val_piece (s : ByteArray) (k : Nat) : ((s.extract 1 s.size).extract 0 k).data.toList = (s.data.toList.drop 1).take k := by rw [take_of, drop_all]
theorem val_next (s : ByteArray) (j : Nat) (h : j + 1 < s.size) : val ((s.data.toList.drop 1).take (j + 1)) = val ((s.data.toList.drop 1).take j) * 256 + s[j + 1].toNat := by
  rw [List.take_succ_eq_append_getElem (by rw [List.length_drop, size_list]; omega), val_snoc, List.getElem_drop]
  have e2 : s[j + 1] = s.data.toList[j + 1]'(by rw [size_list]; exact h) := rfl
  rw [e2]
  congr 3
  omega
theorem val_piece_lt (s : ByteArray) (j : Nat) (h : j ≤ 7) : val ((s.data.toList.drop 1).take j) < 72057594037927936 := by
  refine Nat.lt_of_lt_of_le (val_lt _) ?_
  have : ((s.data.toList.drop 1).take j).length ≤ 7 := by rw [List.length_take]; omega
  exact Nat.le_trans (Nat.pow_le_pow_right (by decide) this) (by decide)
theorem val_piece_lt6 (s : ByteArray) (j : Nat) (h : j ≤ 6) : val ((s.data.toList.drop 1).take j) < 281474976710656 := by
  refine Nat.lt_of_lt_of_le (val_lt _) ?_
  have : ((s.data.toList.drop 1).take j).length ≤ 6 := by rw [List.length_take]; omega
  exact Nat.le_trans (Nat.pow_le_pow_right (by decide) this) (by decide)

/-- what R.Num answers -/
def rNumV (r : (ByteArray × Int) × Nat) : Value := .tuple #[rV r.1.1 r.1.2, .int .i64 r.2]
theorem stNum_dec (s : ByteArray) {n sz : Nat} {er : Int} (h : dec s.data.toList = (n, sz, er)) : stNum s 0 = if er ≠ 0 then ((s, er), 0) else ((s.extract sz s.size, 0), n) := by simp [stNum, h]

def RNPost (w : World) (r : (ByteArray × Int) × Nat) (en : Ending) (w' : World) : Prop := en = .returned (rNumV r) ∧ Below w.heap.size w w'

set_option maxHeartbeats 2000000 in
set_option maxRecDepth 100000 in
theorem refNum_err (s : ByteArray) (e : Int) (he : (e != 0) = true) (w : World) :
    Calls Tryd.prog 26 #[rV s e] w (RNPost w ((s, e), 0)) := by
  unfold rV
  go_enter Tryd.func26, Tryd.ntmps26
  go_wp2
  go_returns
  exact ⟨rfl, by go_grown⟩

set_option maxHeartbeats 4000000 in
set_option maxRecDepth 100000 in
/-- the ways behind the test on a zero in front -/
theorem refNum_tail (s : ByteArray) (w : World) (hm : s.size ≤ 9223372036854775807) (h0 : 0 < s.size) (h7 : ¬ 7 < s[0].toNat)
    (h1 : 0 < s[0].toNat → ∀ h : 1 < s.size, s[1].toNat ≠ 0) :
    Calls Tryd.prog 26 #[rV s 0] w (RNPost w (stNum s 0)) := by
  have hE := nonempty_of s h0
  have hk := s[0].toNat_lt
  have HD := Lib.hid (dec_tail h0 h7 (fun a b => by
    have hx := ex_size s
    rw [ex_one s (by omega) b]
    exact h1 a (by omega)))
  by_cases hz0 : 0 < s[0].toNat
  · by_cases hs1 : 1 < s.size
    · have hz : ((s[1].toNat : Int) == 0) = false := beq_eq_false_iff_ne.2 (by have := h1 hz0 hs1; omega)
      clear h1
      by_cases hc : s.size - 1 < s[0].toNat
      · have HS := Lib.hid (stNum_dec s (HD.out.trans (if_pos hc)))
        clear HD
        unfold rV
        go_enter Tryd.func26, Tryd.ntmps26
        go_wp2
        go_returns
        rw [HS.out, if_pos (by decide)]
        exact ⟨rfl, by go_grown⟩
      · have HD2 := Lib.hid (HD.out.trans (if_neg hc))
        rw [val_piece] at HD2
        clear HD
        unfold rV
        go_enter Tryd.func26, Tryd.ntmps26
        go_wp2
        go_loop [5, 6] (fun n i => ∃ j : Nat, j ≤ s[0].toNat ∧ i = .int .i64 ((j : Int) + 1) ∧ n = .int .i64 (val ((s.data.toList.drop 1).take j))) (fun _ i => s[0].toNat + 1 - (intOf i).toNat)
        case atStart => exact ⟨0, Nat.zero_le _, rfl, rfl⟩
        case round =>
          obtain ⟨j, hj, rfl, rfl⟩ := hrel
          by_cases hlt : j < s[0].toNat
          · have hv := val_piece_lt6 s j (by omega)
            have HV := Lib.hid (val_next s j (by omega))
            have hb := s[j + 1].toNat_lt
            generalize val ((s.data.toList.drop 1).take j) = m at *
            go_wp2
            go_round
            case rel => exact ⟨j + 1, by omega, by go_num, by rw [HV.out]; go_num⟩
            case measure => simp [intOf]; omega
          · obtain rfl : j = s[0].toNat := by omega
            have hv := val_piece_lt s s[0].toNat (by omega)
            generalize val ((s.data.toList.drop 1).take s[0].toNat) = m at *
            by_cases hr : 9007199254740992 < m
            · have HS := Lib.hid (stNum_dec s (HD2.out.trans (if_pos hr)))
              clear HD2
              go_wp2
              go_returns
              rw [HS.out, if_pos (by decide)]
              exact ⟨rfl, by go_grown⟩
            · have HS := Lib.hid (stNum_dec s (HD2.out.trans (if_neg hr)))
              clear HD2
              go_wp2
              go_returns
              rw [HS.out, if_neg (by decide)]
              exact ⟨rfl, by go_grown⟩
    · clear h1
      have HS := Lib.hid (stNum_dec s (HD.out.trans (if_pos (by omega))))
      clear HD
      unfold rV
      go_enter Tryd.func26, Tryd.ntmps26
      go_wp2
      go_returns
      rw [HS.out, if_pos (by decide)]
      exact ⟨rfl, by go_grown⟩
  · have hz : s[0].toNat = 0 := by omega
    have HS := Lib.hid (stNum_dec s ((HD.out.trans (if_neg (by omega))).trans (if_neg (by rw [val_piece, hz]; simp [val]))))
    rw [val_piece, hz, List.take_zero, val_nil] at HS
    clear HD h1
    unfold rV
    go_enter Tryd.func26, Tryd.ntmps26
    go_wp2
    go_rounds 1
    go_returns
    rw [HS.out, if_neg (by decide)]
    exact ⟨rfl, by go_grown⟩

set_option maxHeartbeats 4000000 in
set_option maxRecDepth 100000 in
theorem refNum (s : ByteArray) (e : Int) (w : World) (hm : s.size ≤ 9223372036854775807) :
    Calls Tryd.prog 26 #[rV s e] w (RNPost w (stNum s e)) := by
  by_cases he : e = 0
  · subst he
    by_cases h0 : 0 < s.size
    · by_cases h7 : 7 < s[0].toNat
      · have hE := nonempty_of s h0
        have hk := s[0].toNat_lt
        have HS := Lib.hid (stNum_dec s (dec_big h0 h7))
        unfold rV
        go_enter Tryd.func26, Tryd.ntmps26
        go_wp2
        go_returns
        rw [HS.out, if_pos (by decide)]
        exact ⟨rfl, by go_grown⟩
      · by_cases hf : 0 < s[0].toNat ∧ ∃ h : 1 < s.size, s[1].toNat = 0
        · obtain ⟨hz0, hs1, hz⟩ := hf
          have hE := nonempty_of s h0
          have hk := s[0].toNat_lt
          have hx := ex_size s
          have HS := Lib.hid (stNum_dec s (dec_form h0 h7 hz0 (by omega) (by rw [ex_one s hs1 (by omega)]; exact hz)))
          have hz2 : ((s[1].toNat : Int) == 0) = true := beq_iff_eq.2 (by omega)
          clear hz hx
          unfold rV
          go_enter Tryd.func26, Tryd.ntmps26
          go_wp2
          go_returns
          rw [HS.out, if_pos (by decide)]
          exact ⟨rfl, by go_grown⟩
        · exact refNum_tail s w hm h0 h7 (fun a b c => hf ⟨a, b, c⟩)
    · have hE := empty_of s (by omega)
      have HS := Lib.hid (stNum_dec s (show dec s.data.toList = (0, 0, 5) by rw [List.eq_nil_of_length_eq_zero (show s.data.toList.length = 0 by rw [size_list]; omega)]; rfl))
      unfold rV
      go_enter Tryd.func26, Tryd.ntmps26
      go_wp2
      go_returns
      rw [HS.out, if_pos (by decide)]
      exact ⟨rfl, by go_grown⟩
  · rw [stNum_err s he]
    exact refNum_err s e (by rw [bne_iff_ne]; exact he) w
end Go.Proofs.YtjohkimjdkginaaDoor.W
