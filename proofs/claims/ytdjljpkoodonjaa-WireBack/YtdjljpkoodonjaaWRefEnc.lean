/-
  The reference's Num, Text and Join: they answer what wire's do.
-/
import Derived.Test.YtdjljpkoodonjaaWJoin
namespace Go.Proofs.Ytdjljpkoodonjaa.W
open Go.RowKit

/-- 'string([]byte{c})' -/
theorem run_one (W : World) (c : Int) (h0 : 0 ≤ c) (h1 : c < 256) :
    (convert 34 9 (.slice (some ⟨W.heap.size, 0, none⟩) 1 1)).run Try.prog (W.alloc (.cells #[.int .u8 c] 5)) = .ok (.string (bs [UInt8.ofNat c.toNat])) (W.alloc (.cells #[.int .u8 c] 5)) := by
  refine run_convert_bytes_back (W.alloc (.cells #[.int .u8 c] 5)) 34 9 5 ⟨W.heap.size, 0, none⟩ 1 [UInt8.ofNat c.toNat] Try.underlying34 Try.underlying5 Try.underlying9 ?_
  intro j hj
  have e : j = 0 := by simpa using hj
  subst e
  simp only [List.getElem_cons_zero]
  rw [show (UInt8.ofNat c.toNat).toNat = c.toNat from toNat_ofNat (by omega), Int.toNat_of_nonneg h0]
  simp [Addr.add]
theorem run_add (W : World) (a b : List UInt8) (h : a.length + b.length ≤ 9223372036854775807) : (Op.stringOp .add (bs a) (bs b)).run Try.prog W = .ok (.string (bs (a ++ b))) W := by
  rw [run_string_add_sum W (bs a) (bs b) (by rw [bs_size, bs_size]; exact h), bs_append]

def RNumRel (N : Nat) (s n : Value) : Prop := ∃ (m : Nat) (t : List UInt8), n = .int .i64 m ∧ s = .string (bs t) ∧ be m ++ t = be N

set_option maxHeartbeats 1000000 in
theorem rNum (n : Int) (w : World) :
    Calls Try.prog 9 #[.int .i64 n] w fun e w' => e = .returned (retSE (encNum n)) ∧ Below w.heap.size w w' := by
  by_cases h0 : 0 ≤ n
  · by_cases h1 : n ≤ 9007199254740992
    · obtain ⟨m, rfl⟩ := Int.eq_ofNat_of_zero_le h0
      have HE := Lib.hid (show encNum m = (num m, 0) by simp [encNum, h1])
      have hle := be_len_le m 7 (by omega)
      go_enter Try.func9, Try.ntmps9
      go_wp2
      go_loopw [0, 4] (fun n s wr => ∃ (j : Nat) (t : List UInt8), n = .int .i64 j ∧ s = .string (bs t) ∧ j ≤ 9007199254740992 ∧ Hid (be j ++ t = be m) ∧ Below w.heap.size w wr) (fun n _ _ => (intOf n).toNat)
      case atStart => exact ⟨m, [], rfl, rfl, by omega, by unfold Hid; simp, Below.refl _ _⟩
      case round =>
        obtain ⟨j, t, rfl, rfl, hj, hcat, hbel⟩ := hrel
        have htl : t.length ≤ 7 := by have := congrArg List.length hcat.out; rw [List.length_append] at this; omega
        have hsz := hbel.size
        by_cases hpos : 0 < j
        · have hcv := run_one wr ((j : Int) % 256) (by omega) (by omega)
          have hadd := fun W => run_add W [UInt8.ofNat (j % 256)] t (by simp; omega)
          go_wp2
          go_roundw
          case rel =>
            refine ⟨j / 256, UInt8.ofNat (j % 256) :: t, by go_num, rfl, by omega, ?_, hbel.alloc hsz _⟩
            have e := be_pos (n := j) (by omega)
            have h2 := hcat.out
            rw [e] at h2
            unfold Hid
            rw [← h2]
            simp
          case measure => simp [intOf]; omega
        · obtain rfl : j = 0 := by omega
          have ht : t = be m := by have := hcat.out; rwa [be_zero, List.nil_append] at this
          subst ht
          have hl : (bs (be m)).size = (be m).length := bs_size _
          have hcv := run_one wr ((be m).length : Int) (by omega) (by omega)
          have hadd := fun W => run_add W [UInt8.ofNat (be m).length] (be m) (by simp; omega)
          go_wp2
          go_ret2
          refine ⟨by rw [HE.out]; rfl, hbel.alloc hsz _⟩
    · have HE := Lib.hid (show encNum n = ([], 3) by simp [encNum, h1])
      go_enter Try.func9, Try.ntmps9
      go_wp2
      go_ret2
      exact ⟨by rw [HE.out]; rfl, Below.refl _ _⟩
  · have HE := Lib.hid (show encNum n = ([], 3) by simp [encNum, h0])
    go_enter Try.func9, Try.ntmps9
    go_wp2
    go_ret2
    exact ⟨by rw [HE.out]; rfl, Below.refl _ _⟩

theorem run_add_text (W : World) (s : ByteArray) (h : s.size ≤ 65536) : (Op.stringOp .add (bs (num s.size)) s).run Try.prog W = .ok (.string (bs (text s.data.toList))) W := by
  have hl := be_len_le s.size 7 (by omega)
  rw [run_string_add_sum W (bs (num s.size)) s (by rw [bs_size, num_len]; omega)]
  have e : bs (num s.size) ++ s = bs (text s.data.toList) := by
    conv => lhs; rw [← bs_of s]
    rw [bs_append, bs_of]
    unfold text
    rw [size_list]
  rw [e]
theorem encNum_small (n : Nat) (h : n ≤ 9007199254740992) : encNum n = (num n, 0) := by
  unfold encNum
  rw [if_pos ⟨by omega, by omega⟩, Int.toNat_natCast]

set_option maxHeartbeats 1000000 in
theorem rText (s : ByteArray) (w : World) :
    Calls Try.prog 11 #[.string s] w fun e w' => e = .returned (retSE (encText s)) ∧ Below w.heap.size w w' := by
  by_cases h1 : s.size ≤ 65536
  · have HE := Lib.hid (show encText s = (text s.data.toList, 0) by simp [encText, h1])
    have hr := rNum s.size w
    rw [encNum_small s.size (by omega)] at hr
    have HA := Lib.hid hr
    clear hr
    have hadd := fun W => run_add_text W s h1
    go_enter Try.func11, Try.ntmps11
    go_wp2_with fail
    refine HA.out.mono ?_
    rintro e w1 ⟨rfl, hb⟩
    unfold retSE
    go_wp2
    go_ret2
    exact ⟨by rw [HE.out]; rfl, hb⟩
  · have HE := Lib.hid (show encText s = ([], 4) by simp [encText, h1])
    go_enter Try.func11, Try.ntmps11
    go_wp2
    go_ret2
    exact ⟨by rw [HE.out]; rfl, Below.refl _ _⟩

set_option maxHeartbeats 1000000 in
theorem rJoin (v : Value) (ss : List ByteArray) (w : World) (hv : Txs w w.heap.size v ss) (hm : ss.length ≤ 9223372036854775807) :
    Calls Try.prog 13 #[v] w fun e w' => e = .returned (retSE (encJoin ss)) ∧ Below w.heap.size w w' := by
  obtain ⟨A, cap, rfl, hc⟩ := hv
  have HCell := Lib.hid hc
  clear hc
  by_cases hl : ss.length ≤ 256
  · have hr := rNum ss.length w
    rw [encNum_small ss.length (by omega)] at hr
    have HA := Lib.hid hr
    clear hr
    go_enter Try.func13, Try.ntmps13
    go_wp2_with fail
    refine HA.out.mono ?_
    rintro e w1 ⟨rfl, hb⟩
    unfold retSE
    go_wp2
    go_loopw [4, 6, 7, 8] (fun s i _ _ wr => ∃ k : Nat, k ≤ ss.length ∧ i = .int .i64 k ∧ Good ss k ∧ s = .string (bs (jpart ss k)) ∧ Below w.heap.size w wr) (fun _ i _ _ _ => ss.length - (intOf i).toNat)
    case atStart => exact ⟨0, Nat.zero_le _, rfl, fun i h hi => absurd hi (by omega), by rw [jpart_zero], hb⟩
    case round =>
      obtain ⟨k, hk, rfl, hg, rfl, hbel⟩ := hrel
      by_cases hlt : k < ss.length
      · obtain ⟨b, off, rfl, hbk, hcw⟩ := HCell.out k hlt
        have hcell : wr.cell? ⟨b, off + k, none⟩ = some (.string ss[k]) := (hbel.cell (p := ⟨b, off + k, none⟩) hbk).trans hcw
        clear hcw
        have hr := rText ss[k] wr
        by_cases hs : ss[k].size ≤ 65536
        · rw [show encText ss[k] = (text ss[k].data.toList, 0) by simp [encText, hs]] at hr
          have HT := Lib.hid hr
          clear hr
          have hjl := jpart_len ss hl k hk hg
          have htl := text_len ss[k] hs
          have hadd := fun W => run_add W (jpart ss k) (text ss[k].data.toList) (by omega)
          rw [← jpart_succ ss k hlt] at hadd
          go_wp2_with fail
          refine HT.out.mono ?_
          rintro e w2 ⟨rfl, hb2⟩
          unfold retSE
          have hb3 := hbel.trans (hb2.mono hbel.size)
          go_wp2
          go_roundw
          case rel => exact ⟨k + 1, by omega, by go_num, hg.succ hlt hs, rfl, hb3⟩
          case measure => simp [intOf]; omega
        · rw [show encText ss[k] = ([], 4) by simp [encText, hs]] at hr
          have HT := Lib.hid hr
          clear hr
          have HE := Lib.hid (encJoin_bad hlt hs)
          go_wp2_with fail
          refine HT.out.mono ?_
          rintro e w2 ⟨rfl, hb2⟩
          unfold retSE
          have hb3 := hbel.trans (hb2.mono hbel.size)
          go_wp2
          go_ret2
          exact ⟨by rw [HE.out]; rfl, hb3⟩
      · obtain rfl : k = ss.length := by omega
        have HE := Lib.hid (encJoin_ok hl hg)
        go_wp2
        go_ret2
        exact ⟨by rw [HE.out]; rfl, hbel⟩
  · have HE := Lib.hid (show encJoin ss = ([], 4) by simp [encJoin, hl])
    go_enter Try.func13, Try.ntmps13
    go_wp2
    go_ret2
    exact ⟨by rw [HE.out]; rfl, Below.refl _ _⟩
end Go.Proofs.Ytdjljpkoodonjaa.W
