/-
  The reference's Join: it answers what wire's does.
-/
import Derived.Test.YtkinnlfjcmhcoaaDoorZ0b
import Derived.Test.YtkinnlfjcmhcoaaDoorYWRefNum
namespace Go.Proofs.YtkinnlfjcmhcoaaDoor.W
open Go.RowKit

set_option maxHeartbeats 1000000 in
set_option maxRecDepth 100000 in
theorem rJoin (v : Value) (ss : List ByteArray) (w : World) (hv : Txs w w.heap.size v ss) (hm : ss.length ≤ 9223372036854775807) :
    Calls Tryd.prog 49 #[v] w fun e w' => e = .returned (retSE (encJoin ss)) ∧ Below w.heap.size w w' := by
  obtain ⟨A, cap, rfl, hc⟩ := hv
  have HCell := Lib.hid hc
  clear hc
  by_cases hl : ss.length ≤ 256
  · have hr := rNum ss.length w
    rw [encNum_small ss.length (by omega)] at hr
    have HA := Lib.hid hr
    clear hr
    go_enter Tryd.func49, Tryd.ntmps49
    go_wp2_with fail
    refine HA.out.mono ?_
    rintro e w1 ⟨rfl, hb⟩
    unfold retSE
    go_wp2
    go_loopw [4, 6, 7, 8] (fun s i _ _ wr => ∃ k : Nat, k ≤ ss.length ∧ i = .int .i64 k ∧ Good ss k ∧ s = .string (bs (jpart ss k)) ∧ Below w.heap.size w wr) (fun _ i _ _ _ => ss.length - (intOf i).toNat)
    case atStart => exact ⟨0, Nat.zero_le _, rfl, fun i h hi => absurd hi (by omega), by rw [jpart_zero], hb⟩
    case round =>
      obtain ⟨k, hk, rfl, hg, rfl, hbel⟩ := hrel
      by_cases hlt : k < ss.length
      · obtain ⟨b, off, rfl, hbk, hcw⟩ := HCell.out k hlt
        have hcell : wr.cell? ⟨b, off + k, none⟩ = some (.string ss[k]) := (hbel.cell (p := ⟨b, off + k, none⟩) hbk).trans hcw
        clear hcw
        have hr := rText ss[k] wr
        by_cases hs : ss[k].size ≤ 65536
        · rw [show encText ss[k] = (text ss[k].data.toList, 0) by simp [encText, hs]] at hr
          have HT := Lib.hid hr
          clear hr
          have hjl := jpart_len ss hl k hk hg
          have htl := text_len ss[k] hs
          have hadd := fun W => run_add W (jpart ss k) (text ss[k].data.toList) (by omega)
          rw [← jpart_succ ss k hlt] at hadd
          go_wp2_with fail
          refine HT.out.mono ?_
          rintro e w2 ⟨rfl, hb2⟩
          unfold retSE
          have hb3 := hbel.trans (hb2.mono hbel.size)
          go_wp2
          go_roundw
          case rel => exact ⟨k + 1, by omega, by go_num, hg.succ hlt hs, rfl, hb3⟩
          case measure => simp [intOf]; omega
        · rw [show encText ss[k] = ([], 4) by simp [encText, hs]] at hr
          have HT := Lib.hid hr
          clear hr
          have HE := Lib.hid (encJoin_bad hlt hs)
          go_wp2_with fail
          refine HT.out.mono ?_
          rintro e w2 ⟨rfl, hb2⟩
          unfold retSE
          have hb3 := hbel.trans (hb2.mono hbel.size)
          go_wp2
          go_ret2
          exact ⟨by rw [HE.out]; rfl, hb3⟩
      · obtain rfl : k = ss.length := by omega
        have HE := Lib.hid (encJoin_ok hl hg)
        go_wp2
        go_ret2
        exact ⟨by rw [HE.out]; rfl, hbel⟩
  · have HE := Lib.hid (show encJoin ss = ([], 4) by simp [encJoin, hl])
    go_enter Tryd.func49, Tryd.ntmps49
    go_wp2
    go_ret2
    exact ⟨by rw [HE.out]; rfl, Below.refl _ _⟩
end Go.Proofs.YtkinnlfjcmhcoaaDoor.W
