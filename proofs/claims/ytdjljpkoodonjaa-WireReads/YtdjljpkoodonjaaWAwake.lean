/-
  awake: the law's own examples: it answers true, and nothing that was there has turned.
-/
import Derived.Test.YtdjljpkoodonjaaWTexts
namespace Go.Proofs.Ytdjljpkoodonjaa.W
open Go.RowKit

theorem enc300 : encNum 300 = ([2, 1, 44], 0) := by decide +kernel
theorem enc0 : encNum 0 = ([0], 0) := by decide +kernel
theorem encNeg : encNum (-1) = ([], 3) := by decide +kernel
theorem encAb : encText ⟨#[97, 98]⟩ = ([1, 2, 97, 98], 0) := by decide +kernel
theorem rd1 : stNum ⟨#[2, 1, 44, 1, 2, 97, 98, 1, 1, 0, 120]⟩ 0 = ((⟨#[1, 2, 97, 98, 1, 1, 0, 120]⟩, 0), 300) := by kernel_rfl
theorem rd2 : stText ⟨#[1, 2, 97, 98, 1, 1, 0, 120]⟩ 0 = ((⟨#[1, 1, 0, 120]⟩, 0), ⟨#[97, 98]⟩) := by kernel_rfl
theorem rd3 : stList ⟨#[1, 1, 0, 120]⟩ 0 = ((⟨#[120]⟩, 0), [⟨#[]⟩]) := by kernel_rfl
theorem rd4 : stDone ⟨#[120]⟩ 0 = 6 := by kernel_rfl
theorem rd5 : stNum ⟨#[2, 0, 1]⟩ 0 = ((⟨#[2, 0, 1]⟩, 6), 0) := by kernel_rfl

theorem num300 (w : World) : Calls Try.prog 8 #[.int .i64 300] w fun e w' => e = .returned (.tuple #[.string ⟨#[2, 1, 44]⟩, .int .i64 0]) ∧ Below w.heap.size w w' := by
  have h := wNum 300 w
  rw [enc300] at h
  exact h
theorem num0 (w : World) : Calls Try.prog 8 #[.int .i64 0] w fun e w' => e = .returned (.tuple #[.string ⟨#[0]⟩, .int .i64 0]) ∧ Below w.heap.size w w' := by
  have h := wNum 0 w
  rw [enc0] at h
  exact h
theorem numNeg (w : World) : Calls Try.prog 8 #[.int .i64 (-1)] w fun e w' => e = .returned (.tuple #[.string ⟨#[]⟩, .int .i64 3]) ∧ Below w.heap.size w w' := by
  have h := wNum (-1) w
  rw [encNeg] at h
  exact h
theorem textAb (w : World) : Calls Try.prog 10 #[.string ⟨#[97, 98]⟩] w fun e w' => e = .returned (.tuple #[.string ⟨#[1, 2, 97, 98]⟩, .int .i64 0]) ∧ Below w.heap.size w w' := by
  have h := wText ⟨#[97, 98]⟩ w
  rw [encAb] at h
  exact h
theorem read1 (b : Nat) (w : World) (h : RdAt w b ⟨#[2, 1, 44, 1, 2, 97, 98, 1, 1, 0, 120]⟩ 0) :
    Calls Try.prog 16 #[.pointer (some ⟨b, 0, none⟩)] w (RdPost w b (.int .i64 300) ⟨#[1, 2, 97, 98, 1, 1, 0, 120]⟩ 0) := by
  have h := numAt b _ 0 w h (by decide)
  rw [rd1] at h
  exact h
theorem read2 (b : Nat) (w : World) (h : RdAt w b ⟨#[1, 2, 97, 98, 1, 1, 0, 120]⟩ 0) :
    Calls Try.prog 18 #[.pointer (some ⟨b, 0, none⟩)] w (RdPost w b (.string ⟨#[97, 98]⟩) ⟨#[1, 1, 0, 120]⟩ 0) := by
  have h := textAt b _ 0 w h (by decide)
  rw [rd2] at h
  exact h
theorem read3 (b : Nat) (w : World) (h : RdAt w b ⟨#[1, 1, 0, 120]⟩ 0) :
    Calls Try.prog 21 #[.pointer (some ⟨b, 0, none⟩)] w (ListPost w b ((⟨#[120]⟩, 0), [⟨#[]⟩])) := by
  have h := listAt b _ 0 w h (by decide)
  rw [rd3] at h
  exact h
theorem read4 (b : Nat) (w : World) (h : RdAt w b ⟨#[120]⟩ 0) :
    Calls Try.prog 23 #[.pointer (some ⟨b, 0, none⟩)] w fun e' w' => e' = .returned (.int .i64 6) ∧ w = w' := by
  have h := doneAt b _ 0 w h
  rw [rd4] at h
  exact h
theorem read5 (b : Nat) (w : World) (h : RdAt w b ⟨#[2, 0, 1]⟩ 0) :
    Calls Try.prog 16 #[.pointer (some ⟨b, 0, none⟩)] w (RdPost w b (.int .i64 0) ⟨#[2, 0, 1]⟩ 6) := by
  have h := numAt b _ 0 w h (by decide)
  rw [rd5] at h
  exact h

theorem step_below {w a b : World} (h : Below w.heap.size w a) (k : Below a.heap.size a b) : Below w.heap.size w b := h.trans (k.mono h.size)
theorem step_only {w a b : World} {g : Nat} (h : Below w.heap.size w a) (k : a.grownBy b (some g)) (hg : w.heap.size ≤ g) : Below w.heap.size w b := h.trans (below_of_only k hg h.size)

theorem texts_one (v : Value) (w : World) (x : ByteArray) (hv : Txs w w.heap.size v [x]) :
    Calls Try.prog 20 #[v, .slice (some ⟨w.heap.size, 0, none⟩) 1 1] (w.alloc (.cells #[.string x] 9)) fun e w' => e = .returned (.bool true) ∧ Below w.heap.size w w' := by
  have hA : Below w.heap.size w (w.alloc (.cells #[.string x] 9)) := (Below.refl _ _).alloc (Nat.le_refl _) _
  have h2 : Txs (w.alloc (.cells #[.string x] 9)) (w.heap.size + 1) (.slice (some ⟨w.heap.size, 0, none⟩) 1 1) [x] := by
    refine ⟨some ⟨w.heap.size, 0, none⟩, 1, rfl, fun i hi => ⟨w.heap.size, 0, rfl, by omega, ?_⟩⟩
    obtain rfl : i = 0 := by simpa using hi
    simp
  have h := texts v _ [x] [x] (w.alloc (.cells #[.string x] 9)) (w.heap.size + 1) ((hv.below hA).more (by omega)) h2 (by simp) (by simp) (by simp)
  refine h.mono ?_
  rintro e w' ⟨rfl, hb⟩
  exact ⟨by simp, hA.trans (hb.mono (by simp))⟩
theorem newAt (s : ByteArray) (w : World) :
    Calls Try.prog 14 #[.string s] w fun e w' => ∃ b, e = .returned (.pointer (some ⟨b, 0, none⟩)) ∧ RdAt w' b s 0 ∧ w.heap.size ≤ b ∧ Below w.heap.size w w' := by
  refine (new s w).mono ?_
  rintro e w' ⟨rfl, rfl⟩
  exact ⟨_, rfl, Blk.new _ _ _, Nat.le_refl _, (Below.refl _ _).alloc (Nat.le_refl _) _⟩

set_option maxHeartbeats 2000000 in
set_option maxRecDepth 100000 in
theorem awake (w : World) : Calls Try.prog 7 #[] w fun e w' => e = .returned (.bool true) ∧ Below w.heap.size w w' := by
  go_enter Try.func7, Try.ntmps7
  go_wp2_with fail
  refine (num300 w).mono ?_
  rintro e w1 ⟨rfl, h1⟩
  go_wp2_with fail
  refine (textAb w1).mono ?_
  rintro e w2 ⟨rfl, h2⟩
  replace h2 := step_below h1 h2
  clear h1
  go_wp2_with fail
  refine (num0 w2).mono ?_
  rintro e w3 ⟨rfl, h3⟩
  replace h3 := step_below h2 h3
  clear h2
  go_wp2_with fail
  refine (numNeg w3).mono ?_
  rintro e w4 ⟨rfl, h4⟩
  replace h4 := step_below h3 h4
  clear h3
  go_wp2_with fail
  refine (newAt _ w4).mono ?_
  rintro e w5 ⟨b, rfl, hR, hg, h5⟩
  have hgb := Nat.le_trans h4.size hg
  replace h5 := step_below h4 h5
  clear h4 hg
  go_wp2_with fail
  refine (read1 b w5 hR).mono ?_
  rintro e w6 ⟨rfl, hR6, h6⟩
  replace h6 := step_only h5 h6 hgb
  clear h5 hR
  go_wp2_with fail
  refine (read2 b w6 hR6).mono ?_
  rintro e w7 ⟨rfl, hR7, h7⟩
  replace h7 := step_only h6 h7 hgb
  clear h6 hR6
  go_wp2_with fail
  refine (read3 b w7 hR7).mono ?_
  rintro e w8 ⟨v, rfl, hT, hR8, h8⟩
  replace h8 := step_only h7 h8 hgb
  clear h7 hR7
  simp only at hT hR8
  go_wp2_with fail
  refine (errAt b _ 0 w8 hR8).mono ?_
  rintro e w8' ⟨rfl, rfl⟩
  go_wp2_with fail
  refine (read4 b w8 hR8).mono ?_
  rintro e w8' ⟨rfl, rfl⟩
  clear hR8
  go_wp2_with fail
  refine (newAt _ w8).mono ?_
  rintro e w9 ⟨b9, rfl, hR9, hg9, h9⟩
  have hgb9 := Nat.le_trans h8.size hg9
  replace hT := hT.below h9
  have hle := h9.size
  replace h9 := step_below h8 h9
  clear h8
  go_wp2_with fail
  refine (read5 b9 w9 hR9).mono ?_
  rintro e w10 ⟨rfl, hR10, h10⟩
  replace hT := hT.below (below_of_only h10 hg9 hle)
  have hle2 := Nat.le_trans hle h10.size
  replace h10 := step_only h9 h10 hgb9
  clear h9 hR9
  go_wp2_with fail
  refine (texts_one v w10 _ (hT.more hle2)).mono ?_
  rintro e w11 ⟨rfl, h11⟩
  have hR11 : RdAt w11 b9 _ 6 := Blk.below hR10 h11 (Blk.lt hR10)
  replace h11 := step_below h10 h11
  clear h10 hR10 hT
  go_wp2_with fail
  refine (errAt b9 _ 6 w11 hR11).mono ?_
  rintro e w12 ⟨rfl, rfl⟩
  go_wp2
  go_ret
  exact ⟨rfl, h11⟩
end Go.Proofs.Ytdjljpkoodonjaa.W
