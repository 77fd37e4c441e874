/-
  footbridgelaw02.awake; the table of digits out of the row's list.
-/
import Derived.Test.YtlalfpgpebapeaaDoorHPut
import Derived.Test.YtlalfpgpebapeaaDoorHRead
import Derived.Test.YtlalfpgpebapeaaDoorCLift
namespace Go.Proofs.YtlalfpgpebapeaaDoor.W
open Go.RowKit

theorem gDigitsType : (Tryd.prog.globals[0]?).map (·.type) = some 35 := by kernel_rfl
theorem cellsTab : Tryd.prog.cellsOf 35 = 16 := by kernel_rfl
theorem cellsU8 : Tryd.prog.cellsOf 5 = 1 := by kernel_rfl
theorem digs_of {W : World} (h : laidMetH Tryd.prog [("footbridge/hexa.digits", Rows.laid_footbridge_hexa_digits)] W) : Digs W := by
  have ht : Lib.TabIs Tryd.prog W "footbridge/hexa.digits" .u8 [48, 49, 50, 51, 52, 53, 54, 55, 56, 57, 97, 98, 99, 100, 101, 102] :=
    Lib.tabIs_of_head (rest := []) gDigits gDigitsType Tryd.underlying35 Tryd.underlying5 cellsU8 cellsTab h
  intro i hi
  have hc := ht.cell gDigits i hi
  rw [hc]
  have hk16 : i = 0 ∨ i = 1 ∨ i = 2 ∨ i = 3 ∨ i = 4 ∨ i = 5 ∨ i = 6 ∨ i = 7 ∨ i = 8 ∨ i = 9 ∨ i = 10 ∨ i = 11 ∨ i = 12 ∨ i = 13 ∨ i = 14 ∨ i = 15 := by omega
  rcases hk16 with rfl | rfl | rfl | rfl | rfl | rfl | rfl | rfl | rfl | rfl | rfl | rfl | rfl | rfl | rfl | rfl <;> rfl

theorem aw1 : rdHex [48, 49, 102, 102] = ([1, 255], 0) := by decide +kernel
theorem aw2 : rdHex [48] = ([], 6) := by decide +kernel
theorem aw3 : rdHex [48, 71] = ([], 6) := by decide +kernel
theorem aw4 : hput [1, 255] = [48, 49, 102, 102] := by decide +kernel
theorem read1 (w : World) (hd : Digs w) : Calls Tryd.prog 6 #[.string ⟨#[48, 49, 102, 102]⟩] w fun e w' => e = .returned (.tuple #[.string ⟨#[1, 255]⟩, .int .i64 0]) ∧ Below w.heap.size w w' := by
  have h := hRead ⟨#[48, 49, 102, 102]⟩ w hd (by decide)
  rw [show (⟨#[48, 49, 102, 102]⟩ : ByteArray).data.toList = [48, 49, 102, 102] from rfl, aw1] at h
  exact h
theorem read2 (w : World) (hd : Digs w) : Calls Tryd.prog 6 #[.string ⟨#[48]⟩] w fun e w' => e = .returned (.tuple #[.string ⟨#[]⟩, .int .i64 6]) ∧ Below w.heap.size w w' := by
  have h := hRead ⟨#[48]⟩ w hd (by decide)
  rw [show (⟨#[48]⟩ : ByteArray).data.toList = [48] from rfl, aw2] at h
  exact h
theorem read3 (w : World) (hd : Digs w) : Calls Tryd.prog 6 #[.string ⟨#[48, 71]⟩] w fun e w' => e = .returned (.tuple #[.string ⟨#[]⟩, .int .i64 6]) ∧ Below w.heap.size w w' := by
  have h := hRead ⟨#[48, 71]⟩ w hd (by decide)
  rw [show (⟨#[48, 71]⟩ : ByteArray).data.toList = [48, 71] from rfl, aw3] at h
  exact h
theorem put1 (w : World) (hd : Digs w) : Calls Tryd.prog 8 #[.string ⟨#[1, 255]⟩] w fun e w' => e = .returned (.string ⟨#[48, 49, 102, 102]⟩) ∧ Below w.heap.size w w' := by
  have h := hPut ⟨#[1, 255]⟩ w hd (by decide)
  rw [show (⟨#[1, 255]⟩ : ByteArray).data.toList = [1, 255] from rfl, aw4] at h
  exact h

set_option maxHeartbeats 1000000 in
theorem awake02 (w : World) (hd : Digs w) : Calls Tryd.prog 5 #[] w fun e w' => e = .returned (.bool true) ∧ Below w.heap.size w w' := by
  go_enter Tryd.func5, Tryd.ntmps5
  go_wp2_with fail
  refine (read1 w hd).mono ?_
  rintro e w1 ⟨rfl, h1⟩
  go_wp2_with fail
  refine (read2 w1 (hd.next h1)).mono ?_
  rintro e w2 ⟨rfl, h2⟩
  replace h2 := step_below h1 h2
  clear h1
  go_wp2_with fail
  refine (read3 w2 (hd.next h2)).mono ?_
  rintro e w3 ⟨rfl, h3⟩
  replace h3 := step_below h2 h3
  clear h2
  go_wp2_with fail
  refine (put1 w3 (hd.next h3)).mono ?_
  rintro e w4 ⟨rfl, h4⟩
  replace h4 := step_below h3 h4
  clear h3
  go_wp2
  go_ret
  exact ⟨rfl, h4⟩
end Go.Proofs.YtlalfpgpebapeaaDoor.W
