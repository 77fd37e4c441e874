/-
  footbridgelaw03.awake; the library's tables and errors out of the row's list.
-/
import Derived.Test.YtfabifpalalhdaaDoorNChk
import Derived.Test.YtfabifpalalhdaaDoorCLift
import Derived.Stop.LaidErr
import Derived.MakeChecks
import Derived.Lib.LaidTab
namespace Go.Proofs.YtfabifpalalhdaaDoor.W
open Go.RowKit

theorem gPowType : (Tryd.prog.globals[2]?).map (·.type) = some 76 := by kernel_rfl
theorem cellsPow : Tryd.prog.cellsOf 76 = 20 := by kernel_rfl
theorem cellsU64 : Tryd.prog.cellsOf 56 = 1 := by kernel_rfl
theorem gSyn : Tryd.prog.globalNamed "strconv.ErrSyntax" = some 0 := by kernel_rfl
theorem gSynType : (Tryd.prog.globals[0]?).map (·.type) = some 40 := by kernel_rfl
theorem gRng : Tryd.prog.globalNamed "strconv.ErrRange" = some 1 := by kernel_rfl
theorem gRngType : (Tryd.prog.globals[1]?).map (·.type) = some 40 := by kernel_rfl
theorem cellsErr : Tryd.prog.cellsOf 73 = 1 := by kernel_rfl
theorem cellsStr : Tryd.prog.cellsOf 9 = 1 := by kernel_rfl
theorem star : "*" ++ "errors.errorString" = "*errors.errorString" := by decide
theorem rowErr (u : TypeId) (h : Tryd.prog.typeName? 3 u = some "*errors.errorString") : u = 71 :=
  typeName_ptr_named (nm := "errors.errorString") (by rw [star]; kernel_rfl) (by kernel_rfl) (by decide) u (by rw [star]; exact h)
theorem powData : (Rows.laid_internal_strconv_uint64pow10 : DataW Unit) = Lib.tabData .u64 Lib.pow10Tab := by kernel_rfl
theorem lay_of {W : World} (h : laidMetH Tryd.prog Rows.namesChecksRow.laid W) : Lay W := by
  rw [MakeChecks.laidMetH_plain _ _ _ (by kernel_rfl)] at h
  have h1 : laidMet Tryd.prog [("math/bits.deBruijn32tab", Rows.laid_math_bits_deBruijn32tab), ("math/bits.deBruijn64tab", Rows.laid_math_bits_deBruijn64tab), ("internal/strconv.uint64pow10", Rows.laid_internal_strconv_uint64pow10), ("strconv.ErrRange", Rows.laid_strconv_ErrRange), ("strconv.ErrSyntax", Rows.laid_strconv_ErrSyntax)] W := h
  have h2 := h1.tail.tail
  rw [powData] at h2
  obtain ⟨a0, s0, hv0, -, -, -⟩ := laid_sentinel h2.tail gRng gRngType Tryd.underlying40 rowErr Tryd.underlying71 Tryd.underlying73 rfl rfl Tryd.underlying9 cellsErr cellsStr
  obtain ⟨a1, s1, hv1, -, -, -⟩ := laid_sentinel h2.tail.tail gSyn gSynType Tryd.underlying40 rowErr Tryd.underlying71 Tryd.underlying73 rfl rfl Tryd.underlying9 cellsErr cellsStr
  exact ⟨Lib.tabIs_of_head gPow gPowType Tryd.underlying76 Tryd.underlying56 cellsU64 cellsPow h2, ⟨_, _, by have h0 := World.var?_cell gSyn hv1 0; simpa using h0⟩, ⟨_, _, by have h0 := World.var?_cell gRng hv0 0; simpa using h0⟩⟩

theorem aE : mkE 1 7 = 0 := by decide
theorem aS : mkS 1 7 = [99, 104, 97, 110, 110, 101, 108, 45, 55] := by
  rw [mkS, if_pos aE]
  show wd 1 ++ dec 7 = _
  rw [dec_small (by omega)]
  rfl
theorem aN : nmV 1 [99, 104, 97, 110, 110, 101, 108, 45, 48, 55] = .tuple #[.int .i64 0, .int .i64 7] := by
  refine nmV_no (by decide) (no_other (k := 1) (d := [48, 55]) (v := 7) (by rfl) ?_)
  rintro ⟨-, e⟩
  rw [aS] at e
  exact absurd e (by decide)
theorem bE : mkE 3 0 = 0 := by decide
theorem bS : mkS 3 0 = [99, 108, 105, 101, 110, 116, 45, 48] := by
  rw [mkS, if_pos bE]
  show wd 3 ++ dec 0 = _
  rw [dec_small (by omega)]
  rfl
theorem bC : ck 3 [99, 108, 105, 101, 110, 116, 45, 48] = 0 := by
  rw [ck_num (by decide)]
  exact (nm_yes bE bS).2
theorem make1 (w : World) (hL : Lay w) : Calls Tryd.prog 11 #[.int .i64 1, .int .i64 7] w fun e w' => e = .returned (.tuple #[.string ⟨#[99, 104, 97, 110, 110, 101, 108, 45, 55]⟩, .int .i64 0]) ∧ Below w.heap.size w w' :=
  make_this 1 7 _ _ (by rw [aS]; rfl) aE w hL
theorem make2 (w : World) (hL : Lay w) : Calls Tryd.prog 11 #[.int .i64 0, .int .i64 7] w fun e w' => e = .returned (.tuple #[.string ⟨#[]⟩, .int .i64 1]) ∧ Below w.heap.size w w' := by
  have h := make 0 7 w hL
  rw [mkV_arg (by decide)] at h
  exact h
theorem make3 (w : World) (hL : Lay w) : Calls Tryd.prog 11 #[.int .i64 2, .int .i64 (-1)] w fun e w' => e = .returned (.tuple #[.string ⟨#[]⟩, .int .i64 3]) ∧ Below w.heap.size w w' := by
  have h := make 2 (-1) w hL
  rw [mkV_range (by decide) (by decide)] at h
  exact h
theorem number1 (w : World) (hL : Lay w) : Calls Tryd.prog 7 #[.int .i64 1, .string ⟨#[99, 104, 97, 110, 110, 101, 108, 45, 55]⟩] w fun e w' => e = .returned (.tuple #[.int .i64 7, .int .i64 0]) ∧ Below w.heap.size w w' := by
  have h := number 1 ⟨#[99, 104, 97, 110, 110, 101, 108, 45, 55]⟩ w hL (by decide)
  rw [nmV_yes aE aS] at h
  exact h
theorem number2 (w : World) (hL : Lay w) : Calls Tryd.prog 7 #[.int .i64 1, .string ⟨#[99, 104, 97, 110, 110, 101, 108, 45, 48, 55]⟩] w fun e w' => e = .returned (.tuple #[.int .i64 0, .int .i64 7]) ∧ Below w.heap.size w w' := by
  have h := number 1 ⟨#[99, 104, 97, 110, 110, 101, 108, 45, 48, 55]⟩ w hL (by decide)
  rw [aN] at h
  exact h
theorem check_this (k : Int) (s : ByteArray) (hs : s.size ≤ 1000000) (z : Int) (h : ck k s.data.toList = z) (w : World) (hL : Lay w) :
    Calls Tryd.prog 9 #[.int .i64 k, .string s] w fun e w' => e = .returned (.int .i64 z) ∧ Below w.heap.size w w' := by
  subst h
  exact check k s w hL hs

set_option maxHeartbeats 1000000 in
theorem awake03 (w : World) (hL : Lay w) : Calls Tryd.prog 6 #[] w fun e w' => e = .returned (.bool true) ∧ Below w.heap.size w w' := by
  go_enter Tryd.func6, Tryd.ntmps6
  go_wp2_with fail
  refine (make1 w hL).mono ?_
  rintro e w1 ⟨rfl, b1⟩
  go_wp2_with fail
  refine (number1 w1 (hL.next b1)).mono ?_
  rintro e w2 ⟨rfl, b2⟩
  replace b2 := step_below b1 b2
  clear b1
  go_wp2_with fail
  refine (number2 w2 (hL.next b2)).mono ?_
  rintro e w3 ⟨rfl, b3⟩
  replace b3 := step_below b2 b3
  clear b2
  go_wp2_with fail
  refine (make2 w3 (hL.next b3)).mono ?_
  rintro e w4 ⟨rfl, b4⟩
  replace b4 := step_below b3 b4
  clear b3
  go_wp2_with fail
  refine (make3 w4 (hL.next b4)).mono ?_
  rintro e w5 ⟨rfl, b5⟩
  replace b5 := step_below b4 b5
  clear b4
  go_wp2_with fail
  refine (check_this 6 ⟨#[97, 108, 46, 105, 99, 101]⟩ (by decide) 0 (by decide) w5 (hL.next b5)).mono ?_
  rintro e w6 ⟨rfl, b6⟩
  replace b6 := step_below b5 b6
  clear b5
  go_wp2_with fail
  refine (check_this 6 ⟨#[97, 47, 98]⟩ (by decide) 7 (by decide) w6 (hL.next b6)).mono ?_
  rintro e w7 ⟨rfl, b7⟩
  replace b7 := step_below b6 b7
  clear b6
  go_wp2_with fail
  refine (check_this 7 ⟨#[97]⟩ (by decide) 1 (by decide) w7 (hL.next b7)).mono ?_
  rintro e w8 ⟨rfl, b8⟩
  replace b8 := step_below b7 b8
  clear b7
  go_wp2_with fail
  refine (check_this 3 ⟨#[99, 108, 105, 101, 110, 116, 45, 48]⟩ (by decide) 0 bC w8 (hL.next b8)).mono ?_
  rintro e w9 ⟨rfl, b9⟩
  replace b9 := step_below b8 b9
  clear b8
  go_wp2_with fail
  refine (check_this 0 ⟨#[]⟩ (by decide) 7 (by decide) w9 (hL.next b9)).mono ?_
  rintro e w10 ⟨rfl, b10⟩
  replace b10 := step_below b9 b10
  clear b9
  go_wp2
  go_ret
  exact ⟨rfl, b10⟩
end Go.Proofs.YtfabifpalalhdaaDoor.W
