/-
  footbridgelaw04.awake; the table of roots out of the row's list.
-/
import Derived.Test.YtocbmffnojhimaaDoorSSum
import Derived.Test.YtocbmffnojhimaaDoorSCert
import Derived.Test.YtocbmffnojhimaaDoorSEq
import Derived.Test.YtocbmffnojhimaaDoorCLift
import Derived.Lib.LaidTab
namespace Go.Proofs.YtocbmffnojhimaaDoor.W
open Go.RowKit

theorem gRoots : Tryd.prog.globalNamed "footbridge/sha.roots" = some 0 := by kernel_rfl
theorem gRootsType : (Tryd.prog.globals[0]?).map (·.type) = some 34 := by kernel_rfl
theorem cellsRoots : Tryd.prog.cellsOf 34 = 64 := by kernel_rfl
theorem getD_cast (l : List Nat) (i : Nat) : (l.map fun x : Nat => (x : Int)).getD i 0 = (nth l i : Int) := by
  unfold nth
  rw [List.getD_eq_getElem?_getD, List.getD_eq_getElem?_getD, List.getElem?_map]
  cases l[i]? <;> rfl
theorem roots_of {W : World} (h : laidMetH Tryd.prog [("footbridge/sha.roots", Rows.laid_footbridge_sha_roots)] W) : Roots W := by
  have ht : Lib.TabIs Tryd.prog W "footbridge/sha.roots" .u32 (kk.map fun x : Nat => (x : Int)) :=
    Lib.tabIs_of_head (rest := []) gRoots gRootsType Tryd.underlying34 Tryd.underlying25 cells32 cellsRoots h
  intro i hi
  have hc := ht.cell gRoots i hi
  rw [hc, getD_cast]

theorem sum_e (w : World) (hr : Roots w) (A : ByteArray) (HA : Hid (bs (shaOf []) = A)) : Calls Tryd.prog 7 #[.string ⟨#[]⟩] w fun e w' => e = .returned (.string A) ∧ Below w.heap.size w w' := by
  have h := sum ⟨#[]⟩ w hr (by decide)
  rw [show (⟨#[]⟩ : ByteArray).data.toList = [] from rfl, HA.out] at h
  exact h
theorem sum_c (w : World) (hr : Roots w) (A : ByteArray) (HA : Hid (bs (shaOf [97, 98, 99]) = A)) : Calls Tryd.prog 7 #[.string ⟨#[97, 98, 99]⟩] w fun e w' => e = .returned (.string A) ∧ Below w.heap.size w w' := by
  have h := sum ⟨#[97, 98, 99]⟩ w hr (by decide)
  rw [show (⟨#[97, 98, 99]⟩ : ByteArray).data.toList = [97, 98, 99] from rfl, HA.out] at h
  exact h
theorem head4 (A : ByteArray) (l : List UInt8) (a b c d : UInt8) (hA : bs l = A) (h : l.take 4 = [a, b, c, d]) : A.extract 0 4 = ⟨#[a, b, c, d]⟩ := by
  subst hA
  apply ByteArray.ext
  apply Array.toList_inj.1
  rw [extract_data]
  exact h
theorem pad_is (n : Nat) (k : Int) (B : ByteArray) (hn : n ≤ 9223372036854775807) (HB : Hid (bs (padOf n) = B)) (hk : (n : Int) = k) (w : World) : Calls Tryd.prog 11 #[.int .i64 k] w fun e w' => e = .returned (.string B) ∧ Below w.heap.size w w' := by
  have h := pad n hn w
  rw [HB.out, hk] at h
  exact h

set_option maxHeartbeats 4000000 in
set_option maxRecDepth 100000 in
theorem awake04 (w : World) (hr : Roots w) : Calls Tryd.prog 6 #[] w fun e w' => e = .returned (.bool true) ∧ Below w.heap.size w w' := by
  obtain ⟨A, hA⟩ : ∃ A, bs (shaOf []) = A := ⟨_, rfl⟩
  obtain ⟨B, hB⟩ : ∃ B, bs (shaOf [97, 98, 99]) = B := ⟨_, rfl⟩
  obtain ⟨P0, h0⟩ : ∃ P, bs (padOf 0) = P := ⟨_, rfl⟩
  obtain ⟨P1, h1⟩ : ∃ P, bs (padOf 55) = P := ⟨_, rfl⟩
  obtain ⟨P2, h2⟩ : ∃ P, bs (padOf 56) = P := ⟨_, rfl⟩
  obtain ⟨o8, h8⟩ : ∃ o, blk [0, 0, 0, 0, 0, 0, 0, 0] [] = o := ⟨_, rfl⟩
  have hl8 : o8.length = 8 := by rw [← h8]; rfl
  have sA : A.size = 32 := by rw [← hA, bs_size, shaOf_len]
  have sB : B.size = 32 := by rw [← hB, bs_size, shaOf_len]
  have s0 : P0.size = 64 := by rw [← h0, bs_size, padOf_len]; rfl
  have s1 : P1.size = 9 := by rw [← h1, bs_size, padOf_len]; rfl
  have s2 : P2.size = 72 := by rw [← h2, bs_size, padOf_len]; rfl
  have tA : A.extract 0 4 = ⟨#[227, 176, 196, 66]⟩ := head4 A _ _ _ _ _ hA sha_e
  have tB : B.extract 0 4 = ⟨#[186, 120, 22, 191]⟩ := head4 B _ _ _ _ _ hB sha_c
  have neq8 : ∀ W : World, (Op.equalIn 10000 26 (.agg (wv o8)) (.agg #[.int .u32 0, .int .u32 0, .int .u32 0, .int .u32 0, .int .u32 0, .int .u32 0, .int .u32 0, .int .u32 0])).run Tryd.prog W = .ok false W :=
    fun W => equal_not W o8 [0, 0, 0, 0, 0, 0, 0, 0] hl8 rfl (by rw [← h8]; exact blk_z0)
  have HA := Lib.hid hA
  have HB := Lib.hid hB
  have H0 := Lib.hid h0
  have H1 := Lib.hid h1
  have H2 := Lib.hid h2
  have H8 := Lib.hid h8
  clear hA hB h0 h1 h2 h8 hl8
  have g8 := guard8
  go_enter Tryd.func6, Tryd.ntmps6
  go_wp2_with fail
  refine (sum_e w hr A HA).mono ?_
  rintro e w1 ⟨rfl, b1⟩
  go_wp2_with fail
  refine (sum_c w1 (hr.next b1) B HB).mono ?_
  rintro e w2 ⟨rfl, b2⟩
  replace b2 := step_below b1 b2
  clear b1
  go_wp2_with fail
  refine (pad_is 0 0 P0 (by omega) H0 rfl w2).mono ?_
  rintro e w3 ⟨rfl, b3⟩
  replace b3 := step_below b2 b3
  clear b2
  go_wp2_with fail
  refine (pad_is 55 55 P1 (by omega) H1 rfl w3).mono ?_
  rintro e w4 ⟨rfl, b4⟩
  replace b4 := step_below b3 b4
  clear b3
  go_wp2_with fail
  refine (pad_is 56 56 P2 (by omega) H2 rfl w4).mono ?_
  rintro e w5 ⟨rfl, b5⟩
  replace b5 := step_below b4 b5
  clear b4
  go_wp2_with fail
  refine (pad_neg (-1) (by omega) w5).mono ?_
  rintro e w6 ⟨rfl, rfl⟩
  have hne := str_none
  have hbn : bs [] = ⟨#[]⟩ := rfl
  go_wp2_with fail
  refine (block_this 0 0 0 0 0 0 0 0 ⟨#[]⟩ w5 (hr.next b5) (by decide) o8 H8).mono ?_
  rintro e w7 ⟨rfl, b7⟩
  replace b7 := step_below b5 b7
  clear b5
  go_wp2
  go_ret
  exact ⟨rfl, b7⟩
end Go.Proofs.YtocbmffnojhimaaDoor.W
