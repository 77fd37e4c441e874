/-
  footbridgelaw05.awake; the table of roots out of the row's list.
-/
import Derived.Test.YtlcepgcflchmhaaDoorMSum
import Derived.Test.YtlcepgcflchmhaaDoorMCert
import Derived.Test.YtlcepgcflchmhaaDoorCLift
import Derived.Lib.LaidTab
namespace Go.Proofs.YtlcepgcflchmhaaDoor.W
open Go.RowKit

theorem gRoots : Tryd.prog.globalNamed "footbridge/sha.roots" = some 0 := by kernel_rfl
theorem gRootsType : (Tryd.prog.globals[0]?).map (·.type) = some 41 := by kernel_rfl
theorem cells32 : Tryd.prog.cellsOf 33 = 1 := by kernel_rfl
theorem cellsRoots : Tryd.prog.cellsOf 41 = 64 := by kernel_rfl
theorem getD_cast (l : List Nat) (i : Nat) : (l.map fun x : Nat => (x : Int)).getD i 0 = (nth l i : Int) := by
  unfold nth
  rw [List.getD_eq_getElem?_getD, List.getD_eq_getElem?_getD, List.getElem?_map]
  cases l[i]? <;> rfl
theorem roots_of {W : World} (h : laidMetH Tryd.prog [("footbridge/sha.roots", Rows.laid_footbridge_sha_roots)] W) : Roots W := by
  have ht : Lib.TabIs Tryd.prog W "footbridge/sha.roots" .u32 (kk.map fun x : Nat => (x : Int)) :=
    Lib.tabIs_of_head (rest := []) gRoots gRootsType Tryd.underlying41 Tryd.underlying33 cells32 cellsRoots h
  intro i hi
  have hc := ht.cell gRoots i hi
  rw [hc, getD_cast]

theorem head4 (A : ByteArray) (l : List UInt8) (a b c d : UInt8) (hA : bs l = A) (h : l.take 4 = [a, b, c, d]) : A.extract 0 4 = ⟨#[a, b, c, d]⟩ := by
  subst hA
  apply ByteArray.ext
  apply Array.toList_inj.1
  rw [extract_data]
  exact h
theorem mac_ex (w : World) (hr : Roots w) (A : ByteArray) (HA : Hid (bs (macOf exKey exText) = A)) :
    Calls Tryd.prog 6 #[.string ⟨#[107, 101, 121]⟩, .string ⟨#[84, 104, 101, 32, 113, 117, 105, 99, 107, 32, 98, 114, 111, 119, 110, 32, 102, 111, 120, 32, 106, 117, 109, 112, 115, 32, 111, 118, 101, 114, 32, 116, 104, 101, 32, 108, 97, 122, 121, 32, 100, 111, 103]⟩] w fun e w' => e = .returned (.string A) ∧ Below w.heap.size w w' := by
  have h := macSum ⟨#[107, 101, 121]⟩ ⟨#[84, 104, 101, 32, 113, 117, 105, 99, 107, 32, 98, 114, 111, 119, 110, 32, 102, 111, 120, 32, 106, 117, 109, 112, 115, 32, 111, 118, 101, 114, 32, 116, 104, 101, 32, 108, 97, 122, 121, 32, 100, 111, 103]⟩ w hr (by decide) (by decide)
  rw [← HA.out]
  exact h
theorem same_yes (a : ByteArray) (w : World) : Calls Tryd.prog 8 #[.string a, .string a] w fun e w' => e = .returned (.bool true) ∧ w = w' := by
  have h := same a a w
  rwa [show (a.toList == a.toList) = true from beq_self_eq_true _] at h
theorem same_no (a b : ByteArray) (hne : a ≠ b) (w : World) : Calls Tryd.prog 8 #[.string a, .string b] w fun e w' => e = .returned (.bool false) ∧ w = w' := by
  have h := same a b w
  rwa [str_ne hne] at h

set_option maxHeartbeats 1000000 in
set_option maxRecDepth 100000 in
theorem awake05 (w : World) (hr : Roots w) : Calls Tryd.prog 5 #[] w fun e w' => e = .returned (.bool true) ∧ Below w.heap.size w w' := by
  obtain ⟨A, hA⟩ : ∃ A, bs (macOf exKey exText) = A := ⟨_, rfl⟩
  have sA : A.size = 32 := by rw [← hA, bs_size, macOf_len]
  have tA : A.extract 0 4 = ⟨#[247, 188, 131, 244]⟩ := head4 A _ _ _ _ _ hA ex_mac
  have HA := Lib.hid hA
  clear hA
  go_enter Tryd.func5, Tryd.ntmps5
  go_wp2_with fail
  refine (mac_ex w hr A HA).mono ?_
  rintro e w1 ⟨rfl, b1⟩
  go_wp2_with fail
  refine (same_yes _ w1).mono ?_
  rintro e w2 ⟨rfl, rfl⟩
  go_wp2_with fail
  refine (same_no _ _ (by decide) w1).mono ?_
  rintro e w2 ⟨rfl, rfl⟩
  go_wp2_with fail
  refine (same_no _ _ (by decide) w1).mono ?_
  rintro e w2 ⟨rfl, rfl⟩
  go_wp2_with fail
  refine (same_yes _ w1).mono ?_
  rintro e w2 ⟨rfl, rfl⟩
  go_wp2
  go_ret
  exact ⟨rfl, b1⟩
end Go.Proofs.YtlcepgcflchmhaaDoor.W
