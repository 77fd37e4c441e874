/-
  footbridgelaw11.awake; the table of roots out of the row's list.
-/
import Derived.Test.YtbfpepiglcikbaaDoorKCert
import Derived.Test.YtbfpepiglcikbaaDoorKComb
import Derived.Test.YtbfpepiglcikbaaDoorCEq
import Derived.Test.YtbfpepiglcikbaaDoorCLift
import Derived.Lib.LaidTab
namespace Go.Proofs.YtbfpepiglcikbaaDoor.W
open Go.RowKit

theorem gRoots : Tryd.prog.globalNamed "footbridge/sha.roots" = some 0 := by kernel_rfl
theorem gRootsType : (Tryd.prog.globals[0]?).map (·.type) = some 57 := by kernel_rfl
theorem cells32 : Tryd.prog.cellsOf 43 = 1 := by kernel_rfl
theorem cellsRoots : Tryd.prog.cellsOf 57 = 64 := by kernel_rfl
theorem getD_cast (l : List Nat) (i : Nat) : (l.map fun x : Nat => (x : Int)).getD i 0 = (nth l i : Int) := by
  unfold nth
  rw [List.getD_eq_getElem?_getD, List.getD_eq_getElem?_getD, List.getElem?_map]
  cases l[i]? <;> rfl
theorem roots_of {W : World} (h : laidMetH Tryd.prog [("footbridge/sha.roots", Rows.laid_footbridge_sha_roots)] W) : Roots W := by
  have ht : Lib.TabIs Tryd.prog W "footbridge/sha.roots" .u32 (kk.map fun x : Nat => (x : Int)) :=
    Lib.tabIs_of_head (rest := []) gRoots gRootsType Tryd.underlying57 Tryd.underlying43 cells32 cellsRoots h
  intro i hi
  have hc := ht.cell gRoots i hi
  rw [hc, getD_cast]

theorem Since.alloc {w W : World} (h : Since w W) (o : Obj) : Since w (W.alloc o) := since_of (h.below.alloc h.below.size o)
theorem Since.drewN {w W : World} (h : Since w W) : Since w W.drew := since_of (Below.drewN h.below 1)
/-- a slice of pairs in a block that is known whole -/
theorem prs_one {W : World} {g : Nat} {x : KV} (h : Blk W g 30 #[.string x.1, .string x.2]) : Prs W (.slice (some ⟨g, 0, none⟩) 1 1) [x] := by
  refine ⟨_, 1, rfl, Nat.le_refl _, fun i hi => ?_⟩
  obtain rfl : i = 0 := by simpa using hi
  exact ⟨_, 0, rfl, h.cell 0, h.cell 1⟩
theorem prs_two {W : World} {g : Nat} {x y : KV} (h : Blk W g 30 #[.string x.1, .string x.2, .string y.1, .string y.2]) : Prs W (.slice (some ⟨g, 0, none⟩) 2 2) [x, y] := by
  refine ⟨_, 2, rfl, Nat.le_refl _, fun i hi => ?_⟩
  match i, hi with
  | 0, _ => exact ⟨_, 0, rfl, h.cell 0, h.cell 1⟩
  | 1, _ => exact ⟨_, 0, rfl, h.cell 2, h.cell 3⟩
theorem tree_pq : tree [exP, exQ] = shaOf (nodeOf (shaOf (leafOf exP)) (shaOf (leafOf exQ))) := by
  rw [tree_two _ (by decide) (by decide), show spl ([exP, exQ] : List KV).length = 1 from spl_is 0 2 (by decide) (by decide) (by decide)]
  rfl

/-- what the calls of the law's examples answer, in any world since V -/
structure AwK (V : World) (t1 t2 n12 R0 R1 R2 : List UInt8) : Prop where
  l1 : ∀ W, Since V W → Calls Tryd.prog 9 #[.agg #[.string ⟨#[97]⟩, .string ⟨#[49]⟩]] W fun e w' => e = .returned (.string (bs t1)) ∧ Since V w' ∧ Since W w'
  l2 : ∀ W, Since V W → Calls Tryd.prog 9 #[.agg #[.string ⟨#[98]⟩, .string ⟨#[50]⟩]] W fun e w' => e = .returned (.string (bs t2)) ∧ Since V w' ∧ Since W w'
  r1 : ∀ W g, Since V W → Blk W g 30 #[.string ⟨#[97]⟩, .string ⟨#[49]⟩] → Calls Tryd.prog 14 #[.slice (some ⟨g, 0, none⟩) 1 1] W fun e w' => e = .returned (.string (bs R1)) ∧ Since V w' ∧ Since W w'
  r2 : ∀ W g, Since V W → Blk W g 30 #[.string ⟨#[97]⟩, .string ⟨#[49]⟩, .string ⟨#[98]⟩, .string ⟨#[50]⟩] → Calls Tryd.prog 14 #[.slice (some ⟨g, 0, none⟩) 2 2] W fun e w' => e = .returned (.string (bs R2)) ∧ Since V w' ∧ Since W w'
  r0 : ∀ W, Since V W → Calls Tryd.prog 14 #[.slice none 0 0] W fun e w' => e = .returned (.string (bs R0)) ∧ Since V w' ∧ Since W w'
  p1 : ∀ W, Since V W → Calls Tryd.prog 15 #[.int .i64 1, .string (bs t1)] W fun e w' => e = .returned (.string (bs R1)) ∧ Since V w' ∧ Since W w'
  p2 : ∀ W, Since V W → Calls Tryd.prog 15 #[.int .i64 2, .string (bs n12)] W fun e w' => e = .returned (.string (bs R2)) ∧ Since V w' ∧ Since W w'
  p0 : ∀ W, Since V W → Calls Tryd.prog 15 #[.int .i64 0, .string ⟨#[]⟩] W fun e w' => e = .returned (.string (bs R0)) ∧ Since V w' ∧ Since W w'
  n : ∀ W, Since V W → Calls Tryd.prog 12 #[.string (bs t1), .string (bs t2)] W fun e w' => e = .returned (.string (bs n12)) ∧ Since V w' ∧ Since W w'
theorem split_at (n m : Int) (hn : n ≤ 100) (hk : (spl n.toNat : Int) = m) (W : World) : Calls Tryd.prog 17 #[.int .i64 n] W fun e w' => e = .returned (.int .i64 m) ∧ W = w' := by
  have h := splitC n W (by omega)
  rw [hk] at h
  exact h
theorem two_new (w : World) (a b c d : Value) : Blk ((w.alloc (.cells #[a, b] 30)).alloc (.cells #[c, d] 30)) w.heap.size 30 #[a, b] ∧ Blk ((w.alloc (.cells #[a, b] 30)).alloc (.cells #[c, d] 30)) (w.heap.size + 1) 30 #[c, d] ∧ Since w ((w.alloc (.cells #[a, b] 30)).alloc (.cells #[c, d] 30)) := by
  refine ⟨(Blk.new w _ _).alloc _, ?_, ((Since.refl w).alloc _).alloc _⟩
  have h := Blk.new (w.alloc (.cells #[a, b] 30)) 30 #[c, d]
  rwa [show (w.alloc (.cells #[a, b] 30)).heap.size = w.heap.size + 1 by simp] at h

set_option maxHeartbeats 4000000 in
set_option maxRecDepth 100000 in
theorem awake_this (w : World) (t1 t2 n12 R0 R1 R2 : List UInt8) (l1 : t1.length = 32) (hN : R0 ≠ R1) (H : ∀ V, Since w V → AwK V t1 t2 n12 R0 R1 R2) :
    Calls Tryd.prog 7 #[] w fun e w' => e = .returned (.bool true) ∧ Below w.heap.size w w' := by
  have hs1 : (bs t1).size = 32 := by rw [bs_size, l1]
  have hne := str_ne (fun e => hN (bs_inj e))
  have HH := Lib.hid H
  have H2 := Lib.hid (two_new w (.string ⟨#[97]⟩) (.string ⟨#[49]⟩) (.string ⟨#[98]⟩) (.string ⟨#[50]⟩))
  have HS5 := Lib.hid (split_at 5 4 (by omega) (by rw [show (5 : Int).toNat = 5 from rfl, spl_is 2 5 (by decide) (by decide) (by decide)]; rfl))
  have HS1 := Lib.hid (split_at 1 0 (by omega) rfl)
  have HS4 := Lib.hid (split_at 4 2 (by omega) (by rw [show (4 : Int).toNat = 4 from rfl, spl_is 1 4 (by decide) (by decide) (by decide)]; rfl))
  clear H l1 hN
  go_enter Tryd.func7, Tryd.ntmps7
  go_wp2
  generalize (w.alloc (.cells #[.string ⟨#[97]⟩, .string ⟨#[49]⟩] 30)).alloc (.cells #[.string ⟨#[98]⟩, .string ⟨#[50]⟩] 30) = V at *
  obtain ⟨bp, bq, sV⟩ := H2.out
  have hK := HH.out V sV
  have K1 := Lib.hid hK.l1
  have K2 := Lib.hid hK.l2
  have K3 := Lib.hid hK.r1
  have K4 := Lib.hid hK.r2
  have K5 := Lib.hid hK.r0
  have K6 := Lib.hid hK.p1
  have K7 := Lib.hid hK.p2
  have K8 := Lib.hid hK.p0
  have K9 := Lib.hid hK.n
  have K3b := K3
  have K5b := K5
  have c0 : V.cell? ⟨w.heap.size, 0, none⟩ = some (.string ⟨#[97]⟩) := bp.cell 0
  have c1 : V.cell? ⟨w.heap.size, 1, none⟩ = some (.string ⟨#[49]⟩) := bp.cell 1
  have c2 : V.cell? ⟨w.heap.size + 1, 0, none⟩ = some (.string ⟨#[98]⟩) := bq.cell 0
  have c3 : V.cell? ⟨w.heap.size + 1, 1, none⟩ = some (.string ⟨#[50]⟩) := bq.cell 1
  have r0 := Since.refl V
  clear hK HH H2 bp bq
  have SV := Lib.hid sV
  clear sV
  go_region_held3 (fun W => W.cell? ⟨w.heap.size, 0, none⟩ = some (.string ⟨#[97]⟩) ∧ W.cell? ⟨w.heap.size, 1, none⟩ = some (.string ⟨#[49]⟩) ∧ W.cell? ⟨w.heap.size + 1, 0, none⟩ = some (.string ⟨#[98]⟩) ∧ W.cell? ⟨w.heap.size + 1, 1, none⟩ = some (.string ⟨#[50]⟩))
    (first | go_keep | exact ⟨s1.cell c0, s1.cell c1, s1.cell c2, s1.cell c3⟩ | exact ⟨s2.cell c0, s2.cell c1, s2.cell c2, s2.cell c3⟩)
    (first
      | (go_at_call 9; refine (K1.out _ (by exact r0)).mono ?_; clear K1; rintro en w1 ⟨rfl, s1, q1⟩)
      | (go_at_call 9; refine (K2.out _ (by exact s1)).mono ?_; clear K2; rintro en w2 ⟨rfl, s2, q2⟩))
  go_wp2
  have SV2 := Lib.hid s2
  have d0 := s2.cell c0
  have d1 := s2.cell c1
  have d2 := s2.cell c2
  have d3 := s2.cell c3
  clear q1 q2 s1
  go_region_held3 (fun W => W.cell? ⟨w.heap.size, 0, none⟩ = some (.string ⟨#[97]⟩) ∧ W.cell? ⟨w.heap.size, 1, none⟩ = some (.string ⟨#[49]⟩) ∧ W.cell? ⟨w.heap.size + 1, 0, none⟩ = some (.string ⟨#[98]⟩) ∧ W.cell? ⟨w.heap.size + 1, 1, none⟩ = some (.string ⟨#[50]⟩))
    (first | exact ⟨s3.cell c0, s3.cell c1, s3.cell c2, s3.cell c3⟩ | exact ⟨s4.cell c0, s4.cell c1, s4.cell c2, s4.cell c3⟩ | exact ⟨s5.cell c0, s5.cell c1, s5.cell c2, s5.cell c3⟩ | exact ⟨s6.cell c0, s6.cell c1, s6.cell c2, s6.cell c3⟩ | exact ⟨s7.cell c0, s7.cell c1, s7.cell c2, s7.cell c3⟩ | exact ⟨s8.cell c0, s8.cell c1, s8.cell c2, s8.cell c3⟩ | exact ⟨s9.cell c0, s9.cell c1, s9.cell c2, s9.cell c3⟩ | exact ⟨s10.cell c0, s10.cell c1, s10.cell c2, s10.cell c3⟩ | exact ⟨s11.cell c0, s11.cell c1, s11.cell c2, s11.cell c3⟩ | go_keep)
    (first
      | (go_at_call 17; refine (HS5.out _).mono ?_; clear HS5; rintro en wx ⟨rfl, rfl⟩)
      | (go_at_call 17; refine (HS1.out _).mono ?_; clear HS1; rintro en wx ⟨rfl, rfl⟩)
      | (go_at_call 17; refine (HS4.out _).mono ?_; clear HS4; rintro en wx ⟨rfl, rfl⟩)
      | (go_at_call 14; refine (K3.out _ _ (by exact Since.alloc s2 _) (by exact Blk.new _ _ _)).mono ?_; clear K3; rintro en w3 ⟨rfl, s3, q3⟩)
      | (go_at_call 15; refine (K6.out _ (by exact s3)).mono ?_; clear K6; rintro en w4 ⟨rfl, s4, q4⟩)
      | (go_at_call 14; refine (K4.out _ _ (by exact Since.alloc s4 _) (by exact Blk.new _ _ _)).mono ?_; clear K4; rintro en w5 ⟨rfl, s5, q5⟩)
      | (go_at_call 12; refine (K9.out _ (by exact s5)).mono ?_; clear K9; rintro en w6 ⟨rfl, s6, q6⟩)
      | (go_at_call 15; refine (K7.out _ (by exact s6)).mono ?_; clear K7; rintro en w7 ⟨rfl, s7, q7⟩)
      | (go_at_call 14; refine (K5.out _ (by exact s7)).mono ?_; clear K5; rintro en w8 ⟨rfl, s8, q8⟩)
      | (go_at_call 15; refine (K8.out _ (by exact s8)).mono ?_; clear K8; rintro en w9 ⟨rfl, s9, q9⟩)
      | (go_at_call 14; refine (K5b.out _ (by first | exact s9 | exact Since.alloc s9 _)).mono ?_; clear K5b; rintro en w10 ⟨rfl, s10, q10⟩)
      | (go_at_call 14; refine (K3b.out _ _ (by first | exact s10 | exact Since.alloc s10 _) (by first | exact Blk.new _ _ _ | exact (Blk.new _ _ _).next q10.below)).mono ?_; rintro en w11 ⟨rfl, s11, q11⟩))
  all_goals go_wp2
  all_goals go_ret
  all_goals exact ⟨rfl, step_below SV.out.below s11.below⟩
end Go.Proofs.YtbfpepiglcikbaaDoor.W
