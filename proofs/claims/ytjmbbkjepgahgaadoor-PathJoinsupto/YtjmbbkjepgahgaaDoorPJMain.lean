/-
  The walk of footbridgelaw08.PathJoins at a list that is not empty.
-/
import Derived.Test.YtjmbbkjepgahgaaDoorPAwake
import Derived.Test.YtjmbbkjepgahgaaDoorPBoth
import Derived.Deep.RegionHeld3
namespace Go.Proofs.YtjmbbkjepgahgaaDoor.pathJoins
open Go.ChangeShapes Go.WideShapes Go.ChangeAt Go.RowKit
open Go.ChangeMaps (open_string shut_string)
open W

set_option maxHeartbeats 4000000 in
set_option maxRecDepth 100000 in
theorem main (w : World) (hL : PLay w) (b off c : Nat) (p : ByteArray) (r : List ByteArray) (hT : Txs w w.heap.size (.slice (some ⟨b, off, none⟩) (r.length + 1) c) (p :: r)) (hc : r.length + 1 ≤ c) (hr : r.length + 1 ≤ 20) (ht : tot p r ≤ 10000000)
    (s : ByteArray) (hs : s.size ≤ 500) (n : Int) :
    Calls Tryd.prog 3 #[.slice (some ⟨b, off, none⟩) (r.length + 1) c, .string s, .int .i64 n] w fun e w' => e = .returned (.bool true) ∧ Below w.heap.size w w' := by
  obtain ⟨wd, ps, er, hA⟩ := ans_any s (by omega)
  have H1 := Lib.hid hA.prog
  have H2 := Lib.hid hA.ref
  have hl : ps.length ≤ 500 := by have := hA.tot; unfold tot at this; omega
  clear hA
  have hr1 : decide ((20 : Int) < (r.length : Int) + 1) = false := decide_eq_false (by omega)
  have hs1 : decide ((500 : Int) < (s.size : Int)) = false := decide_eq_false (by omega)
  have hz : ((r.length : Int) + 1 == 0) = false := by rw [beq_eq_false_iff_ne]; omega
  have HT := Lib.hid hT
  have HTT := Lib.hid ht
  clear hT ht
  go_enter Tryd.func3, Tryd.ntmps3
  go_wp2_with fail
  refine (H1.out w hL).mono ?_
  rintro e w1 ⟨v1, rfl, T1, b1⟩
  go_wp2_with fail
  refine (H2.out w1).mono ?_
  rintro e w2 ⟨v2, rfl, T2, b2⟩
  replace T1 := (T1.below b2).more b2.size
  replace b2 := step_below b1 b2
  clear b1
  have hL2 := hL.next b2
  obtain ⟨c0, TR⟩ := ((HT.out.below b2).more b2.size).tail
  have HX := Lib.hid (fun W (h : Since w2 W) => calls_since (texts v1 v2 ps ps W _ (h.txs T1) (h.txs T2) (Nat.le_refl _) (by omega) (by omega)) h)
  have HN := Lib.hid (fun W (h : Since w2 W) => calls_since (pNumber n W (hL2.next h.below)) h)
  have HM := Lib.hid (fun W (h : Since w2 W) => calls_since (rNumber n W) h)
  have HW := Lib.hid (fun W (h : Since w2 W) => calls_since (awake08 W (hL2.next h.below)) h)
  rw [decide_eq_true rfl] at HX
  have HTR := Lib.hid TR
  clear T1 T2 H1 H2 HT TR
  generalize bs (lowd 14 (clamp n)) = z at *
  have hp1 : (0 : Int) < (r.length : Int) + 1 := by omega
  have hp2 : (1 : Int) ≤ (r.length : Int) + 1 := by omega
  have hp4 : (r.length : Int) + 1 ≤ (c : Int) := by omega
  have hee : (wd.toList == wd.toList) = true := by simp
  have hzz : (z.toList == z.toList) = true := by simp
  have hrr : (er == er) = true := by simp
  go_wp2_with fail
  by_cases hcc : c = 1
  · subst hcc
    obtain rfl : r = [] := List.eq_nil_of_length_eq_zero (by omega)
    have HJ := Lib.hid (fun W (h : Since w2 W) => calls_since (pJoin p (.slice (some ⟨b, off, none⟩) 0 0) [] W (hL2.next h.below) (Txs.nil _ _ _ _) HTT.out) h)
    have HR := Lib.hid (fun W (h : Since w2 W) => calls_since (rJoin p (.slice (some ⟨b, off, none⟩) 0 0) [] W (Txs.nil _ _ _ _) HTT.out) h)
    generalize bs (W.keyOf p []) = q at *
    have hqq : (q.toList == q.toList) = true := by simp
    have s0 := Since.refl w2
    go_region_held3 (fun w' => w'.cell? ⟨b, off, none⟩ = some (.string p))
      (first | go_keep | exact bA.cell c0 | exact bM.cell c0 | exact bN.cell c0 | exact bX.cell c0 | exact bR.cell c0 | exact bJ.cell c0)
      (first
        | (go_at_call 9; refine (HJ.out _ (by exact s0)).mono ?_; rintro en wJ ⟨rfl, bJ⟩)
        | (go_at_call 10; refine (HR.out _ (by exact bJ)).mono ?_; rintro en wR ⟨rfl, bR⟩)
        | (go_at_call 11; refine (HX.out _ (by exact bR)).mono ?_; rintro en wX ⟨rfl, bX⟩)
        | (go_at_call 12; refine (HN.out _ (by exact bX)).mono ?_; rintro en wN ⟨rfl, bN⟩)
        | (go_at_call 13; refine (HM.out _ (by exact bN)).mono ?_; rintro en wM ⟨rfl, bM⟩)
        | (go_at_call 6; refine (HW.out _ (by exact bM)).mono ?_; rintro en wA ⟨rfl, bA⟩))
    go_wp2
    go_ret
    exact ⟨rfl, step_below b2 bA.below⟩
  · have hc2 : ¬ ((1 : Nat) = c) := fun e => hcc e.symm
    have HJ := Lib.hid (fun W (h : Since w2 W) => calls_since (pJoin p (.slice (some ⟨b, off + 1, none⟩) r.length (c - 1)) r W (hL2.next h.below) (h.txs (HTR.out _)) HTT.out) h)
    have HR := Lib.hid (fun W (h : Since w2 W) => calls_since (rJoin p (.slice (some ⟨b, off + 1, none⟩) r.length (c - 1)) r W (h.txs (HTR.out _)) HTT.out) h)
    generalize bs (W.keyOf p r) = q at *
    have hqq : (q.toList == q.toList) = true := by simp
    have s0 := Since.refl w2
    go_region_held3 (fun w' => w'.cell? ⟨b, off, none⟩ = some (.string p))
      (first | go_keep | exact bA.cell c0 | exact bM.cell c0 | exact bN.cell c0 | exact bX.cell c0 | exact bR.cell c0 | exact bJ.cell c0)
      (first
        | (go_at_call 9; refine (HJ.out _ (by exact s0)).mono ?_; rintro en wJ ⟨rfl, bJ⟩)
        | (go_at_call 10; refine (HR.out _ (by exact bJ)).mono ?_; rintro en wR ⟨rfl, bR⟩)
        | (go_at_call 11; refine (HX.out _ (by exact bR)).mono ?_; rintro en wX ⟨rfl, bX⟩)
        | (go_at_call 12; refine (HN.out _ (by exact bX)).mono ?_; rintro en wN ⟨rfl, bN⟩)
        | (go_at_call 13; refine (HM.out _ (by exact bN)).mono ?_; rintro en wM ⟨rfl, bM⟩)
        | (go_at_call 6; refine (HW.out _ (by exact bM)).mono ?_; rintro en wA ⟨rfl, bA⟩))
    go_wp2
    go_ret
    exact ⟨rfl, step_below b2 bA.below⟩

end Go.Proofs.YtjmbbkjepgahgaaDoor.pathJoins
