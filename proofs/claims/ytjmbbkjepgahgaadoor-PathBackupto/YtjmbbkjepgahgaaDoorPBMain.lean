/-
  The walk of footbridgelaw08.PathBack at two lists that are not empty: four ways, by the room of each list (one place, or more).
-/
import Derived.Test.YtjmbbkjepgahgaaDoorPAwake
import Derived.Test.YtjmbbkjepgahgaaDoorPBoth
import Derived.Deep.RegionHeld3
namespace Go.Proofs.YtjmbbkjepgahgaaDoor.pathBack
open Go.ChangeShapes Go.WideShapes Go.ChangeAt Go.RowKit
open W

theorem keys_alike (p q : ByteArray) (r t : List ByteArray) : ((bs (W.keyOf p r)).toList == (bs (W.keyOf q t)).toList) = decide (p :: r = q :: t) := by
  by_cases h : p :: r = q :: t
  · rw [decide_eq_true h]
    rw [List.cons.injEq] at h
    rw [h.1, h.2]
    simp
  · rw [decide_eq_false h]
    refine str_ne fun e => h ?_
    obtain ⟨e1, e2⟩ := key_inj (bs_inj e)
    have h1 : p = q := by rw [← bs_of p, e1, bs_of]
    have h2 : r = t := by rw [← map_data_bs r, e2, map_data_bs]
    rw [h1, h2]
set_option maxHeartbeats 4000000 in
set_option maxRecDepth 100000 in
theorem m00 (w : World) (hL : PLay w) (b off c : Nat) (p : ByteArray) (r : List ByteArray) (hT : Txs w w.heap.size (.slice (some ⟨b, off, none⟩) (r.length + 1) c) (p :: r)) (hc : r.length + 1 ≤ c) (hcn : ¬ ((1 : Nat) = c)) (hr : r.length + 1 ≤ 20) (ht : tot p r ≤ 2000000)
    (g ofg d : Nat) (q : ByteArray) (t : List ByteArray) (hU : Txs w w.heap.size (.slice (some ⟨g, ofg, none⟩) (t.length + 1) d) (q :: t)) (hd : t.length + 1 ≤ d) (hdn : ¬ ((1 : Nat) = d)) (hr2 : t.length + 1 ≤ 20) (hu : tot q t ≤ 2000000)
    (s : ByteArray) (hs : s.size ≤ 500) :
    Calls Tryd.prog 4 #[.slice (some ⟨b, off, none⟩) (r.length + 1) c, .slice (some ⟨g, ofg, none⟩) (t.length + 1) d, .string s] w fun e w' => e = .returned (.bool true) ∧ Below w.heap.size w w' := by
  obtain ⟨wd, ps, er, hA⟩ := ans_any s (by omega)
  have hl : tot wd ps ≤ 500 := by have := hA.tot; omega
  have HA := Lib.hid hA.prog
  have HB := Lib.hid hA.back
  clear hA
  have hkl := keyOf_len p r
  have HS := Lib.hid (ans_made (bs (W.keyOf p r)) p r rfl (by rw [bs_size]; omega)).prog
  have hq := keys_alike p q r t
  obtain ⟨c0, TR⟩ := Txs.tail (r := r) hT
  obtain ⟨d0, TU⟩ := Txs.tail (r := t) hU
  have TL : ∀ W, Since w W → Txs W W.heap.size (.slice (some ⟨b, off + 1, none⟩) r.length (c - 1)) r := fun W h => h.txs (TR _)
  have TM : ∀ W, Since w W → Txs W W.heap.size (.slice (some ⟨g, ofg + 1, none⟩) t.length (d - 1)) t := fun W h => h.txs (TU _)
  have HJ := Lib.hid (fun W (h : Since w W) => calls_since (pJoin p (.slice (some ⟨b, off + 1, none⟩) r.length (c - 1)) r W (hL.next h.below) (TL W h) (by omega)) h)
  have HK := Lib.hid (fun W (h : Since w W) => calls_since (pJoin q (.slice (some ⟨g, ofg + 1, none⟩) t.length (d - 1)) t W (hL.next h.below) (TM W h) (by omega)) h)
  have HX := Lib.hid (fun W (h : Since w W) => calls_since (texts (.slice (some ⟨b, off, none⟩) (r.length + 1) c) (.slice (some ⟨g, ofg, none⟩) (t.length + 1) d) (p :: r) (q :: t) W _ (h.txs hT) (h.txs hU) (Nat.le_refl _) (by simp; omega) (by simp; omega)) h)
  have HTL := Lib.hid TL
  have hs1 : decide ((500 : Int) < (s.size : Int)) = false := decide_eq_false (by omega)
  have hr1 : decide ((20 : Int) < (r.length : Int) + 1) = false := decide_eq_false (by omega)
  have hz : ((r.length : Int) + 1 == 0) = false := by rw [beq_eq_false_iff_ne]; omega
  have hp1 : (0 : Int) < (r.length : Int) + 1 := by omega
  have hp2 : (1 : Int) ≤ (r.length : Int) + 1 := by omega
  have hp4 : (r.length : Int) + 1 ≤ (c : Int) := by omega
  have hrl : r.length ≤ 9223372036854775807 := by omega
  have hcm : ¬ c = 1 := by omega
  have hr3 : decide ((20 : Int) < (t.length : Int) + 1) = false := decide_eq_false (by omega)
  have hz3 : ((t.length : Int) + 1 == 0) = false := by rw [beq_eq_false_iff_ne]; omega
  have hg1 : (0 : Int) < (t.length : Int) + 1 := by omega
  have hg2 : (1 : Int) ≤ (t.length : Int) + 1 := by omega
  have hg4 : (t.length : Int) + 1 ≤ (d : Int) := by omega
  have hdm : ¬ d = 1 := by omega
  have hpp : (p.toList == p.toList) = true := by simp
  clear hT hU TR TU TL TM hkl
  generalize bs (W.keyOf p r) = x at *
  generalize bs (W.keyOf q t) = y at *
  generalize decide ((p :: r) = (q :: t)) = z at *
  have hzz : (z != z) = false := by simp
  have s0 := Since.refl w
  go_enter Tryd.func4, Tryd.ntmps4
  go_wp2_with fail
  go_region_held3 (fun w' => w'.cell? ⟨b, off, none⟩ = some (.string p))
    (first | go_keep | exact bJ.cell c0)
    (first
      | (go_at_call 9; refine (HJ.out _ (by exact s0)).mono ?_; rintro en wJ ⟨rfl, bJ⟩)
      | fail)

  have hLJ := hL.next bJ.below
  go_wp2_with fail
  refine (HS.out wJ hLJ).mono ?_
  rintro en w1 ⟨v1, rfl, T1, b1⟩
  have bS := since_of (step_below bJ.below b1)
  have c1 := bS.cell c0
  have HT1 := Lib.hid (texts v1 (.slice (some ⟨b, off + 1, none⟩) r.length (c - 1)) r r w1 _ T1 (HTL.out w1 bS) (Nat.le_refl _) (hrl) (hrl))
  rw [decide_eq_true rfl] at HT1
  clear T1 b1 HTL HS bJ hLJ
  go_wp2_with fail
  refine HT1.out.mono ?_
  rintro en w2 ⟨rfl, b2⟩
  have bT := since_of (step_below bS.below b2)
  clear b2 HT1
  go_wp2_with fail
  have d2 := bT.cell d0
  go_region_held3 (fun w' => w'.cell? ⟨g, ofg, none⟩ = some (.string q))
    (first | go_keep | exact bX.cell d0 | exact bK.cell d0)
    (first
      | (go_at_call 9; refine (HK.out _ (by exact bT)).mono ?_; rintro en wK ⟨rfl, bK⟩)
      | (go_at_call 11; refine (HX.out _ (by exact bK)).mono ?_; rintro en wX ⟨rfl, bX⟩))
  have hLX := hL.next bX.below
  go_wp2_with fail
  refine (HA.out wX hLX).mono ?_
  rintro en w4 ⟨v4, rfl, T4, b4⟩
  have b5 := step_below bX.below b4
  have hL4 := hL.next b5
  clear b4 bX bK bT bS hLX
  rcases HB.out with ⟨rfl, hback⟩ | ⟨rfl, -⟩
  · have HY := Lib.hid (pJoin wd v4 ps w4 hL4 T4 (by omega))
    rw [hback] at HY
    have hss : (s.toList == s.toList) = true := by simp
    clear T4 hback HB
    go_wp2_with fail
    refine HY.out.mono ?_
    rintro en w6 ⟨rfl, b6⟩
    have b7 := step_below b5 b6
    go_wp2_with fail
    refine (awake08 w6 (hL4.next b6)).mono ?_
    rintro en w8 ⟨rfl, b8⟩
    have b9 := step_below b7 b8
    go_wp2
    go_ret
    exact ⟨rfl, b9⟩
  · clear HB
    go_wp2_with fail
    refine (awake08 w4 hL4).mono ?_
    rintro en w8 ⟨rfl, b8⟩
    have b9 := step_below b5 b8
    go_wp2
    go_ret
    exact ⟨rfl, b9⟩

set_option maxHeartbeats 4000000 in
set_option maxRecDepth 100000 in
theorem m01 (w : World) (hL : PLay w) (b off c : Nat) (p : ByteArray) (r : List ByteArray) (hT : Txs w w.heap.size (.slice (some ⟨b, off, none⟩) (r.length + 1) c) (p :: r)) (hc : r.length + 1 ≤ c) (hcn : ¬ ((1 : Nat) = c)) (hr : r.length + 1 ≤ 20) (ht : tot p r ≤ 2000000)
    (g ofg : Nat) (q : ByteArray) (hU : Txs w w.heap.size (.slice (some ⟨g, ofg, none⟩) 1 1) [q]) (hu : tot q [] ≤ 2000000)
    (s : ByteArray) (hs : s.size ≤ 500) :
    Calls Tryd.prog 4 #[.slice (some ⟨b, off, none⟩) (r.length + 1) c, .slice (some ⟨g, ofg, none⟩) 1 1, .string s] w fun e w' => e = .returned (.bool true) ∧ Below w.heap.size w w' := by
  obtain ⟨wd, ps, er, hA⟩ := ans_any s (by omega)
  have hl : tot wd ps ≤ 500 := by have := hA.tot; omega
  have HA := Lib.hid hA.prog
  have HB := Lib.hid hA.back
  clear hA
  have hkl := keyOf_len p r
  have HS := Lib.hid (ans_made (bs (W.keyOf p r)) p r rfl (by rw [bs_size]; omega)).prog
  have hq := keys_alike p q r []
  obtain ⟨c0, TR⟩ := Txs.tail (r := r) hT
  obtain ⟨d0, TU⟩ := Txs.tail (r := []) hU
  have TL : ∀ W, Since w W → Txs W W.heap.size (.slice (some ⟨b, off + 1, none⟩) r.length (c - 1)) r := fun W h => h.txs (TR _)
  have TM : ∀ W, Since w W → Txs W W.heap.size (.slice (some ⟨g, ofg, none⟩) 0 0) [] := fun W h => Txs.nil _ _ _ _
  have HJ := Lib.hid (fun W (h : Since w W) => calls_since (pJoin p (.slice (some ⟨b, off + 1, none⟩) r.length (c - 1)) r W (hL.next h.below) (TL W h) (by omega)) h)
  have HK := Lib.hid (fun W (h : Since w W) => calls_since (pJoin q (.slice (some ⟨g, ofg, none⟩) 0 0) [] W (hL.next h.below) (TM W h) (by omega)) h)
  have HX := Lib.hid (fun W (h : Since w W) => calls_since (texts (.slice (some ⟨b, off, none⟩) (r.length + 1) c) (.slice (some ⟨g, ofg, none⟩) 1 1) (p :: r) [q] W _ (h.txs hT) (h.txs hU) (Nat.le_refl _) (by simp; omega) (by simp)) h)
  have HTL := Lib.hid TL
  have hs1 : decide ((500 : Int) < (s.size : Int)) = false := decide_eq_false (by omega)
  have hr1 : decide ((20 : Int) < (r.length : Int) + 1) = false := decide_eq_false (by omega)
  have hz : ((r.length : Int) + 1 == 0) = false := by rw [beq_eq_false_iff_ne]; omega
  have hp1 : (0 : Int) < (r.length : Int) + 1 := by omega
  have hp2 : (1 : Int) ≤ (r.length : Int) + 1 := by omega
  have hp4 : (r.length : Int) + 1 ≤ (c : Int) := by omega
  have hrl : r.length ≤ 9223372036854775807 := by omega
  have hcm : ¬ c = 1 := by omega
  have hpp : (p.toList == p.toList) = true := by simp
  clear hT hU TR TU TL TM hkl
  generalize bs (W.keyOf p r) = x at *
  generalize bs (W.keyOf q []) = y at *
  generalize decide ((p :: r) = [q]) = z at *
  have hzz : (z != z) = false := by simp
  have s0 := Since.refl w
  go_enter Tryd.func4, Tryd.ntmps4
  go_wp2_with fail
  go_region_held3 (fun w' => w'.cell? ⟨b, off, none⟩ = some (.string p))
    (first | go_keep | exact bJ.cell c0)
    (first
      | (go_at_call 9; refine (HJ.out _ (by exact s0)).mono ?_; rintro en wJ ⟨rfl, bJ⟩)
      | fail)

  have hLJ := hL.next bJ.below
  go_wp2_with fail
  refine (HS.out wJ hLJ).mono ?_
  rintro en w1 ⟨v1, rfl, T1, b1⟩
  have bS := since_of (step_below bJ.below b1)
  have c1 := bS.cell c0
  have HT1 := Lib.hid (texts v1 (.slice (some ⟨b, off + 1, none⟩) r.length (c - 1)) r r w1 _ T1 (HTL.out w1 bS) (Nat.le_refl _) (hrl) (hrl))
  rw [decide_eq_true rfl] at HT1
  clear T1 b1 HTL HS bJ hLJ
  go_wp2_with fail
  refine HT1.out.mono ?_
  rintro en w2 ⟨rfl, b2⟩
  have bT := since_of (step_below bS.below b2)
  clear b2 HT1
  go_wp2_with fail
  have d2 := bT.cell d0
  go_region_held3 (fun w' => w'.cell? ⟨g, ofg, none⟩ = some (.string q))
    (first | go_keep | exact bX.cell d0 | exact bK.cell d0)
    (first
      | (go_at_call 9; refine (HK.out _ (by exact bT)).mono ?_; rintro en wK ⟨rfl, bK⟩)
      | (go_at_call 11; refine (HX.out _ (by exact bK)).mono ?_; rintro en wX ⟨rfl, bX⟩))
  have hLX := hL.next bX.below
  go_wp2_with fail
  refine (HA.out wX hLX).mono ?_
  rintro en w4 ⟨v4, rfl, T4, b4⟩
  have b5 := step_below bX.below b4
  have hL4 := hL.next b5
  clear b4 bX bK bT bS hLX
  rcases HB.out with ⟨rfl, hback⟩ | ⟨rfl, -⟩
  · have HY := Lib.hid (pJoin wd v4 ps w4 hL4 T4 (by omega))
    rw [hback] at HY
    have hss : (s.toList == s.toList) = true := by simp
    clear T4 hback HB
    go_wp2_with fail
    refine HY.out.mono ?_
    rintro en w6 ⟨rfl, b6⟩
    have b7 := step_below b5 b6
    go_wp2_with fail
    refine (awake08 w6 (hL4.next b6)).mono ?_
    rintro en w8 ⟨rfl, b8⟩
    have b9 := step_below b7 b8
    go_wp2
    go_ret
    exact ⟨rfl, b9⟩
  · clear HB
    go_wp2_with fail
    refine (awake08 w4 hL4).mono ?_
    rintro en w8 ⟨rfl, b8⟩
    have b9 := step_below b5 b8
    go_wp2
    go_ret
    exact ⟨rfl, b9⟩

set_option maxHeartbeats 4000000 in
set_option maxRecDepth 100000 in
theorem m10 (w : World) (hL : PLay w) (b off : Nat) (p : ByteArray) (hT : Txs w w.heap.size (.slice (some ⟨b, off, none⟩) 1 1) [p]) (ht : tot p [] ≤ 2000000)
    (g ofg d : Nat) (q : ByteArray) (t : List ByteArray) (hU : Txs w w.heap.size (.slice (some ⟨g, ofg, none⟩) (t.length + 1) d) (q :: t)) (hd : t.length + 1 ≤ d) (hdn : ¬ ((1 : Nat) = d)) (hr2 : t.length + 1 ≤ 20) (hu : tot q t ≤ 2000000)
    (s : ByteArray) (hs : s.size ≤ 500) :
    Calls Tryd.prog 4 #[.slice (some ⟨b, off, none⟩) 1 1, .slice (some ⟨g, ofg, none⟩) (t.length + 1) d, .string s] w fun e w' => e = .returned (.bool true) ∧ Below w.heap.size w w' := by
  obtain ⟨wd, ps, er, hA⟩ := ans_any s (by omega)
  have hl : tot wd ps ≤ 500 := by have := hA.tot; omega
  have HA := Lib.hid hA.prog
  have HB := Lib.hid hA.back
  clear hA
  have hkl := keyOf_len p []
  have HS := Lib.hid (ans_made (bs (W.keyOf p [])) p [] rfl (by rw [bs_size]; omega)).prog
  have hq := keys_alike p q [] t
  obtain ⟨c0, TR⟩ := Txs.tail (r := []) hT
  obtain ⟨d0, TU⟩ := Txs.tail (r := t) hU
  have TL : ∀ W, Since w W → Txs W W.heap.size (.slice (some ⟨b, off, none⟩) 0 0) [] := fun W h => Txs.nil _ _ _ _
  have TM : ∀ W, Since w W → Txs W W.heap.size (.slice (some ⟨g, ofg + 1, none⟩) t.length (d - 1)) t := fun W h => h.txs (TU _)
  have HJ := Lib.hid (fun W (h : Since w W) => calls_since (pJoin p (.slice (some ⟨b, off, none⟩) 0 0) [] W (hL.next h.below) (TL W h) (by omega)) h)
  have HK := Lib.hid (fun W (h : Since w W) => calls_since (pJoin q (.slice (some ⟨g, ofg + 1, none⟩) t.length (d - 1)) t W (hL.next h.below) (TM W h) (by omega)) h)
  have HX := Lib.hid (fun W (h : Since w W) => calls_since (texts (.slice (some ⟨b, off, none⟩) 1 1) (.slice (some ⟨g, ofg, none⟩) (t.length + 1) d) [p] (q :: t) W _ (h.txs hT) (h.txs hU) (Nat.le_refl _) (by simp) (by simp; omega)) h)
  have HTL := Lib.hid TL
  have hs1 : decide ((500 : Int) < (s.size : Int)) = false := decide_eq_false (by omega)
  have hr3 : decide ((20 : Int) < (t.length : Int) + 1) = false := decide_eq_false (by omega)
  have hz3 : ((t.length : Int) + 1 == 0) = false := by rw [beq_eq_false_iff_ne]; omega
  have hg1 : (0 : Int) < (t.length : Int) + 1 := by omega
  have hg2 : (1 : Int) ≤ (t.length : Int) + 1 := by omega
  have hg4 : (t.length : Int) + 1 ≤ (d : Int) := by omega
  have hdm : ¬ d = 1 := by omega
  have hpp : (p.toList == p.toList) = true := by simp
  clear hT hU TR TU TL TM hkl
  generalize bs (W.keyOf p []) = x at *
  generalize bs (W.keyOf q t) = y at *
  generalize decide ([p] = (q :: t)) = z at *
  have hzz : (z != z) = false := by simp
  have s0 := Since.refl w
  go_enter Tryd.func4, Tryd.ntmps4
  go_wp2_with fail
  go_region_held3 (fun w' => w'.cell? ⟨b, off, none⟩ = some (.string p))
    (first | go_keep | exact bJ.cell c0)
    (first
      | (go_at_call 9; refine (HJ.out _ (by exact s0)).mono ?_; rintro en wJ ⟨rfl, bJ⟩)
      | fail)

  have hLJ := hL.next bJ.below
  go_wp2_with fail
  refine (HS.out wJ hLJ).mono ?_
  rintro en w1 ⟨v1, rfl, T1, b1⟩
  have bS := since_of (step_below bJ.below b1)
  have c1 := bS.cell c0
  have HT1 := Lib.hid (texts v1 (.slice (some ⟨b, off, none⟩) 0 0) [] [] w1 _ T1 (HTL.out w1 bS) (Nat.le_refl _) (by simp) (by simp))
  rw [decide_eq_true rfl] at HT1
  clear T1 b1 HTL HS bJ hLJ
  go_wp2_with fail
  refine HT1.out.mono ?_
  rintro en w2 ⟨rfl, b2⟩
  have bT := since_of (step_below bS.below b2)
  clear b2 HT1
  go_wp2_with fail
  have d2 := bT.cell d0
  go_region_held3 (fun w' => w'.cell? ⟨g, ofg, none⟩ = some (.string q))
    (first | go_keep | exact bX.cell d0 | exact bK.cell d0)
    (first
      | (go_at_call 9; refine (HK.out _ (by exact bT)).mono ?_; rintro en wK ⟨rfl, bK⟩)
      | (go_at_call 11; refine (HX.out _ (by exact bK)).mono ?_; rintro en wX ⟨rfl, bX⟩))
  have hLX := hL.next bX.below
  go_wp2_with fail
  refine (HA.out wX hLX).mono ?_
  rintro en w4 ⟨v4, rfl, T4, b4⟩
  have b5 := step_below bX.below b4
  have hL4 := hL.next b5
  clear b4 bX bK bT bS hLX
  rcases HB.out with ⟨rfl, hback⟩ | ⟨rfl, -⟩
  · have HY := Lib.hid (pJoin wd v4 ps w4 hL4 T4 (by omega))
    rw [hback] at HY
    have hss : (s.toList == s.toList) = true := by simp
    clear T4 hback HB
    go_wp2_with fail
    refine HY.out.mono ?_
    rintro en w6 ⟨rfl, b6⟩
    have b7 := step_below b5 b6
    go_wp2_with fail
    refine (awake08 w6 (hL4.next b6)).mono ?_
    rintro en w8 ⟨rfl, b8⟩
    have b9 := step_below b7 b8
    go_wp2
    go_ret
    exact ⟨rfl, b9⟩
  · clear HB
    go_wp2_with fail
    refine (awake08 w4 hL4).mono ?_
    rintro en w8 ⟨rfl, b8⟩
    have b9 := step_below b5 b8
    go_wp2
    go_ret
    exact ⟨rfl, b9⟩

set_option maxHeartbeats 4000000 in
set_option maxRecDepth 100000 in
theorem m11 (w : World) (hL : PLay w) (b off : Nat) (p : ByteArray) (hT : Txs w w.heap.size (.slice (some ⟨b, off, none⟩) 1 1) [p]) (ht : tot p [] ≤ 2000000)
    (g ofg : Nat) (q : ByteArray) (hU : Txs w w.heap.size (.slice (some ⟨g, ofg, none⟩) 1 1) [q]) (hu : tot q [] ≤ 2000000)
    (s : ByteArray) (hs : s.size ≤ 500) :
    Calls Tryd.prog 4 #[.slice (some ⟨b, off, none⟩) 1 1, .slice (some ⟨g, ofg, none⟩) 1 1, .string s] w fun e w' => e = .returned (.bool true) ∧ Below w.heap.size w w' := by
  obtain ⟨wd, ps, er, hA⟩ := ans_any s (by omega)
  have hl : tot wd ps ≤ 500 := by have := hA.tot; omega
  have HA := Lib.hid hA.prog
  have HB := Lib.hid hA.back
  clear hA
  have hkl := keyOf_len p []
  have HS := Lib.hid (ans_made (bs (W.keyOf p [])) p [] rfl (by rw [bs_size]; omega)).prog
  have hq := keys_alike p q [] []
  obtain ⟨c0, TR⟩ := Txs.tail (r := []) hT
  obtain ⟨d0, TU⟩ := Txs.tail (r := []) hU
  have TL : ∀ W, Since w W → Txs W W.heap.size (.slice (some ⟨b, off, none⟩) 0 0) [] := fun W h => Txs.nil _ _ _ _
  have TM : ∀ W, Since w W → Txs W W.heap.size (.slice (some ⟨g, ofg, none⟩) 0 0) [] := fun W h => Txs.nil _ _ _ _
  have HJ := Lib.hid (fun W (h : Since w W) => calls_since (pJoin p (.slice (some ⟨b, off, none⟩) 0 0) [] W (hL.next h.below) (TL W h) (by omega)) h)
  have HK := Lib.hid (fun W (h : Since w W) => calls_since (pJoin q (.slice (some ⟨g, ofg, none⟩) 0 0) [] W (hL.next h.below) (TM W h) (by omega)) h)
  have HX := Lib.hid (fun W (h : Since w W) => calls_since (texts (.slice (some ⟨b, off, none⟩) 1 1) (.slice (some ⟨g, ofg, none⟩) 1 1) [p] [q] W _ (h.txs hT) (h.txs hU) (Nat.le_refl _) (by simp) (by simp)) h)
  have HTL := Lib.hid TL
  have hs1 : decide ((500 : Int) < (s.size : Int)) = false := decide_eq_false (by omega)
  have hpp : (p.toList == p.toList) = true := by simp
  clear hT hU TR TU TL TM hkl
  generalize bs (W.keyOf p []) = x at *
  generalize bs (W.keyOf q []) = y at *
  generalize decide ([p] = [q]) = z at *
  have hzz : (z != z) = false := by simp
  have s0 := Since.refl w
  go_enter Tryd.func4, Tryd.ntmps4
  go_wp2_with fail
  go_region_held3 (fun w' => w'.cell? ⟨b, off, none⟩ = some (.string p))
    (first | go_keep | exact bJ.cell c0)
    (first
      | (go_at_call 9; refine (HJ.out _ (by exact s0)).mono ?_; rintro en wJ ⟨rfl, bJ⟩)
      | fail)

  have hLJ := hL.next bJ.below
  go_wp2_with fail
  refine (HS.out wJ hLJ).mono ?_
  rintro en w1 ⟨v1, rfl, T1, b1⟩
  have bS := since_of (step_below bJ.below b1)
  have c1 := bS.cell c0
  have HT1 := Lib.hid (texts v1 (.slice (some ⟨b, off, none⟩) 0 0) [] [] w1 _ T1 (HTL.out w1 bS) (Nat.le_refl _) (by simp) (by simp))
  rw [decide_eq_true rfl] at HT1
  clear T1 b1 HTL HS bJ hLJ
  go_wp2_with fail
  refine HT1.out.mono ?_
  rintro en w2 ⟨rfl, b2⟩
  have bT := since_of (step_below bS.below b2)
  clear b2 HT1
  go_wp2_with fail
  have d2 := bT.cell d0
  go_region_held3 (fun w' => w'.cell? ⟨g, ofg, none⟩ = some (.string q))
    (first | go_keep | exact bX.cell d0 | exact bK.cell d0)
    (first
      | (go_at_call 9; refine (HK.out _ (by exact bT)).mono ?_; rintro en wK ⟨rfl, bK⟩)
      | (go_at_call 11; refine (HX.out _ (by exact bK)).mono ?_; rintro en wX ⟨rfl, bX⟩))
  have hLX := hL.next bX.below
  go_wp2_with fail
  refine (HA.out wX hLX).mono ?_
  rintro en w4 ⟨v4, rfl, T4, b4⟩
  have b5 := step_below bX.below b4
  have hL4 := hL.next b5
  clear b4 bX bK bT bS hLX
  rcases HB.out with ⟨rfl, hback⟩ | ⟨rfl, -⟩
  · have HY := Lib.hid (pJoin wd v4 ps w4 hL4 T4 (by omega))
    rw [hback] at HY
    have hss : (s.toList == s.toList) = true := by simp
    clear T4 hback HB
    go_wp2_with fail
    refine HY.out.mono ?_
    rintro en w6 ⟨rfl, b6⟩
    have b7 := step_below b5 b6
    go_wp2_with fail
    refine (awake08 w6 (hL4.next b6)).mono ?_
    rintro en w8 ⟨rfl, b8⟩
    have b9 := step_below b7 b8
    go_wp2
    go_ret
    exact ⟨rfl, b9⟩
  · clear HB
    go_wp2_with fail
    refine (awake08 w4 hL4).mono ?_
    rintro en w8 ⟨rfl, b8⟩
    have b9 := step_below b5 b8
    go_wp2
    go_ret
    exact ⟨rfl, b9⟩

end Go.Proofs.YtjmbbkjepgahgaaDoor.pathBack
