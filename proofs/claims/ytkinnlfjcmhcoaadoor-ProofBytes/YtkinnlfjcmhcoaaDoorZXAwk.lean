/-
  footbridgelaw12.awake answers true.
-/
import Derived.Test.YtkinnlfjcmhcoaaDoorZ0c
import Derived.Test.YtkinnlfjcmhcoaaDoorZ0e
import Derived.Test.YtkinnlfjcmhcoaaDoorZ1a
import Derived.Test.YtkinnlfjcmhcoaaDoorZ0f
namespace Go.Proofs.YtkinnlfjcmhcoaaDoor.W
open Go.RowKit

abbrev lBlk (W : World) (g : Nat) : Prop := Blk W g 32 #[.string ⟨#[97]⟩, .string ⟨#[49]⟩, .string ⟨#[99]⟩, .string ⟨#[50]⟩]
abbrev pv5 (n pos : Int) (t : Bool) (A1 : Option Addr) (m c1 : Nat) (A2 : Option Addr) (k c2 : Nat) : Value := .agg #[.int .i64 n, .int .i64 pos, .bool t, .slice A1 m c1, .slice A2 k c2]
/-- what the calls of the law's examples answer, in any world since V -/
structure Aw12 (V : World) (x y z : Pf) (R R0 : List UInt8) (s : ByteArray) : Prop where
  bx : ∀ W g, Since V W → lBlk W g → Calls Tryd.prog 11 #[.slice (some ⟨g, 0, none⟩) 2 2, .string ⟨#[98]⟩] W fun e w' => ∃ A1 c1 A2 c2, e = .returned (pv5 2 1 false A1 2 c1 A2 2 c2) ∧ Prf w' (pv5 2 1 false A1 2 c1 A2 2 c2) x ∧ Since V w' ∧ Since W w'
  by_ : ∀ W g, Since V W → lBlk W g → Calls Tryd.prog 11 #[.slice (some ⟨g, 0, none⟩) 2 2, .string ⟨#[99]⟩] W fun e w' => ∃ A1 c1 A2 c2, e = .returned (pv5 2 1 true A1 0 c1 A2 1 c2) ∧ Prf w' (pv5 2 1 true A1 0 c1 A2 1 c2) y ∧ Since V w' ∧ Since W w'
  bz : ∀ W, Since V W → Calls Tryd.prog 11 #[.slice none 0 0, .string ⟨#[98]⟩] W fun e w' => ∃ A1 c1 A2 c2, e = .returned (pv5 0 0 false A1 0 c1 A2 0 c2) ∧ Prf w' (pv5 0 0 false A1 0 c1 A2 0 c2) z ∧ Since V w' ∧ Since W w'
  r : ∀ W g, Since V W → lBlk W g → Calls Tryd.prog 24 #[.slice (some ⟨g, 0, none⟩) 2 2] W fun e w' => e = .returned (.string (bs R)) ∧ Since V w' ∧ Since W w'
  r0 : ∀ W, Since V W → Calls Tryd.prog 24 #[.slice none 0 0] W fun e w' => e = .returned (.string (bs R0)) ∧ Since V w' ∧ Since W w'
  put : ∀ W v, Since V W → Prf W v x → Calls Tryd.prog 18 #[v] W fun e w' => e = .returned (.tuple #[.string s, .int .i64 0]) ∧ Since V w' ∧ Since W w'
  rd : ∀ W, Since V W → Calls Tryd.prog 20 #[.string s] W fun e w' => ∃ A1 c1 A2 c2, e = .returned (.tuple #[pv5 2 1 false A1 2 c1 A2 2 c2, .int .i64 0]) ∧ Prf w' (pv5 2 1 false A1 2 c1 A2 2 c2) x ∧ Since V w' ∧ Since W w'
  rx : ∀ W, Since V W → Calls Tryd.prog 20 #[.string (s ++ ⟨#[120]⟩)] W fun e w' => ∃ A1 c1 A2 c2, e = .returned (.tuple #[pv5 0 0 false A1 0 c1 A2 0 c2, .int .i64 6]) ∧ Since V w' ∧ Since W w'
  lb : ∀ W v, Since V W → Prf W v x → Calls Tryd.prog 17 #[.string (bs R), .string ⟨#[98]⟩, v] W fun e w' => e = .returned (.bool true) ∧ Since V w' ∧ Since W w'
  la : ∀ W v, Since V W → Prf W v x → Calls Tryd.prog 17 #[.string (bs R), .string ⟨#[97]⟩, v] W fun e w' => e = .returned (.bool false) ∧ Since V w' ∧ Since W w'
  lz : ∀ W v, Since V W → Prf W v z → Calls Tryd.prog 17 #[.string (bs R0), .string ⟨#[98]⟩, v] W fun e w' => e = .returned (.bool true) ∧ Since V w' ∧ Since W w'
  hc : ∀ W v, Since V W → Prf W v y → Calls Tryd.prog 16 #[.string (bs R), .agg #[.string ⟨#[99]⟩, .string ⟨#[50]⟩], v] W fun e w' => e = .returned (.bool true) ∧ Since V w' ∧ Since W w'
  ha : ∀ W v, Since V W → Prf W v y → Calls Tryd.prog 16 #[.string (bs R), .agg #[.string ⟨#[97]⟩, .string ⟨#[49]⟩], v] W fun e w' => e = .returned (.bool false) ∧ Since V w' ∧ Since W w'
  sm : ∀ W a b, Since V W → Prf W a x → Prf W b x → Calls Tryd.prog 10 #[a, b] W fun e w' => e = .returned (.bool true) ∧ Since V w' ∧ Since W w'

theorem new12 (w : World) (a b : Array Value) : Blk ((w.alloc (.cells a 28)).alloc (.cells b 28)) w.heap.size 28 a ∧ Blk ((w.alloc (.cells a 28)).alloc (.cells b 28)) (w.heap.size + 1) 28 b ∧ Since w ((w.alloc (.cells a 28)).alloc (.cells b 28)) := by
  have hb := ((Below.refl w.heap.size w).alloc (Nat.le_refl _) (.cells a 28))
  refine ⟨(Blk.new w _ _).alloc _, ?_, since_of (hb.alloc hb.size _)⟩
  have h := Blk.new (w.alloc (.cells a 28)) 28 b
  rwa [show (w.alloc (.cells a 28)).heap.size = w.heap.size + 1 by simp] at h
theorem new1 (w : World) (a : Array Value) : Blk (w.alloc (.cells a 28)) w.heap.size 28 a ∧ Since w (w.alloc (.cells a 28)) :=
  ⟨Blk.new w _ _, since_of ((Below.refl w.heap.size w).alloc (Nat.le_refl _) _)⟩
set_option maxHeartbeats 40000000 in
set_option maxRecDepth 100000 in
theorem awake_this (w : World) (x y z : Pf) (R R0 : List UInt8) (s : ByteArray) (hsz : s.size ≤ 100000000) (H : ∀ V, Since w V → Aw12 V x y z R R0 s) :
    Calls Tryd.prog 9 #[] w fun e w' => e = .returned (.bool true) ∧ Since w w' := by
  have HH := Lib.hid H
  have H2 := Lib.hid (Blk.new w 32 #[.string ⟨#[97]⟩, .string ⟨#[49]⟩, .string ⟨#[99]⟩, .string ⟨#[50]⟩])
  have HS := Lib.hid (since_of ((Below.refl _ w).alloc (Nat.le_refl _) (.cells #[.string ⟨#[97]⟩, .string ⟨#[49]⟩, .string ⟨#[99]⟩, .string ⟨#[50]⟩] 32)))
  clear H
  go_enter Tryd.func9, Tryd.ntmps9
  go_wp2_with fail
  generalize w.alloc (.cells #[.string ⟨#[97]⟩, .string ⟨#[49]⟩, .string ⟨#[99]⟩, .string ⟨#[50]⟩] 32) = V at *
  have hK := Lib.hid (HH.out V HS.out)
  refine (hK.out.bx _ _ (Since.refl V) H2.out).mono ?_
  rintro e w1 ⟨A1, c1, A2, c2, rfl, P1, s1, q1⟩
  have HP1 := Lib.hid P1
  have HS1 := Lib.hid s1
  clear P1 s1 q1
  go_wp2_with fail
  refine (hK.out.by_ _ _ HS1.out (H2.out.next HS1.out.below)).mono ?_
  rintro e w2 ⟨B1, d1, B2, d2, rfl, P2, s2, q2⟩
  have HP2 := Lib.hid P2
  have HP1' := Lib.hid (HP1.out.below q2.below)
  have HS2 := Lib.hid s2
  clear P2 s2 q2 HP1 HS1
  go_wp2_with fail
  obtain ⟨bX, bY, sV⟩ := new12 w2 #[.int .i64 2, .int .i64 1, .bool false, .slice A1 2 c1, .slice A2 2 c2] #[.int .i64 2, .int .i64 1, .bool true, .slice B1 0 d1, .slice B2 1 d2]
  generalize (w2.alloc (.cells #[.int .i64 2, .int .i64 1, .bool false, .slice A1 2 c1, .slice A2 2 c2] 28)).alloc (.cells #[.int .i64 2, .int .i64 1, .bool true, .slice B1 0 d1, .slice B2 1 d2] 28) = V3 at *
  have HX := Lib.hid bX
  have HY := Lib.hid bY
  have HL := Lib.hid ((H2.out.next HS2.out.below).next sV.below)
  have HPX := Lib.hid (HP1'.out.below sV.below)
  have HPY := Lib.hid (HP2.out.below sV.below)
  have HS3 := Lib.hid (since_of (step_below HS2.out.below sV.below))
  clear bX bY sV H2 HP1' HP2 HS2
  refine (hK.out.r _ _ HS3.out HL.out).mono ?_
  rintro e w3 ⟨rfl, s1, q⟩
  replace HX := Lib.hid (HX.out.next q.below)
  replace HY := Lib.hid (HY.out.next q.below)
  replace HL := Lib.hid (HL.out.next q.below)
  replace HPX := Lib.hid (HPX.out.below q.below)
  replace HPY := Lib.hid (HPY.out.below q.below)
  replace HS3 := Lib.hid s1
  clear s1 q
  have x0 : w3.cell? ⟨w2.heap.size, 0, none⟩ = some (.int .i64 2) := HX.out.cell 0
  have x1 : w3.cell? ⟨w2.heap.size, 1, none⟩ = some (.int .i64 1) := HX.out.cell 1
  have x2 : w3.cell? ⟨w2.heap.size, 2, none⟩ = some (.bool false) := HX.out.cell 2
  have x3 : w3.cell? ⟨w2.heap.size, 3, none⟩ = some (.slice A1 2 c1) := HX.out.cell 3
  have x4 : w3.cell? ⟨w2.heap.size, 4, none⟩ = some (.slice A2 2 c2) := HX.out.cell 4
  go_wp2_with fail
  clear x0 x1 x2 x3 x4
  refine (hK.out.put _ _ HS3.out HPX.out).mono ?_
  rintro e w4 ⟨rfl, s1, q⟩
  replace HX := Lib.hid (HX.out.next q.below)
  replace HY := Lib.hid (HY.out.next q.below)
  replace HL := Lib.hid (HL.out.next q.below)
  replace HPX := Lib.hid (HPX.out.below q.below)
  replace HPY := Lib.hid (HPY.out.below q.below)
  replace HS3 := Lib.hid s1
  clear s1 q
  go_wp2_with fail
  refine (hK.out.rd _ HS3.out).mono ?_
  rintro e w5 ⟨C1, e1, C2, e2, rfl, P3, s1, q⟩
  replace HX := Lib.hid (HX.out.next q.below)
  replace HY := Lib.hid (HY.out.next q.below)
  replace HL := Lib.hid (HL.out.next q.below)
  replace HPX := Lib.hid (HPX.out.below q.below)
  replace HPY := Lib.hid (HPY.out.below q.below)
  replace HS3 := Lib.hid s1
  clear s1 q
  have HPZ := Lib.hid P3
  clear P3
  go_wp2_with fail
  obtain ⟨bZ, sV⟩ := new1 w5 #[.int .i64 2, .int .i64 1, .bool false, .slice C1 2 e1, .slice C2 2 e2]
  generalize w5.alloc (.cells #[.int .i64 2, .int .i64 1, .bool false, .slice C1 2 e1, .slice C2 2 e2] 28) = V5 at *
  have HZ := Lib.hid bZ
  replace HX := Lib.hid (HX.out.next sV.below)
  replace HY := Lib.hid (HY.out.next sV.below)
  replace HL := Lib.hid (HL.out.next sV.below)
  replace HPX := Lib.hid (HPX.out.below sV.below)
  replace HPY := Lib.hid (HPY.out.below sV.below)
  replace HPZ := Lib.hid (HPZ.out.below sV.below)
  replace HS3 := Lib.hid (since_of (step_below HS3.out.below sV.below))
  clear bZ sV
  refine (hK.out.rx _ HS3.out).mono ?_
  rintro e w6 ⟨D1, f1, D2, f2, rfl, s1, q⟩
  replace HX := Lib.hid (HX.out.next q.below)
  replace HY := Lib.hid (HY.out.next q.below)
  replace HL := Lib.hid (HL.out.next q.below)
  replace HPX := Lib.hid (HPX.out.below q.below)
  replace HPY := Lib.hid (HPY.out.below q.below)
  replace HZ := Lib.hid (HZ.out.next q.below)
  replace HPZ := Lib.hid (HPZ.out.below q.below)
  replace HS3 := Lib.hid s1
  clear s1 q
  go_wp2_with fail
  obtain ⟨bU, sV⟩ := new1 w6 #[.int .i64 0, .int .i64 0, .bool false, .slice D1 0 f1, .slice D2 0 f2]
  generalize w6.alloc (.cells #[.int .i64 0, .int .i64 0, .bool false, .slice D1 0 f1, .slice D2 0 f2] 28) = V6 at *
  replace HX := Lib.hid (HX.out.next sV.below)
  replace HY := Lib.hid (HY.out.next sV.below)
  replace HZ := Lib.hid (HZ.out.next sV.below)
  replace HL := Lib.hid (HL.out.next sV.below)
  replace HPX := Lib.hid (HPX.out.below sV.below)
  replace HPY := Lib.hid (HPY.out.below sV.below)
  replace HPZ := Lib.hid (HPZ.out.below sV.below)
  have HSW := Lib.hid (since_of (step_below HS.out.below (since_of (step_below HS3.out.below sV.below)).below))
  clear bU sV hK HS3 HS
  have hK := HH.out V6 HSW.out
  have K1 := Lib.hid hK.lb
  have K2 := Lib.hid hK.la
  have K3 := Lib.hid hK.hc
  have K4 := Lib.hid hK.ha
  have K5 := Lib.hid hK.sm
  have K6 := Lib.hid hK.r0
  have K7 := Lib.hid hK.bz
  have K8 := Lib.hid hK.lz
  clear hK HH
  have r0 := Since.refl V6
  have l0 : V6.cell? ⟨w.heap.size, 0, none⟩ = some (.string ⟨#[97]⟩) := HL.out.cell 0
  have l1 : V6.cell? ⟨w.heap.size, 1, none⟩ = some (.string ⟨#[49]⟩) := HL.out.cell 1
  have l2 : V6.cell? ⟨w.heap.size, 2, none⟩ = some (.string ⟨#[99]⟩) := HL.out.cell 2
  have l3 : V6.cell? ⟨w.heap.size, 3, none⟩ = some (.string ⟨#[50]⟩) := HL.out.cell 3
  have x0 : V6.cell? ⟨w2.heap.size, 0, none⟩ = some (.int .i64 2) := HX.out.cell 0
  have x1 : V6.cell? ⟨w2.heap.size, 1, none⟩ = some (.int .i64 1) := HX.out.cell 1
  have x2 : V6.cell? ⟨w2.heap.size, 2, none⟩ = some (.bool false) := HX.out.cell 2
  have x3 : V6.cell? ⟨w2.heap.size, 3, none⟩ = some (.slice A1 2 c1) := HX.out.cell 3
  have x4 : V6.cell? ⟨w2.heap.size, 4, none⟩ = some (.slice A2 2 c2) := HX.out.cell 4
  have y0 : V6.cell? ⟨(w2.heap.size + 1), 0, none⟩ = some (.int .i64 2) := HY.out.cell 0
  have y1 : V6.cell? ⟨(w2.heap.size + 1), 1, none⟩ = some (.int .i64 1) := HY.out.cell 1
  have y2 : V6.cell? ⟨(w2.heap.size + 1), 2, none⟩ = some (.bool true) := HY.out.cell 2
  have y3 : V6.cell? ⟨(w2.heap.size + 1), 3, none⟩ = some (.slice B1 0 d1) := HY.out.cell 3
  have y4 : V6.cell? ⟨(w2.heap.size + 1), 4, none⟩ = some (.slice B2 1 d2) := HY.out.cell 4
  have z0 : V6.cell? ⟨w5.heap.size, 0, none⟩ = some (.int .i64 2) := HZ.out.cell 0
  have z1 : V6.cell? ⟨w5.heap.size, 1, none⟩ = some (.int .i64 1) := HZ.out.cell 1
  have z2 : V6.cell? ⟨w5.heap.size, 2, none⟩ = some (.bool false) := HZ.out.cell 2
  have z3 : V6.cell? ⟨w5.heap.size, 3, none⟩ = some (.slice C1 2 e1) := HZ.out.cell 3
  have z4 : V6.cell? ⟨w5.heap.size, 4, none⟩ = some (.slice C2 2 e2) := HZ.out.cell 4
  clear HL HX HY HZ
  simp only [List.append_eq, List.cons_append, List.nil_append]
  go_region_held3 (fun W => W.cell? ⟨w.heap.size, 0, none⟩ = some (.string ⟨#[97]⟩) ∧ W.cell? ⟨w.heap.size, 1, none⟩ = some (.string ⟨#[49]⟩) ∧ W.cell? ⟨w.heap.size, 2, none⟩ = some (.string ⟨#[99]⟩) ∧ W.cell? ⟨w.heap.size, 3, none⟩ = some (.string ⟨#[50]⟩) ∧ W.cell? ⟨w2.heap.size, 0, none⟩ = some (.int .i64 2) ∧ W.cell? ⟨w2.heap.size, 1, none⟩ = some (.int .i64 1) ∧ W.cell? ⟨w2.heap.size, 2, none⟩ = some (.bool false) ∧ W.cell? ⟨w2.heap.size, 3, none⟩ = some (.slice A1 2 c1) ∧ W.cell? ⟨w2.heap.size, 4, none⟩ = some (.slice A2 2 c2) ∧ W.cell? ⟨(w2.heap.size + 1), 0, none⟩ = some (.int .i64 2) ∧ W.cell? ⟨(w2.heap.size + 1), 1, none⟩ = some (.int .i64 1) ∧ W.cell? ⟨(w2.heap.size + 1), 2, none⟩ = some (.bool true) ∧ W.cell? ⟨(w2.heap.size + 1), 3, none⟩ = some (.slice B1 0 d1) ∧ W.cell? ⟨(w2.heap.size + 1), 4, none⟩ = some (.slice B2 1 d2) ∧ W.cell? ⟨w5.heap.size, 0, none⟩ = some (.int .i64 2) ∧ W.cell? ⟨w5.heap.size, 1, none⟩ = some (.int .i64 1) ∧ W.cell? ⟨w5.heap.size, 2, none⟩ = some (.bool false) ∧ W.cell? ⟨w5.heap.size, 3, none⟩ = some (.slice C1 2 e1) ∧ W.cell? ⟨w5.heap.size, 4, none⟩ = some (.slice C2 2 e2))
    (first | exact ⟨s7.cell l0, s7.cell l1, s7.cell l2, s7.cell l3, s7.cell x0, s7.cell x1, s7.cell x2, s7.cell x3, s7.cell x4, s7.cell y0, s7.cell y1, s7.cell y2, s7.cell y3, s7.cell y4, s7.cell z0, s7.cell z1, s7.cell z2, s7.cell z3, s7.cell z4⟩ | exact ⟨s8.cell l0, s8.cell l1, s8.cell l2, s8.cell l3, s8.cell x0, s8.cell x1, s8.cell x2, s8.cell x3, s8.cell x4, s8.cell y0, s8.cell y1, s8.cell y2, s8.cell y3, s8.cell y4, s8.cell z0, s8.cell z1, s8.cell z2, s8.cell z3, s8.cell z4⟩ | exact ⟨s9.cell l0, s9.cell l1, s9.cell l2, s9.cell l3, s9.cell x0, s9.cell x1, s9.cell x2, s9.cell x3, s9.cell x4, s9.cell y0, s9.cell y1, s9.cell y2, s9.cell y3, s9.cell y4, s9.cell z0, s9.cell z1, s9.cell z2, s9.cell z3, s9.cell z4⟩ | exact ⟨s10.cell l0, s10.cell l1, s10.cell l2, s10.cell l3, s10.cell x0, s10.cell x1, s10.cell x2, s10.cell x3, s10.cell x4, s10.cell y0, s10.cell y1, s10.cell y2, s10.cell y3, s10.cell y4, s10.cell z0, s10.cell z1, s10.cell z2, s10.cell z3, s10.cell z4⟩ | exact ⟨s11.cell l0, s11.cell l1, s11.cell l2, s11.cell l3, s11.cell x0, s11.cell x1, s11.cell x2, s11.cell x3, s11.cell x4, s11.cell y0, s11.cell y1, s11.cell y2, s11.cell y3, s11.cell y4, s11.cell z0, s11.cell z1, s11.cell z2, s11.cell z3, s11.cell z4⟩ | exact ⟨s12.cell l0, s12.cell l1, s12.cell l2, s12.cell l3, s12.cell x0, s12.cell x1, s12.cell x2, s12.cell x3, s12.cell x4, s12.cell y0, s12.cell y1, s12.cell y2, s12.cell y3, s12.cell y4, s12.cell z0, s12.cell z1, s12.cell z2, s12.cell z3, s12.cell z4⟩ | exact ⟨s13.cell l0, s13.cell l1, s13.cell l2, s13.cell l3, s13.cell x0, s13.cell x1, s13.cell x2, s13.cell x3, s13.cell x4, s13.cell y0, s13.cell y1, s13.cell y2, s13.cell y3, s13.cell y4, s13.cell z0, s13.cell z1, s13.cell z2, s13.cell z3, s13.cell z4⟩ | exact ⟨s14.cell l0, s14.cell l1, s14.cell l2, s14.cell l3, s14.cell x0, s14.cell x1, s14.cell x2, s14.cell x3, s14.cell x4, s14.cell y0, s14.cell y1, s14.cell y2, s14.cell y3, s14.cell y4, s14.cell z0, s14.cell z1, s14.cell z2, s14.cell z3, s14.cell z4⟩ | go_keep)
    (first
      | (go_at_call 17; refine (K1.out _ _ (by exact r0) (by exact HPX.out)).mono ?_; clear K1; rintro en w7 ⟨rfl, s7, q7⟩)
      | (go_at_call 17; refine (K2.out _ _ (by exact s7) (by exact HPX.out.below s7.below)).mono ?_; clear K2; rintro en w8 ⟨rfl, s8, q8⟩)
      | (go_at_call 16; refine (K3.out _ _ (by exact s8) (by exact HPY.out.below s8.below)).mono ?_; clear K3; rintro en w9 ⟨rfl, s9, q9⟩)
      | (go_at_call 16; refine (K4.out _ _ (by exact s9) (by exact HPY.out.below s9.below)).mono ?_; clear K4; rintro en w10 ⟨rfl, s10, q10⟩)
      | (go_at_call 10; refine (K5.out _ _ _ (by exact s10) (by exact HPZ.out.below s10.below) (by exact HPX.out.below s10.below)).mono ?_; clear K5; rintro en w11 ⟨rfl, s11, q11⟩)
      | (go_at_call 24; refine (K6.out _ (by exact s11)).mono ?_; clear K6; rintro en w12 ⟨rfl, s12, q12⟩)
      | (go_at_call 11; refine (K7.out _ (by exact s12)).mono ?_; clear K7; rintro en w13 ⟨E1, g1, E2, g2, rfl, P13, s13, q13⟩)
      | (go_at_call 17; refine (K8.out _ _ (by exact s13) (by exact P13)).mono ?_; clear K8; rintro en w14 ⟨rfl, s14, q14⟩))
  all_goals go_wp2
  all_goals go_ret
  all_goals exact ⟨rfl, since_of (step_below HSW.out.below s14.below)⟩
end Go.Proofs.YtkinnlfjcmhcoaaDoor.W
