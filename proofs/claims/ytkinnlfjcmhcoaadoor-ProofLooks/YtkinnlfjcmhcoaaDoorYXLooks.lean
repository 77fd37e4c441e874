/-
  footbridgelaw12.ProofLooks: the walk, over the calls' answers.
-/
import Derived.Test.YtkinnlfjcmhcoaaDoorYXBox
import Derived.Test.YtkinnlfjcmhcoaaDoorZ0f
namespace Go.Proofs.YtkinnlfjcmhcoaaDoor.W
open Go.RowKit

set_option maxHeartbeats 4000000 in
set_option maxRecDepth 100000 in
theorem looks_no (root : ByteArray) (p1 p2 : ByteArray) (n pos : Int) (t : Bool) (A1 : Option Addr) (m1 c1 : Nat) (A2 : Option Addr) (m2 c2 : Nat) (w : World) (sm : Bool) (hno : ¬ (sm = true ∧ root.size ≤ 100 ∧ p1.size ≤ 200 ∧ p2.size ≤ 200))
    (H0 : Hid (∀ W, Since w W → Calls Tryd.prog 13 #[.agg #[.int .i64 n, .int .i64 pos, .bool t, .slice A1 m1 c1, .slice A2 m2 c2]] W fun e w' => e = .returned (.bool sm) ∧ Since W w'))
    (H9 : Hid (∀ W, Since w W → Calls Tryd.prog 9 #[] W fun e w' => e = .returned (.bool true) ∧ Since W w'))
    : Calls Tryd.prog 4 #[.string root, .agg #[.string p1, .string p2], .agg #[.int .i64 n, .int .i64 pos, .bool t, .slice A1 m1 c1, .slice A2 m2 c2]] w fun e w' => e = .returned (.bool true) ∧ Since w w' := by
  have HB := Lib.hid (boxed w p1 p2 n pos t A1 m1 c1 A2 m2 c2)
  have z0 := HB.out.k0
  have z1 := HB.out.k1
  have z2 := HB.out.y0
  have z3 := HB.out.y1
  have z4 := HB.out.y2
  have z5 := HB.out.y3
  have z6 := HB.out.y4
  go_enter Tryd.func4, Tryd.ntmps4
  go_wp2_with fail
  generalize ((w.alloc (.cells #[.string p1, .string p2] 32)).alloc (.cells #[.int .i64 n, .int .i64 pos, .bool t, .slice A1 m1 c1, .slice A2 m2 c2] 28)) = V at *
  clear z0 z1 z2 z3 z4 z5 z6
  refine (H0.out V HB.out.s).mono ?_
  rintro e w1 ⟨rfl, s1⟩
  have HB1 := Lib.hid (HB.out.next s1)
  have z0 := HB1.out.k0
  have z1 := HB1.out.k1
  have z2 := HB1.out.y0
  have z3 := HB1.out.y1
  have z4 := HB1.out.y2
  have z5 := HB1.out.y3
  have z6 := HB1.out.y4
  clear H0 HB s1
  cases sm with
  | false =>
    clear hno
    go_wp2_with fail
    refine (H9.out w1 HB1.out.s).mono ?_
    rintro e w2 ⟨rfl, s2⟩
    go_wp2
    go_ret
    exact ⟨rfl, since_of (step_below HB1.out.s.below s2.below)⟩
  | true =>
    have hh : 100 < root.size ∨ root.size ≤ 100 ∧ (200 < p1.size ∨ p1.size ≤ 200 ∧ 200 < p2.size) := by
      by_cases h1 : root.size ≤ 100
      · by_cases h2 : p1.size ≤ 200
        · by_cases h3 : p2.size ≤ 200
          · exact absurd ⟨rfl, h1, h2, h3⟩ hno
          · omega
        · omega
      · omega
    clear hno
    rcases hh with h1 | ⟨h1, h2 | ⟨h2, h3⟩⟩
    all_goals go_wp2_with fail
    all_goals refine (H9.out w1 HB1.out.s).mono ?_
    all_goals rintro e w2 ⟨rfl, s2⟩
    all_goals go_wp2
    all_goals go_ret
    all_goals exact ⟨rfl, since_of (step_below HB1.out.s.below s2.below)⟩
set_option maxHeartbeats 4000000 in
set_option maxRecDepth 100000 in
theorem looks_this (root : ByteArray) (p1 p2 : ByteArray) (n pos : Int) (t : Bool) (A1 : Option Addr) (m1 c1 : Nat) (A2 : Option Addr) (m2 c2 : Nat) (w : World) (h l sm : Bool) (hsm : sm = true) (hr : root.size ≤ 100) (h1 : p1.size ≤ 200) (h2 : p2.size ≤ 200)
    (H0 : Hid (∀ W, Since w W → Calls Tryd.prog 13 #[.agg #[.int .i64 n, .int .i64 pos, .bool t, .slice A1 m1 c1, .slice A2 m2 c2]] W fun e w' => e = .returned (.bool sm) ∧ Since W w'))
    (H1 : Hid (∀ W, Since w W → Calls Tryd.prog 14 #[.string root, .agg #[.string p1, .string p2], .agg #[.int .i64 n, .int .i64 pos, .bool t, .slice A1 m1 c1, .slice A2 m2 c2]] W fun e w' => ∃ A m c, e = .returned (.tuple #[.bool h, .slice A m c]) ∧ Since W w'))
    (H2 : Hid (∀ W, Since w W → Calls Tryd.prog 15 #[.string root, .string p1, .agg #[.int .i64 n, .int .i64 pos, .bool t, .slice A1 m1 c1, .slice A2 m2 c2]] W fun e w' => ∃ A m c, e = .returned (.tuple #[.bool l, .slice A m c]) ∧ Since W w'))
    (H3 : Hid (∀ W, Since w W → Calls Tryd.prog 16 #[.string root, .agg #[.string p1, .string p2], .agg #[.int .i64 n, .int .i64 pos, .bool t, .slice A1 m1 c1, .slice A2 m2 c2]] W fun e w' => e = .returned (.bool h) ∧ Since W w'))
    (H4 : Hid (∀ W, Since w W → Calls Tryd.prog 17 #[.string root, .string p1, .agg #[.int .i64 n, .int .i64 pos, .bool t, .slice A1 m1 c1, .slice A2 m2 c2]] W fun e w' => e = .returned (.bool l) ∧ Since W w'))
    (H9 : Hid (∀ W, Since w W → Calls Tryd.prog 9 #[] W fun e w' => e = .returned (.bool true) ∧ Since W w'))
    : Calls Tryd.prog 4 #[.string root, .agg #[.string p1, .string p2], .agg #[.int .i64 n, .int .i64 pos, .bool t, .slice A1 m1 c1, .slice A2 m2 c2]] w fun e w' => e = .returned (.bool true) ∧ Since w w' := by
  subst hsm
  have HB := Lib.hid (boxed w p1 p2 n pos t A1 m1 c1 A2 m2 c2)
  have z0 := HB.out.k0
  have z1 := HB.out.k1
  have z2 := HB.out.y0
  have z3 := HB.out.y1
  have z4 := HB.out.y2
  have z5 := HB.out.y3
  have z6 := HB.out.y4
  go_enter Tryd.func4, Tryd.ntmps4
  go_wp2_with fail
  generalize ((w.alloc (.cells #[.string p1, .string p2] 32)).alloc (.cells #[.int .i64 n, .int .i64 pos, .bool t, .slice A1 m1 c1, .slice A2 m2 c2] 28)) = V at *
  clear z0 z1 z2 z3 z4 z5 z6
  refine (H0.out V HB.out.s).mono ?_
  rintro e w1 ⟨rfl, s1⟩
  have HB1 := Lib.hid (HB.out.next s1)
  have z0 := HB1.out.k0
  have z1 := HB1.out.k1
  have z2 := HB1.out.y0
  have z3 := HB1.out.y1
  have z4 := HB1.out.y2
  have z5 := HB1.out.y3
  have z6 := HB1.out.y4
  clear H0 HB s1
  go_wp2_with fail
  clear z0 z1 z2 z3 z4 z5 z6
  refine (H1.out w1 HB1.out.s).mono ?_
  rintro e w2 ⟨B1, d1, e1, rfl, s2⟩
  have HB2 := Lib.hid (HB1.out.next s2)
  have z0 := HB2.out.k0
  have z1 := HB2.out.k1
  have z2 := HB2.out.y0
  have z3 := HB2.out.y1
  have z4 := HB2.out.y2
  have z5 := HB2.out.y3
  have z6 := HB2.out.y4
  clear H1 HB1 s2
  go_wp2_with fail
  clear z0 z1 z2 z3 z4 z5 z6
  refine (H2.out w2 HB2.out.s).mono ?_
  rintro e w3 ⟨B2, d2, e2, rfl, s3⟩
  have HB3 := Lib.hid (HB2.out.next s3)
  have z0 := HB3.out.k0
  have z1 := HB3.out.k1
  have z2 := HB3.out.y0
  have z3 := HB3.out.y1
  have z4 := HB3.out.y2
  have z5 := HB3.out.y3
  have z6 := HB3.out.y4
  clear H2 HB2 s3
  go_wp2_with fail
  clear z0 z1 z2 z3 z4 z5 z6
  refine (H3.out w3 HB3.out.s).mono ?_
  rintro e w4 ⟨rfl, s4⟩
  have HB4 := Lib.hid (HB3.out.next s4)
  have z0 := HB4.out.k0
  have z1 := HB4.out.k1
  have z2 := HB4.out.y0
  have z3 := HB4.out.y1
  have z4 := HB4.out.y2
  have z5 := HB4.out.y3
  have z6 := HB4.out.y4
  clear H3 HB3 s4
  go_wp2_with fail
  clear z0 z1 z2 z3 z4 z5 z6
  refine (H4.out w4 HB4.out.s).mono ?_
  rintro e w5 ⟨rfl, s5⟩
  have HB5 := Lib.hid (HB4.out.next s5)
  clear H4 HB4 s5
  go_wp2_with fail
  refine (H9.out w5 HB5.out.s).mono ?_
  rintro e w6 ⟨rfl, s6⟩
  go_wp2
  go_ret
  exact ⟨rfl, since_of (step_below HB5.out.s.below s6.below)⟩
end Go.Proofs.YtkinnlfjcmhcoaaDoor.W
