/-
  footbridgelaw12.ProofBytes: the walk, over the calls' answers.
-/
import Derived.Test.YtkinnlfjcmhcoaaDoorYXCmp
import Derived.Test.YtkinnlfjcmhcoaaDoorZ0d
namespace Go.Proofs.YtkinnlfjcmhcoaaDoor.W
open Go.RowKit

set_option maxHeartbeats 2000000 in
set_option maxRecDepth 100000 in
theorem bytes_no (n pos : Int) (t : Bool) (A1 : Option Addr) (m1 c1 : Nat) (A2 : Option Addr) (m2 c2 : Nat) (s : ByteArray) (w : World) (sm : Bool) (hno : ¬ (sm = true ∧ s.size ≤ 5000))
    (H0 : Hid (∀ W, Since w W → Calls Tryd.prog 13 #[.agg #[.int .i64 n, .int .i64 pos, .bool t, .slice A1 m1 c1, .slice A2 m2 c2]] W fun e w' => e = .returned (.bool sm) ∧ Since W w'))
    (H9 : Hid (∀ W, Since w W → Calls Tryd.prog 9 #[] W fun e w' => e = .returned (.bool true) ∧ Since W w')) :
    Calls Tryd.prog 5 #[.agg #[.int .i64 n, .int .i64 pos, .bool t, .slice A1 m1 c1, .slice A2 m2 c2], .string s] w fun e w' => e = .returned (.bool true) ∧ Since w w' := by
  have K0 := Lib.hid (Blk.new w 28 #[.int .i64 n, .int .i64 pos, .bool t, .slice A1 m1 c1, .slice A2 m2 c2])
  have S0 := Lib.hid (show Since w (w.alloc (.cells #[.int .i64 n, .int .i64 pos, .bool t, .slice A1 m1 c1, .slice A2 m2 c2] 28)) from since_of ((Below.refl _ w).alloc (Nat.le_refl _) _))
  have x0 := K0.out.c 0 rfl
  have x1 := K0.out.c 1 rfl
  have x2 := K0.out.c 2 rfl
  have x3 := K0.out.c 3 rfl
  have x4 := K0.out.c 4 rfl
  go_enter Tryd.func5, Tryd.ntmps5
  go_wp2_with fail
  clear x0 x1 x2 x3 x4
  generalize w.alloc (.cells #[.int .i64 n, .int .i64 pos, .bool t, .slice A1 m1 c1, .slice A2 m2 c2] 28) = V at *
  refine (H0.out V S0.out).mono ?_
  rintro e w1 ⟨rfl, q1⟩
  have S1 := Lib.hid (show Since w w1 from since_of (step_below S0.out.below q1.below))
  have K1 := Lib.hid (K0.out.next q1.below)
  clear H0 S0 K0 q1
  cases sm with
  | false =>
    clear hno
    go_wp2_with fail
    refine (H9.out w1 S1.out).mono ?_
    rintro e w2 ⟨rfl, q2⟩
    go_wp2
    go_ret
    exact ⟨rfl, since_of (step_below S1.out.below q2.below)⟩
  | true =>
    have hs : 5000 < s.size := by
      by_cases h : s.size ≤ 5000
      · exact absurd ⟨by simp, h⟩ hno
      · omega
    clear hno
    go_wp2_with fail
    refine (H9.out w1 S1.out).mono ?_
    rintro e w2 ⟨rfl, q2⟩
    go_wp2
    go_ret
    exact ⟨rfl, since_of (step_below S1.out.below q2.below)⟩
set_option maxHeartbeats 2000000 in
set_option maxRecDepth 100000 in
theorem bytes_this (n pos : Int) (t : Bool) (A1 : Option Addr) (m1 c1 : Nat) (A2 : Option Addr) (m2 c2 : Nat) (s a : ByteArray) (f g : Int) (y : Pf) (yn yp : Int) (yt : Bool) (ya yb : Nat) (w : World) (sm : Bool) (hsm : sm = true) (hs : s.size ≤ 5000)
    (H0 : Hid (∀ W, Since w W → Calls Tryd.prog 13 #[.agg #[.int .i64 n, .int .i64 pos, .bool t, .slice A1 m1 c1, .slice A2 m2 c2]] W fun e w' => e = .returned (.bool sm) ∧ Since W w'))
    (H1 : Hid (∀ W, Since w W → Calls Tryd.prog 18 #[.agg #[.int .i64 n, .int .i64 pos, .bool t, .slice A1 m1 c1, .slice A2 m2 c2]] W fun e w' => e = .returned (.tuple #[.string a, .int .i64 f]) ∧ Since W w'))
    (H2 : Hid (∀ W, Since w W → Calls Tryd.prog 19 #[.agg #[.int .i64 n, .int .i64 pos, .bool t, .slice A1 m1 c1, .slice A2 m2 c2]] W fun e w' => e = .returned (.tuple #[.string a, .int .i64 f]) ∧ Since W w'))
    (H3 : Hid (∀ W, Since w W → Calls Tryd.prog 20 #[.string s] W fun e w' => ∃ B1 d1 B2 d2, e = .returned (.tuple #[pvv yn yp yt B1 ya d1 B2 yb d2, .int .i64 g]) ∧ Prf w' (pvv yn yp yt B1 ya d1 B2 yb d2) y ∧ Since W w'))
    (H4 : Hid (∀ W, Since w W → Calls Tryd.prog 21 #[.string s] W fun e w' => ∃ B1 d1 B2 d2, e = .returned (.tuple #[pvv yn yp yt B1 ya d1 B2 yb d2, .int .i64 g]) ∧ Prf w' (pvv yn yp yt B1 ya d1 B2 yb d2) y ∧ Since W w'))
    (H5 : Hid (∀ W u v, Since w W → Prf W u y → Prf W v y → Calls Tryd.prog 10 #[u, v] W fun e w' => e = .returned (.bool true) ∧ Since W w'))
    (H9 : Hid (∀ W, Since w W → Calls Tryd.prog 9 #[] W fun e w' => e = .returned (.bool true) ∧ Since W w')) :
    Calls Tryd.prog 5 #[.agg #[.int .i64 n, .int .i64 pos, .bool t, .slice A1 m1 c1, .slice A2 m2 c2], .string s] w fun e w' => e = .returned (.bool true) ∧ Since w w' := by
  subst hsm
  have K0 := Lib.hid (Blk.new w 28 #[.int .i64 n, .int .i64 pos, .bool t, .slice A1 m1 c1, .slice A2 m2 c2])
  have S0 := Lib.hid (show Since w (w.alloc (.cells #[.int .i64 n, .int .i64 pos, .bool t, .slice A1 m1 c1, .slice A2 m2 c2] 28)) from since_of ((Below.refl _ w).alloc (Nat.le_refl _) _))
  have x0 := K0.out.c 0 rfl
  have x1 := K0.out.c 1 rfl
  have x2 := K0.out.c 2 rfl
  have x3 := K0.out.c 3 rfl
  have x4 := K0.out.c 4 rfl
  go_enter Tryd.func5, Tryd.ntmps5
  go_wp2_with fail
  clear x0 x1 x2 x3 x4
  generalize w.alloc (.cells #[.int .i64 n, .int .i64 pos, .bool t, .slice A1 m1 c1, .slice A2 m2 c2] 28) = V at *
  refine (H0.out V S0.out).mono ?_
  rintro e w1 ⟨rfl, q1⟩
  have S1 := Lib.hid (show Since w w1 from since_of (step_below S0.out.below q1.below))
  have K1 := Lib.hid (K0.out.next q1.below)
  clear H0 S0 K0 q1
  have x0 := K1.out.c 0 rfl
  have x1 := K1.out.c 1 rfl
  have x2 := K1.out.c 2 rfl
  have x3 := K1.out.c 3 rfl
  have x4 := K1.out.c 4 rfl
  go_wp2_with fail
  clear x0 x1 x2 x3 x4
  refine (H1.out w1 S1.out).mono ?_
  rintro e w2 ⟨rfl, q2⟩
  have S2 := Lib.hid (show Since w w2 from since_of (step_below S1.out.below q2.below))
  have K2 := Lib.hid (K1.out.next q2.below)
  clear H1 S1 K1 q2
  have x0 := K2.out.c 0 rfl
  have x1 := K2.out.c 1 rfl
  have x2 := K2.out.c 2 rfl
  have x3 := K2.out.c 3 rfl
  have x4 := K2.out.c 4 rfl
  go_wp2_with fail
  clear x0 x1 x2 x3 x4
  refine (H2.out w2 S2.out).mono ?_
  rintro e w3 ⟨rfl, q3⟩
  have S3 := Lib.hid (show Since w w3 from since_of (step_below S2.out.below q3.below))
  clear H2 S2 K2 q3
  go_wp2_with fail
  refine (H3.out w3 S3.out).mono ?_
  rintro e w4 ⟨B1, d1, B2, d2, rfl, P4, q4⟩
  have S4 := Lib.hid (show Since w w4 from since_of (step_below S3.out.below q4.below))
  have HP4 := Lib.hid P4
  clear H3 S3 q4 P4
  go_wp2_with fail
  obtain ⟨bZ, sV⟩ := newP w4 #[.int .i64 yn, .int .i64 yp, .bool yt, .slice B1 ya d1, .slice B2 yb d2]
  generalize w4.alloc (.cells #[.int .i64 yn, .int .i64 yp, .bool yt, .slice B1 ya d1, .slice B2 yb d2] 28) = V2 at *
  have HP5 := Lib.hid (HP4.out.below sV.below)
  have S5 := Lib.hid (show Since w V2 from since_of (step_below S4.out.below sV.below))
  have HZ := Lib.hid bZ
  clear HP4 S4 sV bZ
  refine (H4.out V2 S5.out).mono ?_
  rintro e w6 ⟨E1, g1, E2, g2, rfl, P6, q6⟩
  have S6 := Lib.hid (show Since w w6 from since_of (step_below S5.out.below q6.below))
  have HP6 := Lib.hid (HP5.out.below q6.below)
  have HQ6 := Lib.hid P6
  have HZ6 := Lib.hid (HZ.out.next q6.below)
  obtain ⟨bY, sY⟩ := newP w6 #[.int .i64 yn, .int .i64 yp, .bool yt, .slice E1 ya g1, .slice E2 yb g2]
  have HP7 := Lib.hid (HP6.out.below sY.below)
  have HQ7 := Lib.hid (HQ6.out.below sY.below)
  have HZ7 := Lib.hid (HZ6.out.next sY.below)
  have HY7 := Lib.hid bY
  have S7 := Lib.hid (show Since w (w6.alloc (.cells #[.int .i64 yn, .int .i64 yp, .bool yt, .slice E1 ya g1, .slice E2 yb g2] 28)) from since_of (step_below S6.out.below sY.below))
  clear H4 S5 q6 P6 HP5 HZ bY sY HP6 HQ6 HZ6 S6
  have z0 := HZ7.out.c 0 rfl
  have z1 := HZ7.out.c 1 rfl
  have z2 := HZ7.out.c 2 rfl
  have z3 := HZ7.out.c 3 rfl
  have z4 := HZ7.out.c 4 rfl
  have y0 := HY7.out.c 0 rfl
  have y1 := HY7.out.c 1 rfl
  have y2 := HY7.out.c 2 rfl
  have y3 := HY7.out.c 3 rfl
  have y4 := HY7.out.c 4 rfl
  go_wp2_with fail
  refine (H5.out _ _ _ S7.out HP7.out HQ7.out).mono ?_
  rintro e w8 ⟨rfl, q8⟩
  have S8 := Lib.hid (show Since w w8 from since_of (step_below S7.out.below q8.below))
  clear H5 z0 z1 z2 z3 z4 y0 y1 y2 y3 y4 HP7 HQ7 HZ7 HY7 S7 q8
  go_wp2_with fail
  refine (H9.out w8 S8.out).mono ?_
  rintro e w9 ⟨rfl, q9⟩
  go_wp2
  go_ret
  exact ⟨rfl, since_of (step_below S8.out.below q9.below)⟩
end Go.Proofs.YtkinnlfjcmhcoaaDoor.W
