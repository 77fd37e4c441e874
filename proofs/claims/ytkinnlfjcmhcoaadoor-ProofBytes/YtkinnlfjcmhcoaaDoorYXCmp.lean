/-
  footbridgelaw12.ProofComplete: the walk, over the calls' answers.
-/
import Derived.Test.YtkinnlfjcmhcoaaDoorZ0e
import Derived.Test.YtkinnlfjcmhcoaaDoorZ1a
import Derived.Test.YtkinnlfjcmhcoaaDoorZ0f
namespace Go.Proofs.YtkinnlfjcmhcoaaDoor.W
open Go.RowKit

theorem newP (w : World) (a : Array Value) : Blk (w.alloc (.cells a 28)) w.heap.size 28 a ∧ Since w (w.alloc (.cells a 28)) :=
  ⟨Blk.new w _ _, since_of ((Below.refl w.heap.size w).alloc (Nat.le_refl _) _)⟩
abbrev pvv (n pos : Int) (t : Bool) (A1 : Option Addr) (m c1 : Nat) (A2 : Option Addr) (k c2 : Nat) : Value := .agg #[.int .i64 n, .int .i64 pos, .bool t, .slice A1 m c1, .slice A2 k c2]
set_option maxHeartbeats 2000000 in
set_option maxRecDepth 100000 in
theorem complete_this (v : Value) (key val s : ByteArray) (R : List UInt8) (x : Pf) (n pos : Int) (t ok : Bool) (a b : Nat) (w : World) (hk : key.size ≤ 100)
    (H0 : Hid (Calls Tryd.prog 8 #[v, .int .i64 20] w fun e w' => e = .returned (.bool true) ∧ Since w w'))
    (H1 : Hid (∀ W, Since w W → Calls Tryd.prog 22 #[v] W fun e w' => e = .returned (.bool true) ∧ Since w w'))
    (H2 : Hid (∀ W, Since w W → Calls Tryd.prog 11 #[v, .string key] W fun e w' => ∃ A1 c1 A2 c2, e = .returned (pvv n pos t A1 a c1 A2 b c2) ∧ Prf w' (pvv n pos t A1 a c1 A2 b c2) x ∧ Since w w'))
    (H3 : Hid (∀ W u, Since w W → Prf W u x → Calls Tryd.prog 18 #[u] W fun e w' => e = .returned (.tuple #[.string s, .int .i64 0]) ∧ Since w w'))
    (H4 : Hid (∀ W, Since w W → Calls Tryd.prog 20 #[.string s] W fun e w' => ∃ A1 c1 A2 c2, e = .returned (.tuple #[pvv n pos t A1 a c1 A2 b c2, .int .i64 0]) ∧ Prf w' (pvv n pos t A1 a c1 A2 b c2) x ∧ Since w w'))
    (H5 : Hid (∀ W, Since w W → Calls Tryd.prog 23 #[v, .string key] W fun e w' => e = .returned (.tuple #[.string val, .bool ok]) ∧ w' = W))
    (H6 : Hid (∀ W, Since w W → Calls Tryd.prog 24 #[v] W fun e w' => e = .returned (.string (bs R)) ∧ Since W w' ∧ Since w w'))
    (H7 : Hid (∀ W u, Since w W → Prf W u x → Calls Tryd.prog 16 #[.string (bs R), .agg #[.string key, .string val], u] W fun e w' => e = .returned (.bool ok) ∧ Since W w' ∧ Since w w'))
    (H8 : Hid (∀ W u, Since w W → Prf W u x → Calls Tryd.prog 17 #[.string (bs R), .string key, u] W fun e w' => e = .returned (.bool (!ok)) ∧ Since W w' ∧ Since w w'))
    (H9 : Hid (∀ W, Since w W → Calls Tryd.prog 9 #[] W fun e w' => e = .returned (.bool true) ∧ Since w w')) :
    Calls Tryd.prog 6 #[v, .string key] w fun e w' => e = .returned (.bool true) ∧ Since w w' := by
  go_enter Tryd.func6, Tryd.ntmps6
  go_wp2_with fail
  refine H0.out.mono ?_
  rintro e w1 ⟨rfl, s1⟩
  clear H0
  go_wp2_with fail
  refine (H1.out w1 s1).mono ?_
  rintro e w2 ⟨rfl, s2⟩
  clear H1 s1
  go_wp2_with fail
  refine (H2.out w2 s2).mono ?_
  rintro e w3 ⟨A1, c1, A2, c2, rfl, P3, s3⟩
  have HP3 := Lib.hid P3
  clear H2 s2 P3
  go_wp2_with fail
  refine (H3.out w3 _ s3 HP3.out).mono ?_
  rintro e w4 ⟨rfl, s4⟩
  clear H3 s3 HP3
  go_wp2_with fail
  refine (H4.out w4 s4).mono ?_
  rintro e w5 ⟨B1, d1, B2, d2, rfl, P5, s5⟩
  have HP5 := Lib.hid P5
  have HS5 := Lib.hid s5
  clear H4 s4 P5 s5
  go_wp2_with fail
  obtain ⟨bZ, sV⟩ := newP w5 #[.int .i64 n, .int .i64 pos, .bool t, .slice B1 a d1, .slice B2 b d2]
  generalize w5.alloc (.cells #[.int .i64 n, .int .i64 pos, .bool t, .slice B1 a d1, .slice B2 b d2] 28) = V at *
  have HPV := Lib.hid (HP5.out.below sV.below)
  have HSV := Lib.hid (since_of (step_below HS5.out.below sV.below))
  have HZ := Lib.hid bZ
  clear HP5 HS5 sV bZ
  refine (H5.out V HSV.out).mono ?_
  rintro e w6 ⟨rfl, rfl⟩
  rename World => V
  clear H5
  go_wp2_with fail
  refine (H6.out V HSV.out).mono ?_
  rintro e w7 ⟨rfl, q7, s7⟩
  clear H6
  have HP7 := Lib.hid (HPV.out.below q7.below)
  have HZ7 := Lib.hid (HZ.out.next q7.below)
  have HS7 := Lib.hid s7
  clear HPV HZ HSV q7 s7
  have x0 : w7.cell? ⟨w5.heap.size, 0, none⟩ = some (.int .i64 n) := HZ7.out.cell 0
  have x1 : w7.cell? ⟨w5.heap.size, 1, none⟩ = some (.int .i64 pos) := HZ7.out.cell 1
  have x2 : w7.cell? ⟨w5.heap.size, 2, none⟩ = some (.bool t) := HZ7.out.cell 2
  have x3 : w7.cell? ⟨w5.heap.size, 3, none⟩ = some (.slice B1 a d1) := HZ7.out.cell 3
  have x4 : w7.cell? ⟨w5.heap.size, 4, none⟩ = some (.slice B2 b d2) := HZ7.out.cell 4
  go_wp2_with fail
  clear x0 x1 x2 x3 x4
  refine (H7.out w7 _ HS7.out HP7.out).mono ?_
  rintro e w8 ⟨rfl, q8, s8⟩
  clear H7
  have HP8 := Lib.hid (HP7.out.below q8.below)
  have HZ8 := Lib.hid (HZ7.out.next q8.below)
  have HS8 := Lib.hid s8
  clear HP7 HZ7 HS7 q8 s8
  have y0 : w8.cell? ⟨w5.heap.size, 0, none⟩ = some (.int .i64 n) := HZ8.out.cell 0
  have y1 : w8.cell? ⟨w5.heap.size, 1, none⟩ = some (.int .i64 pos) := HZ8.out.cell 1
  have y2 : w8.cell? ⟨w5.heap.size, 2, none⟩ = some (.bool t) := HZ8.out.cell 2
  have y3 : w8.cell? ⟨w5.heap.size, 3, none⟩ = some (.slice B1 a d1) := HZ8.out.cell 3
  have y4 : w8.cell? ⟨w5.heap.size, 4, none⟩ = some (.slice B2 b d2) := HZ8.out.cell 4
  go_wp2_with fail
  clear y0 y1 y2 y3 y4
  refine (H8.out w8 _ HS8.out HP8.out).mono ?_
  rintro e w9 ⟨rfl, q9, s9⟩
  clear H8 q9 HP8 HZ8 HS8
  have hok : (!ok) ≠ ok := by cases ok <;> decide
  go_wp2_with fail
  refine (H9.out w9 s9).mono ?_
  rintro e w10 ⟨rfl, s10⟩
  clear H9 s9
  go_wp2
  go_ret
  exact ⟨rfl, s10⟩
set_option maxRecDepth 100000 in
/-- the law asks nothing: awake alone -/
theorem complete_no (v : Value) (key : ByteArray) (few rises : Bool) (w : World) (hno : ¬ (few = true ∧ key.size ≤ 100 ∧ rises = true))
    (H0 : Hid (Calls Tryd.prog 8 #[v, .int .i64 20] w fun e w' => e = .returned (.bool few) ∧ Since w w'))
    (H1 : Hid (∀ W, Since w W → Calls Tryd.prog 22 #[v] W fun e w' => e = .returned (.bool rises) ∧ Since w w'))
    (H9 : Hid (∀ W, Since w W → Calls Tryd.prog 9 #[] W fun e w' => e = .returned (.bool true) ∧ Since w w')) :
    Calls Tryd.prog 6 #[v, .string key] w fun e w' => e = .returned (.bool true) ∧ Since w w' := by
  go_enter Tryd.func6, Tryd.ntmps6
  go_wp2_with fail
  refine H0.out.mono ?_
  rintro e w1 ⟨rfl, s1⟩
  clear H0
  cases few with
  | false =>
    go_wp2_with fail
    refine (H9.out w1 s1).mono ?_
    rintro e w2 ⟨rfl, s2⟩
    go_wp2
    go_ret
    exact ⟨rfl, s2⟩
  | true =>
    by_cases hk : key.size ≤ 100
    · have hr : rises = false := by cases rises with
        | false => rfl
        | true => exact absurd ⟨rfl, hk, rfl⟩ hno
      subst hr
      clear hno
      go_wp2_with fail
      refine (H1.out w1 s1).mono ?_
      rintro e w2 ⟨rfl, s2⟩
      clear H1 s1
      go_wp2_with fail
      refine (H9.out w2 s2).mono ?_
      rintro e w3 ⟨rfl, s3⟩
      go_wp2
      go_ret
      exact ⟨rfl, s3⟩
    · have hk2 : 100 < key.size := by omega
      clear hno hk
      go_wp2_with fail
      refine (H9.out w1 s1).mono ?_
      rintro e w2 ⟨rfl, s2⟩
      go_wp2
      go_ret
      exact ⟨rfl, s2⟩
end Go.Proofs.YtkinnlfjcmhcoaaDoor.W
