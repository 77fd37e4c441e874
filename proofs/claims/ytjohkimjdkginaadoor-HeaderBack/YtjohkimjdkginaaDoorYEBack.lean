/-
  footbridgelaw13.HeaderBack, from contracts of the functions that it calls.
-/
import Derived.Test.YtjohkimjdkginaaDoorYESigns
namespace Go.Proofs.YtjohkimjdkginaaDoor.W
open Go.RowKit

set_option maxHeartbeats 4000000 in
set_option maxRecDepth 100000 in
theorem hback_no (key c : ByteArray) (a b : Int) (r m : ByteArray) (w : World) (hs : ¬ (key.size ≤ 300 ∧ c.size ≤ 500 ∧ r.size ≤ 500))
    (A : Hid (∀ W, Since w W → Calls Tryd.prog 6 #[] W fun e w' => e = .returned (.bool true) ∧ Since W w')) :
    Calls Tryd.prog 5 #[.string key, .agg #[.string c, .int .i64 a, .int .i64 b, .string r, .string m]] w fun e w' => e = .returned (.bool true) ∧ Since w w' := by
  have HB := Lib.hid (hd_new w c a b r m)
  have HS := Lib.hid (since_alloc (Since.refl w) (.cells #[.string c, .int .i64 a, .int .i64 b, .string r, .string m] 23))
  have y0 := hd_y0 HB.out
  have y3 := hd_y3 HB.out
  have hh : 300 < key.size ∨ key.size ≤ 300 ∧ (500 < c.size ∨ c.size ≤ 500 ∧ 500 < r.size) := by omega
  clear hs
  rcases hh with h1 | ⟨h1, h2 | ⟨h2, h3⟩⟩
  all_goals go_enter Tryd.func5, Tryd.ntmps5
  all_goals go_wp2_with fail
  all_goals refine (A.out _ HS.out).mono ?_
  all_goals rintro e w1 ⟨rfl, q1⟩
  all_goals have S1 := Lib.hid (since_two HS.out q1)
  all_goals clear HB HS A q1 y0 y3
  all_goals go_wp2
  all_goals go_ret
  all_goals exact ⟨rfl, S1.out⟩
set_option maxHeartbeats 4000000 in
set_option maxRecDepth 100000 in
theorem hback_err (key c : ByteArray) (a b : Int) (r m : ByteArray) (f : Int) (w : World) (h1 : key.size ≤ 300) (h2 : c.size ≤ 500) (h3 : r.size ≤ 500) (hf : f ≠ 0)
    (P1 : Hid (∀ W, Since w W → Calls Tryd.prog 11 #[.string key, .agg #[.string c, .int .i64 a, .int .i64 b, .string r, .string m]] W fun e w' => e = .returned (.tuple #[.agg #[.string ⟨#[]⟩, .int .i64 0, .int .i64 0, .string ⟨#[]⟩, .string ⟨#[]⟩], .int .i64 f]) ∧ Since W w'))
    (A : Hid (∀ W, Since w W → Calls Tryd.prog 6 #[] W fun e w' => e = .returned (.bool true) ∧ Since W w')) :
    Calls Tryd.prog 5 #[.string key, .agg #[.string c, .int .i64 a, .int .i64 b, .string r, .string m]] w fun e w' => e = .returned (.bool true) ∧ Since w w' := by
  have HB := Lib.hid (hd_new w c a b r m)
  have HS := Lib.hid (since_alloc (Since.refl w) (.cells #[.string c, .int .i64 a, .int .i64 b, .string r, .string m] 23))
  have EQ : ∀ W : World, (Op.equalIn 10000 23 (.agg #[.string ⟨#[]⟩, .int .i64 0, .int .i64 0, .string ⟨#[]⟩, .string ⟨#[]⟩]) (.agg #[.string ⟨#[]⟩, .int .i64 0, .int .i64 0, .string ⟨#[]⟩, .string ⟨#[]⟩])).run Tryd.prog W = .ok true W := fun W => by rw [eq_hd5]; simp
  have GU := guardH
  have hfb : (f != 0) = true := by rw [bne_iff_ne]; exact hf
  have y0 := hd_y0 HB.out
  have y1 := hd_y1 HB.out
  have y2 := hd_y2 HB.out
  have y3 := hd_y3 HB.out
  have y4 := hd_y4 HB.out
  go_enter Tryd.func5, Tryd.ntmps5
  go_wp2_with fail
  clear y0 y1 y2 y3 y4 h1 h2 h3 hf
  refine (P1.out _ HS.out).mono ?_
  rintro e w1 ⟨rfl, q1⟩
  have Y1 := Lib.hid (hd_new w1 ⟨#[]⟩ 0 0 ⟨#[]⟩ ⟨#[]⟩)
  have S1 := Lib.hid (since_alloc (since_two HS.out q1) (.cells #[.string ⟨#[]⟩, .int .i64 0, .int .i64 0, .string ⟨#[]⟩, .string ⟨#[]⟩] 23))
  clear HB HS P1 q1
  have y0 := hd_y0 Y1.out
  have y1 := hd_y1 Y1.out
  have y2 := hd_y2 Y1.out
  have y3 := hd_y3 Y1.out
  have y4 := hd_y4 Y1.out
  go_wp2_with fail
  clear y0 y1 y2 y3 y4
  refine (A.out _ S1.out).mono ?_
  rintro e w2 ⟨rfl, q2⟩
  have S2 := Lib.hid (since_two S1.out q2)
  clear S1 A q2
  go_wp2
  go_ret
  exact ⟨rfl, S2.out⟩
set_option maxHeartbeats 4000000 in
set_option maxRecDepth 100000 in
theorem hback_this (key c : ByteArray) (a b : Int) (r m M T x : ByteArray) (y : Int) (w : World) (h1 : key.size ≤ 300) (h2 : c.size ≤ 500) (h3 : r.size ≤ 500)
    (P1 : Hid (∀ W, Since w W → Calls Tryd.prog 11 #[.string key, .agg #[.string c, .int .i64 a, .int .i64 b, .string r, .string m]] W fun e w' => e = .returned (.tuple #[.agg #[.string c, .int .i64 a, .int .i64 b, .string r, .string M], .int .i64 0]) ∧ Since W w'))
    (P2 : Hid (∀ W, Since w W → Calls Tryd.prog 7 #[.agg #[.string c, .int .i64 a, .int .i64 b, .string r, .string M]] W fun e w' => e = .returned (.tuple #[.string T, .int .i64 0]) ∧ Since W w'))
    (P3 : Hid (∀ W, Since w W → Calls Tryd.prog 9 #[.string T] W fun e w' => e = .returned (.tuple #[.agg #[.string c, .int .i64 a, .int .i64 b, .string r, .string M], .int .i64 0]) ∧ Since W w'))
    (P4 : Hid (∀ W, Since w W → Calls Tryd.prog 15 #[.agg #[.string c, .int .i64 a, .int .i64 b, .string r, .string m]] W fun e w' => e = .returned (.tuple #[.string x, .int .i64 y]) ∧ Since W w'))
    (P5 : Hid (∀ W, Since w W → Calls Tryd.prog 13 #[.string key, .agg #[.string c, .int .i64 a, .int .i64 b, .string r, .string M]] W fun e w' => e = .returned (.bool true) ∧ Since W w'))
    (P6 : Hid (∀ W, Since w W → Calls Tryd.prog 16 #[.string key, .string x] W fun e w' => e = .returned (.string M) ∧ Since W w'))
    (A : Hid (∀ W, Since w W → Calls Tryd.prog 6 #[] W fun e w' => e = .returned (.bool true) ∧ Since W w')) :
    Calls Tryd.prog 5 #[.string key, .agg #[.string c, .int .i64 a, .int .i64 b, .string r, .string m]] w fun e w' => e = .returned (.bool true) ∧ Since w w' := by
  have HB := Lib.hid (hd_new w c a b r m)
  have HS := Lib.hid (since_alloc (Since.refl w) (.cells #[.string c, .int .i64 a, .int .i64 b, .string r, .string m] 23))
  have EQ : ∀ W : World, (Op.equalIn 10000 23 (.agg #[.string c, .int .i64 a, .int .i64 b, .string r, .string M]) (.agg #[.string c, .int .i64 a, .int .i64 b, .string r, .string M])).run Tryd.prog W = .ok true W := fun W => by rw [eq_hd5]; simp
  have GU := guardH
  have y0 := hd_y0 HB.out
  have y1 := hd_y1 HB.out
  have y2 := hd_y2 HB.out
  have y3 := hd_y3 HB.out
  have y4 := hd_y4 HB.out
  go_enter Tryd.func5, Tryd.ntmps5
  go_wp2_with fail
  clear y0 y1 y2 y3 y4 h1 h2 h3
  refine (P1.out _ HS.out).mono ?_
  rintro e w1 ⟨rfl, q1⟩
  have X1 := Lib.hid ((HB.out.next q1.below).alloc (.cells #[.string c, .int .i64 a, .int .i64 b, .string r, .string M] 23))
  have Y1 := Lib.hid (hd_new w1 c a b r M)
  have S1 := Lib.hid (since_alloc (since_two HS.out q1) (.cells #[.string c, .int .i64 a, .int .i64 b, .string r, .string M] 23))
  clear HB HS P1 q1
  have y0 := hd_y0 Y1.out
  have y1 := hd_y1 Y1.out
  have y2 := hd_y2 Y1.out
  have y3 := hd_y3 Y1.out
  have y4 := hd_y4 Y1.out
  go_wp2_with fail
  clear y0 y1 y2 y3 y4
  refine (P2.out _ S1.out).mono ?_
  rintro e w2 ⟨rfl, q2⟩
  have X2 := Lib.hid (X1.out.next q2.below)
  have Y2 := Lib.hid (Y1.out.next q2.below)
  have S2 := Lib.hid (since_two S1.out q2)
  clear X1 Y1 S1 P2 q2
  go_wp2_with fail
  refine (P3.out _ S2.out).mono ?_
  rintro e w3 ⟨rfl, q3⟩
  have X3 := Lib.hid ((X2.out.next q3.below).alloc (.cells #[.string c, .int .i64 a, .int .i64 b, .string r, .string M] 23))
  have Y3 := Lib.hid ((Y2.out.next q3.below).alloc (.cells #[.string c, .int .i64 a, .int .i64 b, .string r, .string M] 23))
  have Z3 := Lib.hid (hd_new w3 c a b r M)
  have S3 := Lib.hid (since_alloc (since_two S2.out q3) (.cells #[.string c, .int .i64 a, .int .i64 b, .string r, .string M] 23))
  clear X2 Y2 S2 P3 q3
  have y0 := hd_y0 X3.out
  have y1 := hd_y1 X3.out
  have y2 := hd_y2 X3.out
  have y3 := hd_y3 X3.out
  have y4 := hd_y4 X3.out
  go_wp2_with fail
  clear y0 y1 y2 y3 y4
  refine (P4.out _ S3.out).mono ?_
  rintro e V ⟨rfl, q4⟩
  have Y4 := Lib.hid (Y3.out.next q4.below)
  have Z4 := Lib.hid (Z3.out.next q4.below)
  have S4 := Lib.hid (since_two S3.out q4)
  clear X3 Y3 Z3 S3 P4 q4
  have k0 := hd_y0 Y4.out
  have k1 := hd_y1 Y4.out
  have k2 := hd_y2 Y4.out
  have k3 := hd_y3 Y4.out
  have k4 := hd_y4 Y4.out
  have k5 := hd_y0 Z4.out
  have k6 := hd_y1 Z4.out
  have k7 := hd_y2 Z4.out
  have k8 := hd_y3 Z4.out
  have k9 := hd_y4 Z4.out
  have r0 := Since.refl V
  have P5' := later_on P5 S4.out
  have P6' := later_on P6 S4.out
  have A' := later_on A S4.out
  clear P5 P6 A Y4 Z4
  go_wp2
  go_region_held3 (fun W => W.cell? ⟨w1.heap.size, 0, none⟩ = some (.string c) ∧ W.cell? ⟨w1.heap.size, 1, none⟩ = some (.int .i64 a) ∧ W.cell? ⟨w1.heap.size, 2, none⟩ = some (.int .i64 b) ∧ W.cell? ⟨w1.heap.size, 3, none⟩ = some (.string r) ∧ W.cell? ⟨w1.heap.size, 4, none⟩ = some (.string M) ∧ W.cell? ⟨w3.heap.size, 0, none⟩ = some (.string c) ∧ W.cell? ⟨w3.heap.size, 1, none⟩ = some (.int .i64 a) ∧ W.cell? ⟨w3.heap.size, 2, none⟩ = some (.int .i64 b) ∧ W.cell? ⟨w3.heap.size, 3, none⟩ = some (.string r) ∧ W.cell? ⟨w3.heap.size, 4, none⟩ = some (.string M))
    (first | exact ⟨s5.cell k0, s5.cell k1, s5.cell k2, s5.cell k3, s5.cell k4, s5.cell k5, s5.cell k6, s5.cell k7, s5.cell k8, s5.cell k9⟩ | exact ⟨s6.cell k0, s6.cell k1, s6.cell k2, s6.cell k3, s6.cell k4, s6.cell k5, s6.cell k6, s6.cell k7, s6.cell k8, s6.cell k9⟩ | exact ⟨s7.cell k0, s7.cell k1, s7.cell k2, s7.cell k3, s7.cell k4, s7.cell k5, s7.cell k6, s7.cell k7, s7.cell k8, s7.cell k9⟩ | go_keep)
    (first
      | (go_at_call 13; refine (P5'.out _ (by exact r0)).mono ?_; clear P5'; rintro en w5 ⟨rfl, s5⟩)
      | (go_at_call 16; refine (P6'.out _ (by exact s5)).mono ?_; clear P6'; rintro en w6 ⟨rfl, s6⟩)
      | (go_at_call 6; refine (A'.out _ (by exact s6)).mono ?_; clear A'; rintro en w7 ⟨rfl, s7⟩))
  all_goals go_wp2
  all_goals go_ret
  all_goals exact ⟨rfl, since_two S4.out s7⟩
end Go.Proofs.YtjohkimjdkginaaDoor.W
