/-
  footbridgelaw13.HeaderBytes, from contracts of the four functions and of awake.
-/
import Derived.Test.YtjohkimjdkginaaDoorZ1a
namespace Go.Proofs.YtjohkimjdkginaaDoor.W
open Go.RowKit

set_option maxHeartbeats 4000000 in
set_option maxRecDepth 100000 in
theorem hbytes_no (c : ByteArray) (a b : Int) (r m : ByteArray) (s : ByteArray) (w : World) (hs : ¬ s.size ≤ 5000)
    (A : Hid (∀ W, Since w W → Calls Tryd.prog 6 #[] W fun e w' => e = .returned (.bool true) ∧ Since W w')) :
    Calls Tryd.prog 3 #[(.agg #[.string c, .int .i64 a, .int .i64 b, .string r, .string m]), .string s] w fun e w' => e = .returned (.bool true) ∧ Since w w' := by
  have HS := Lib.hid (show Since w (w.alloc (.cells #[.string c, .int .i64 a, .int .i64 b, .string r, .string m] 23)) from since_of ((Below.refl _ w).alloc (Nat.le_refl _) _))
  have h5 : ((s.size : Int) > 5000) := by omega
  go_enter Tryd.func3, Tryd.ntmps3
  go_wp2_with fail
  refine (A.out _ HS.out).mono ?_
  rintro e w1 ⟨rfl, q1⟩
  have S1 := Lib.hid (since_of (step_below HS.out.below q1.below))
  clear HS A q1
  go_wp2
  go_ret
  exact ⟨rfl, S1.out⟩
set_option maxHeartbeats 4000000 in
set_option maxRecDepth 100000 in
theorem hbytes_this (c : ByteArray) (a b : Int) (r m : ByteArray) (s : ByteArray) (x : ByteArray) (y : Int) (c' : ByteArray) (a' b' : Int) (r' m' : ByteArray) (g : Int) (w : World) (hs : s.size ≤ 5000)
    (P1 : Hid (∀ W, Since w W → Calls Tryd.prog 7 #[(.agg #[.string c, .int .i64 a, .int .i64 b, .string r, .string m])] W fun e w' => e = .returned (.tuple #[.string x, .int .i64 y]) ∧ Since W w'))
    (P2 : Hid (∀ W, Since w W → Calls Tryd.prog 8 #[(.agg #[.string c, .int .i64 a, .int .i64 b, .string r, .string m])] W fun e w' => e = .returned (.tuple #[.string x, .int .i64 y]) ∧ Since W w'))
    (P3 : Hid (∀ W, Since w W → Calls Tryd.prog 9 #[.string s] W fun e w' => e = .returned (.tuple #[.agg #[.string c', .int .i64 a', .int .i64 b', .string r', .string m'], .int .i64 g]) ∧ Since W w'))
    (P4 : Hid (∀ W, Since w W → Calls Tryd.prog 10 #[.string s] W fun e w' => e = .returned (.tuple #[.agg #[.string c', .int .i64 a', .int .i64 b', .string r', .string m'], .int .i64 g]) ∧ Since W w'))
    (A : Hid (∀ W, Since w W → Calls Tryd.prog 6 #[] W fun e w' => e = .returned (.bool true) ∧ Since W w')) :
    Calls Tryd.prog 3 #[(.agg #[.string c, .int .i64 a, .int .i64 b, .string r, .string m]), .string s] w fun e w' => e = .returned (.bool true) ∧ Since w w' := by
  have HB := Lib.hid (Blk.new w 23 #[.string c, .int .i64 a, .int .i64 b, .string r, .string m])
  have HS := Lib.hid (show Since w (w.alloc (.cells #[.string c, .int .i64 a, .int .i64 b, .string r, .string m] 23)) from since_of ((Below.refl _ w).alloc (Nat.le_refl _) _))
  have h5 : ¬ ((s.size : Int) > 5000) := by omega
  have EQ : ∀ W : World, (Op.equalIn 10000 23 (.agg #[.string c', .int .i64 a', .int .i64 b', .string r', .string m']) (.agg #[.string c', .int .i64 a', .int .i64 b', .string r', .string m'])).run Tryd.prog W = .ok true W := fun W => by rw [eq_hd5]; simp
  have GU := guardH
  have y0 : (w.alloc (.cells #[.string c, .int .i64 a, .int .i64 b, .string r, .string m] 23)).cell? ⟨w.heap.size, 0, none⟩ = some (.string c) := HB.out.c 0 rfl
  have y1 : (w.alloc (.cells #[.string c, .int .i64 a, .int .i64 b, .string r, .string m] 23)).cell? ⟨w.heap.size, 1, none⟩ = some (.int .i64 a) := HB.out.c 1 rfl
  have y2 : (w.alloc (.cells #[.string c, .int .i64 a, .int .i64 b, .string r, .string m] 23)).cell? ⟨w.heap.size, 2, none⟩ = some (.int .i64 b) := HB.out.c 2 rfl
  have y3 : (w.alloc (.cells #[.string c, .int .i64 a, .int .i64 b, .string r, .string m] 23)).cell? ⟨w.heap.size, 3, none⟩ = some (.string r) := HB.out.c 3 rfl
  have y4 : (w.alloc (.cells #[.string c, .int .i64 a, .int .i64 b, .string r, .string m] 23)).cell? ⟨w.heap.size, 4, none⟩ = some (.string m) := HB.out.c 4 rfl
  go_enter Tryd.func3, Tryd.ntmps3
  go_wp2_with fail
  clear y0 y1 y2 y3 y4
  refine (P1.out _ HS.out).mono ?_
  rintro e w1 ⟨rfl, q1⟩
  have X1 := Lib.hid (HB.out.next q1.below)
  have S1 := Lib.hid (since_of (step_below HS.out.below q1.below))
  clear HB HS P1 q1
  have y0 : w1.cell? ⟨w.heap.size, 0, none⟩ = some (.string c) := X1.out.c 0 rfl
  have y1 : w1.cell? ⟨w.heap.size, 1, none⟩ = some (.int .i64 a) := X1.out.c 1 rfl
  have y2 : w1.cell? ⟨w.heap.size, 2, none⟩ = some (.int .i64 b) := X1.out.c 2 rfl
  have y3 : w1.cell? ⟨w.heap.size, 3, none⟩ = some (.string r) := X1.out.c 3 rfl
  have y4 : w1.cell? ⟨w.heap.size, 4, none⟩ = some (.string m) := X1.out.c 4 rfl
  go_wp2_with fail
  clear y0 y1 y2 y3 y4 X1
  refine (P2.out _ S1.out).mono ?_
  rintro e w2 ⟨rfl, q2⟩
  have S2 := Lib.hid (since_of (step_below S1.out.below q2.below))
  clear S1 P2 q2
  go_wp2_with fail
  refine (P3.out _ S2.out).mono ?_
  rintro e w3 ⟨rfl, q3⟩
  have S3 := Lib.hid (since_of (step_below S2.out.below q3.below))
  clear S2 P3 q3
  have C3 := Lib.hid (Blk.new w3 23 #[.string c', .int .i64 a', .int .i64 b', .string r', .string m'])
  have T3 := Lib.hid (show Since w (w3.alloc (.cells #[.string c', .int .i64 a', .int .i64 b', .string r', .string m'] 23)) from since_of (S3.out.below.alloc S3.out.below.size _))
  clear S3
  go_wp2_with fail
  refine (P4.out _ T3.out).mono ?_
  rintro e w4 ⟨rfl, q4⟩
  have C4 := Lib.hid (C3.out.next q4.below)
  have S4 := Lib.hid (since_of (step_below T3.out.below q4.below))
  clear C3 T3 P4 q4
  have C5 := Lib.hid (C4.out.alloc (.cells #[.string c', .int .i64 a', .int .i64 b', .string r', .string m'] 23))
  have S5 := Lib.hid (show Since w (w4.alloc (.cells #[.string c', .int .i64 a', .int .i64 b', .string r', .string m'] 23)) from since_of (S4.out.below.alloc S4.out.below.size _))
  have y0 : (w4.alloc (.cells #[.string c', .int .i64 a', .int .i64 b', .string r', .string m'] 23)).cell? ⟨w3.heap.size, 0, none⟩ = some (.string c') := C5.out.c 0 rfl
  have y1 : (w4.alloc (.cells #[.string c', .int .i64 a', .int .i64 b', .string r', .string m'] 23)).cell? ⟨w3.heap.size, 1, none⟩ = some (.int .i64 a') := C5.out.c 1 rfl
  have y2 : (w4.alloc (.cells #[.string c', .int .i64 a', .int .i64 b', .string r', .string m'] 23)).cell? ⟨w3.heap.size, 2, none⟩ = some (.int .i64 b') := C5.out.c 2 rfl
  have y3 : (w4.alloc (.cells #[.string c', .int .i64 a', .int .i64 b', .string r', .string m'] 23)).cell? ⟨w3.heap.size, 3, none⟩ = some (.string r') := C5.out.c 3 rfl
  have y4 : (w4.alloc (.cells #[.string c', .int .i64 a', .int .i64 b', .string r', .string m'] 23)).cell? ⟨w3.heap.size, 4, none⟩ = some (.string m') := C5.out.c 4 rfl
  clear C4 C5 S4
  go_wp2_with fail
  refine (A.out _ S5.out).mono ?_
  rintro e w6 ⟨rfl, q6⟩
  have S6 := Lib.hid (since_of (step_below S5.out.below q6.below))
  clear A S5 q6 y0 y1 y2 y3 y4
  go_wp2
  go_ret
  exact ⟨rfl, S6.out⟩
end Go.Proofs.YtjohkimjdkginaaDoor.W
