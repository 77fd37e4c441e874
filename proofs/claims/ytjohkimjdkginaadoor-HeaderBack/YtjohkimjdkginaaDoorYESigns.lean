/-
  footbridgelaw13.HeaderSigns, from contracts of the four functions and of awake.
-/
import Derived.Deep.RegionHeld3
import Derived.Test.YtjohkimjdkginaaDoorZ1a
namespace Go.Proofs.YtjohkimjdkginaaDoor.W
open Go.RowKit

/-- the boxes of the law: the argument, and two headers that were answered -/
structure SnAt (w : World) (c : ByteArray) (a b : Int) (r m : ByteArray) (g1 g2 : Nat) (c' : ByteArray) (a' b' : Int) (r' m' : ByteArray) (W : World) : Prop where
  x : HdBlk W w.heap.size c a b r m
  y : HdBlk W g1 c' a' b' r' m'
  z : HdBlk W g2 c' a' b' r' m'
  s : Since w W
theorem later_on {w V : World} {f : FuncId} {args : Array Value} {x : Ending} (h : Hid (∀ W, Since w W → Calls Tryd.prog f args W fun e w' => e = x ∧ Since W w')) (hV : Since w V) : Hid (∀ W, Since V W → Calls Tryd.prog f args W fun e w' => e = x ∧ Since V w') :=
  Lib.hid fun W hW => (h.out W (since_two hV hW)).mono fun _ _ ⟨he, hb⟩ => ⟨he, since_two hW hb⟩
set_option maxHeartbeats 4000000 in
set_option maxRecDepth 100000 in
theorem hsigns_no (key c : ByteArray) (a b : Int) (r m : ByteArray) (w : World) (hs : ¬ (key.size ≤ 300 ∧ c.size ≤ 500 ∧ r.size ≤ 500))
    (A : Hid (∀ W, Since w W → Calls Tryd.prog 6 #[] W fun e w' => e = .returned (.bool true) ∧ Since W w')) :
    Calls Tryd.prog 4 #[.string key, .agg #[.string c, .int .i64 a, .int .i64 b, .string r, .string m]] w fun e w' => e = .returned (.bool true) ∧ Since w w' := by
  have HB := Lib.hid (hd_new w c a b r m)
  have HS := Lib.hid (since_alloc (Since.refl w) (.cells #[.string c, .int .i64 a, .int .i64 b, .string r, .string m] 23))
  have y0 := hd_y0 HB.out
  have y3 := hd_y3 HB.out
  have hh : 300 < key.size ∨ key.size ≤ 300 ∧ (500 < c.size ∨ c.size ≤ 500 ∧ 500 < r.size) := by omega
  clear hs
  rcases hh with h1 | ⟨h1, h2 | ⟨h2, h3⟩⟩
  all_goals go_enter Tryd.func4, Tryd.ntmps4
  all_goals go_wp2_with fail
  all_goals refine (A.out _ HS.out).mono ?_
  all_goals rintro e w1 ⟨rfl, q1⟩
  all_goals have S1 := Lib.hid (since_two HS.out q1)
  all_goals clear HB HS A q1 y0 y3
  all_goals go_wp2
  all_goals go_ret
  all_goals exact ⟨rfl, S1.out⟩
set_option maxHeartbeats 4000000 in
set_option maxRecDepth 100000 in
theorem hsigns_this (key c : ByteArray) (a b : Int) (r m : ByteArray) (c' : ByteArray) (a' b' : Int) (r' m' : ByteArray) (f : Int) (q : Bool) (w : World) (h1 : key.size ≤ 300) (h2 : c.size ≤ 500) (h3 : r.size ≤ 500)
    (P1 : Hid (∀ W, Since w W → Calls Tryd.prog 11 #[.string key, .agg #[.string c, .int .i64 a, .int .i64 b, .string r, .string m]] W fun e w' => e = .returned (.tuple #[.agg #[.string c', .int .i64 a', .int .i64 b', .string r', .string m'], .int .i64 f]) ∧ Since W w'))
    (P2 : Hid (∀ W, Since w W → Calls Tryd.prog 12 #[.string key, .agg #[.string c, .int .i64 a, .int .i64 b, .string r, .string m]] W fun e w' => e = .returned (.tuple #[.agg #[.string c', .int .i64 a', .int .i64 b', .string r', .string m'], .int .i64 f]) ∧ Since W w'))
    (P3 : Hid (∀ W, Since w W → Calls Tryd.prog 13 #[.string key, .agg #[.string c, .int .i64 a, .int .i64 b, .string r, .string m]] W fun e w' => e = .returned (.bool q) ∧ Since W w'))
    (P4 : Hid (∀ W, Since w W → Calls Tryd.prog 14 #[.string key, .agg #[.string c, .int .i64 a, .int .i64 b, .string r, .string m]] W fun e w' => e = .returned (.bool q) ∧ Since W w'))
    (A : Hid (∀ W, Since w W → Calls Tryd.prog 6 #[] W fun e w' => e = .returned (.bool true) ∧ Since W w')) :
    Calls Tryd.prog 4 #[.string key, .agg #[.string c, .int .i64 a, .int .i64 b, .string r, .string m]] w fun e w' => e = .returned (.bool true) ∧ Since w w' := by
  have HB := Lib.hid (hd_new w c a b r m)
  have HS := Lib.hid (since_alloc (Since.refl w) (.cells #[.string c, .int .i64 a, .int .i64 b, .string r, .string m] 23))
  have EQ : ∀ W : World, (Op.equalIn 10000 23 (.agg #[.string c', .int .i64 a', .int .i64 b', .string r', .string m']) (.agg #[.string c', .int .i64 a', .int .i64 b', .string r', .string m'])).run Tryd.prog W = .ok true W := fun W => by rw [eq_hd5]; simp
  have GU := guardH
  have y0 := hd_y0 HB.out
  have y1 := hd_y1 HB.out
  have y2 := hd_y2 HB.out
  have y3 := hd_y3 HB.out
  have y4 := hd_y4 HB.out
  go_enter Tryd.func4, Tryd.ntmps4
  go_wp2_with fail
  clear y0 y1 y2 y3 y4 h1 h2 h3
  refine (P1.out _ HS.out).mono ?_
  rintro e w1 ⟨rfl, q1⟩
  have X1 := Lib.hid ((HB.out.next q1.below).alloc (.cells #[.string c', .int .i64 a', .int .i64 b', .string r', .string m'] 23))
  have Y1 := Lib.hid (hd_new w1 c' a' b' r' m')
  have S1 := Lib.hid (since_alloc (since_two HS.out q1) (.cells #[.string c', .int .i64 a', .int .i64 b', .string r', .string m'] 23))
  clear HB HS P1 q1
  have y0 := hd_y0 X1.out
  have y1 := hd_y1 X1.out
  have y2 := hd_y2 X1.out
  have y3 := hd_y3 X1.out
  have y4 := hd_y4 X1.out
  go_wp2_with fail
  clear y0 y1 y2 y3 y4
  refine (P2.out _ S1.out).mono ?_
  rintro e w2 ⟨rfl, q2⟩
  have X2 := Lib.hid ((X1.out.next q2.below).alloc (.cells #[.string c', .int .i64 a', .int .i64 b', .string r', .string m'] 23))
  have Y2 := Lib.hid ((Y1.out.next q2.below).alloc (.cells #[.string c', .int .i64 a', .int .i64 b', .string r', .string m'] 23))
  have Z2 := Lib.hid (hd_new w2 c' a' b' r' m')
  have S2 := Lib.hid (since_alloc (since_two S1.out q2) (.cells #[.string c', .int .i64 a', .int .i64 b', .string r', .string m'] 23))
  clear X1 Y1 S1 P2 q2
  have H3 : Hid (SnAt w c a b r m w1.heap.size w2.heap.size c' a' b' r' m' (w2.alloc (.cells #[.string c', .int .i64 a', .int .i64 b', .string r', .string m'] 23))) := Lib.hid ⟨X2.out, Y2.out, Z2.out, S2.out⟩
  clear X2 Y2 Z2 S2
  go_wp2
  generalize w2.alloc (.cells #[.string c', .int .i64 a', .int .i64 b', .string r', .string m'] 23) = V at *
  have k0 := hd_y0 H3.out.x
  have k1 := hd_y1 H3.out.x
  have k2 := hd_y2 H3.out.x
  have k3 := hd_y3 H3.out.x
  have k4 := hd_y4 H3.out.x
  have k5 := hd_y0 H3.out.y
  have k6 := hd_y1 H3.out.y
  have k7 := hd_y2 H3.out.y
  have k8 := hd_y3 H3.out.y
  have k9 := hd_y4 H3.out.y
  have k10 := hd_y0 H3.out.z
  have k11 := hd_y1 H3.out.z
  have k12 := hd_y2 H3.out.z
  have k13 := hd_y3 H3.out.z
  have k14 := hd_y4 H3.out.z
  have r0 := Since.refl V
  have P3' := later_on P3 H3.out.s
  have P4' := later_on P4 H3.out.s
  have A' := later_on A H3.out.s
  have S3 := Lib.hid H3.out.s
  clear P3 P4 A H3
  go_region_held3 (fun W => W.cell? ⟨w.heap.size, 0, none⟩ = some (.string c) ∧ W.cell? ⟨w.heap.size, 1, none⟩ = some (.int .i64 a) ∧ W.cell? ⟨w.heap.size, 2, none⟩ = some (.int .i64 b) ∧ W.cell? ⟨w.heap.size, 3, none⟩ = some (.string r) ∧ W.cell? ⟨w.heap.size, 4, none⟩ = some (.string m) ∧ W.cell? ⟨w1.heap.size, 0, none⟩ = some (.string c') ∧ W.cell? ⟨w1.heap.size, 1, none⟩ = some (.int .i64 a') ∧ W.cell? ⟨w1.heap.size, 2, none⟩ = some (.int .i64 b') ∧ W.cell? ⟨w1.heap.size, 3, none⟩ = some (.string r') ∧ W.cell? ⟨w1.heap.size, 4, none⟩ = some (.string m') ∧ W.cell? ⟨w2.heap.size, 0, none⟩ = some (.string c') ∧ W.cell? ⟨w2.heap.size, 1, none⟩ = some (.int .i64 a') ∧ W.cell? ⟨w2.heap.size, 2, none⟩ = some (.int .i64 b') ∧ W.cell? ⟨w2.heap.size, 3, none⟩ = some (.string r') ∧ W.cell? ⟨w2.heap.size, 4, none⟩ = some (.string m'))
    (first | exact ⟨s3.cell k0, s3.cell k1, s3.cell k2, s3.cell k3, s3.cell k4, s3.cell k5, s3.cell k6, s3.cell k7, s3.cell k8, s3.cell k9, s3.cell k10, s3.cell k11, s3.cell k12, s3.cell k13, s3.cell k14⟩ | exact ⟨s4.cell k0, s4.cell k1, s4.cell k2, s4.cell k3, s4.cell k4, s4.cell k5, s4.cell k6, s4.cell k7, s4.cell k8, s4.cell k9, s4.cell k10, s4.cell k11, s4.cell k12, s4.cell k13, s4.cell k14⟩ | exact ⟨s5.cell k0, s5.cell k1, s5.cell k2, s5.cell k3, s5.cell k4, s5.cell k5, s5.cell k6, s5.cell k7, s5.cell k8, s5.cell k9, s5.cell k10, s5.cell k11, s5.cell k12, s5.cell k13, s5.cell k14⟩ | go_keep)
    (first
      | (go_at_call 13; refine (P3'.out _ (by exact r0)).mono ?_; clear P3'; rintro en w3 ⟨rfl, s3⟩)
      | (go_at_call 14; refine (P4'.out _ (by exact s3)).mono ?_; clear P4'; rintro en w4 ⟨rfl, s4⟩)
      | (go_at_call 6; refine (A'.out _ (by exact s4)).mono ?_; clear A'; rintro en w5 ⟨rfl, s5⟩))
  all_goals go_wp2
  all_goals go_ret
  all_goals exact ⟨rfl, since_two S3.out s5⟩
end Go.Proofs.YtjohkimjdkginaaDoor.W
