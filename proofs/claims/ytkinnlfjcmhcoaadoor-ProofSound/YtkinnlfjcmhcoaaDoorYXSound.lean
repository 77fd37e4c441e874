/-
  footbridgelaw12.ProofSound: the walk, over the calls' answers.
-/
import Derived.Test.YtkinnlfjcmhcoaaDoorYXBox
import Derived.Test.YtkinnlfjcmhcoaaDoorZ0f
import Derived.Test.YtkinnlfjcmhcoaaDoorZ0d
import Derived.Test.YtkinnlfjcmhcoaaDoorYKTree
namespace Go.Proofs.YtkinnlfjcmhcoaaDoor.W
open Go.RowKit

set_option maxHeartbeats 4000000 in
set_option maxRecDepth 100000 in
theorem sound_no (v : Value) (p1 p2 : ByteArray) (n pos : Int) (t : Bool) (A1 : Option Addr) (m1 c1 : Nat) (A2 : Option Addr) (m2 c2 : Nat) (w : World) (few ris sm : Bool) (hno : ¬ (few = true ∧ ris = true ∧ sm = true ∧ p1.size ≤ 200 ∧ p2.size ≤ 200))
    (H0 : Hid (∀ W, Since w W → Calls Tryd.prog 8 #[v, .int .i64 10] W fun e w' => e = .returned (.bool few) ∧ Since W w'))
    (H1 : Hid (∀ W, Since w W → Calls Tryd.prog 22 #[v] W fun e w' => e = .returned (.bool ris) ∧ Since W w'))
    (H2 : Hid (∀ W, Since w W → Calls Tryd.prog 13 #[.agg #[.int .i64 n, .int .i64 pos, .bool t, .slice A1 m1 c1, .slice A2 m2 c2]] W fun e w' => e = .returned (.bool sm) ∧ Since W w'))
    (H9 : Hid (∀ W, Since w W → Calls Tryd.prog 9 #[] W fun e w' => e = .returned (.bool true) ∧ Since W w'))
    : Calls Tryd.prog 7 #[v, .agg #[.string p1, .string p2], .agg #[.int .i64 n, .int .i64 pos, .bool t, .slice A1 m1 c1, .slice A2 m2 c2]] w fun e w' => e = .returned (.bool true) ∧ Since w w' := by
  have HB := Lib.hid (boxed w p1 p2 n pos t A1 m1 c1 A2 m2 c2)
  have z0 := HB.out.k0
  have z1 := HB.out.k1
  have z2 := HB.out.y0
  have z3 := HB.out.y1
  have z4 := HB.out.y2
  have z5 := HB.out.y3
  have z6 := HB.out.y4
  go_enter Tryd.func7, Tryd.ntmps7
  go_wp2_with fail
  generalize ((w.alloc (.cells #[.string p1, .string p2] 32)).alloc (.cells #[.int .i64 n, .int .i64 pos, .bool t, .slice A1 m1 c1, .slice A2 m2 c2] 28)) = w0 at *
  have HB0 := Lib.hid HB.out
  clear z0 z1 z2 z3 z4 z5 z6
  clear HB
  have z0 := HB0.out.k0
  have z1 := HB0.out.k1
  have z2 := HB0.out.y0
  have z3 := HB0.out.y1
  have z4 := HB0.out.y2
  have z5 := HB0.out.y3
  have z6 := HB0.out.y4
  refine (H0.out w0 HB0.out.s).mono ?_
  rintro e w1 ⟨rfl, s1⟩
  have HB1 := Lib.hid (HB0.out.next s1)
  clear z0 z1 z2 z3 z4 z5 z6
  have z0 := HB1.out.k0
  have z1 := HB1.out.k1
  have z2 := HB1.out.y0
  have z3 := HB1.out.y1
  have z4 := HB1.out.y2
  have z5 := HB1.out.y3
  have z6 := HB1.out.y4
  clear H0 HB0 s1
  cases few with
  | false =>
    clear hno
    go_wp2_with fail
    clear z0 z1 z2 z3 z4 z5 z6
    refine (H9.out w1 HB1.out.s).mono ?_
    rintro e u1 ⟨rfl, t1⟩
    go_wp2
    go_ret
    exact ⟨rfl, since_of (step_below HB1.out.s.below t1.below)⟩
  | true =>
    go_wp2_with fail
    clear z0 z1 z2 z3 z4 z5 z6
    refine (H1.out w1 HB1.out.s).mono ?_
    rintro e w2 ⟨rfl, s2⟩
    have HB2 := Lib.hid (HB1.out.next s2)
    have z0 := HB2.out.k0
    have z1 := HB2.out.k1
    have z2 := HB2.out.y0
    have z3 := HB2.out.y1
    have z4 := HB2.out.y2
    have z5 := HB2.out.y3
    have z6 := HB2.out.y4
    clear H1 HB1 s2
    cases ris with
    | false =>
      clear hno
      go_wp2_with fail
      clear z0 z1 z2 z3 z4 z5 z6
      refine (H9.out w2 HB2.out.s).mono ?_
      rintro e u1 ⟨rfl, t1⟩
      go_wp2
      go_ret
      exact ⟨rfl, since_of (step_below HB2.out.s.below t1.below)⟩
    | true =>
      go_wp2_with fail
      clear z0 z1 z2 z3 z4 z5 z6
      refine (H2.out w2 HB2.out.s).mono ?_
      rintro e w3 ⟨rfl, s3⟩
      have HB3 := Lib.hid (HB2.out.next s3)
      have z0 := HB3.out.k0
      have z1 := HB3.out.k1
      have z2 := HB3.out.y0
      have z3 := HB3.out.y1
      have z4 := HB3.out.y2
      have z5 := HB3.out.y3
      have z6 := HB3.out.y4
      clear H2 HB2 s3
      cases sm with
      | false =>
        clear hno
        go_wp2_with fail
        clear z0 z1 z2 z3 z4 z5 z6
        refine (H9.out w3 HB3.out.s).mono ?_
        rintro e u1 ⟨rfl, t1⟩
        go_wp2
        go_ret
        exact ⟨rfl, since_of (step_below HB3.out.s.below t1.below)⟩
      | true =>
        have hh : 200 < p1.size ∨ p1.size ≤ 200 ∧ 200 < p2.size := by
          by_cases h2 : p1.size ≤ 200
          · by_cases h3 : p2.size ≤ 200
            · exact absurd ⟨by simp, by simp, by simp, h2, h3⟩ hno
            · omega
          · omega
        clear hno
        rcases hh with h2 | ⟨h2, h3⟩
        · skip
          go_wp2_with fail
          clear z0 z1 z2 z3 z4 z5 z6
          refine (H9.out w3 HB3.out.s).mono ?_
          rintro e u1 ⟨rfl, t1⟩
          go_wp2
          go_ret
          exact ⟨rfl, since_of (step_below HB3.out.s.below t1.below)⟩
        · skip
          go_wp2_with fail
          clear z0 z1 z2 z3 z4 z5 z6
          refine (H9.out w3 HB3.out.s).mono ?_
          rintro e u1 ⟨rfl, t1⟩
          go_wp2
          go_ret
          exact ⟨rfl, since_of (step_below HB3.out.s.below t1.below)⟩
set_option maxHeartbeats 4000000 in
set_option maxRecDepth 100000 in
theorem sound_this (v : Value) (p1 p2 : ByteArray) (n pos : Int) (t : Bool) (A1 : Option Addr) (m1 c1 : Nat) (A2 : Option Addr) (m2 c2 : Nat) (w : World) (few ris sm h lk ok : Bool) (val : ByteArray) (R : List UInt8) (L T1 T2 : List (List UInt8)) (hf : few = true) (hi : ris = true) (hs : sm = true) (h1 : p1.size ≤ 200) (h2 : p2.size ≤ 200)
    (hn1 : h = true → (bss L).length + (bss T1).length ≤ 1000000000) (hn2 : (bss L).length + (bss T2).length ≤ 1000000000)
    (H0 : Hid (∀ W, Since w W → Calls Tryd.prog 8 #[v, .int .i64 10] W fun e w' => e = .returned (.bool few) ∧ Since W w'))
    (H1 : Hid (∀ W, Since w W → Calls Tryd.prog 22 #[v] W fun e w' => e = .returned (.bool ris) ∧ Since W w'))
    (H2 : Hid (∀ W, Since w W → Calls Tryd.prog 13 #[.agg #[.int .i64 n, .int .i64 pos, .bool t, .slice A1 m1 c1, .slice A2 m2 c2]] W fun e w' => e = .returned (.bool sm) ∧ Since W w'))
    (H3 : Hid (∀ W, Since w W → Calls Tryd.prog 25 #[v] W fun e w' => ∃ A m c, e = .returned (.tuple #[.string (bs R), .slice A m c]) ∧ OwnStrs W.heap.size (.slice A m c) (bss L) W w'))
    (H4 : Hid (∀ W, Since w W → Calls Tryd.prog 23 #[v, .string p1] W fun e w' => e = .returned (.tuple #[.string val, .bool ok]) ∧ Since W w'))
    (H5 : Hid (∀ W, Since w W → Calls Tryd.prog 16 #[.string (bs R), .agg #[.string p1, .string p2], .agg #[.int .i64 n, .int .i64 pos, .bool t, .slice A1 m1 c1, .slice A2 m2 c2]] W fun e w' => e = .returned (.bool h) ∧ Since W w'))
    (H6 : Hid (h = true → ∀ W, Since w W → Calls Tryd.prog 14 #[.string (bs R), .agg #[.string p1, .string p2], .agg #[.int .i64 n, .int .i64 pos, .bool t, .slice A1 m1 c1, .slice A2 m2 c2]] W fun e w' => ∃ A m c, e = .returned (.tuple #[.bool true, .slice A m c]) ∧ OwnStrs W.heap.size (.slice A m c) (bss T1) W w'))
    (H7 : Hid (∀ W, Since w W → Calls Tryd.prog 17 #[.string (bs R), .string p1, .agg #[.int .i64 n, .int .i64 pos, .bool t, .slice A1 m1 c1, .slice A2 m2 c2]] W fun e w' => e = .returned (.bool lk) ∧ Since W w'))
    (H8 : Hid (lk = true → ∀ W, Since w W → Calls Tryd.prog 15 #[.string (bs R), .string p1, .agg #[.int .i64 n, .int .i64 pos, .bool t, .slice A1 m1 c1, .slice A2 m2 c2]] W fun e w' => ∃ A m c, e = .returned (.tuple #[.bool true, .slice A m c]) ∧ OwnStrs W.heap.size (.slice A m c) (bss T2) W w'))
    (HT1 : Hid (h = true → (ok = false ∨ val ≠ p2) → ∀ W t, Since w W → Txs W W.heap.size t (bss L ++ bss T1) → Calls Tryd.prog 26 #[t] W fun e w' => e = .returned (.bool true) ∧ Since W w'))
    (HT2 : Hid (lk = true → ok = true → ∀ W t, Since w W → Txs W W.heap.size t (bss L ++ bss T2) → Calls Tryd.prog 26 #[t] W fun e w' => e = .returned (.bool true) ∧ Since W w'))
    (H9 : Hid (∀ W, Since w W → Calls Tryd.prog 9 #[] W fun e w' => e = .returned (.bool true) ∧ Since W w'))
    : Calls Tryd.prog 7 #[v, .agg #[.string p1, .string p2], .agg #[.int .i64 n, .int .i64 pos, .bool t, .slice A1 m1 c1, .slice A2 m2 c2]] w fun e w' => e = .returned (.bool true) ∧ Since w w' := by
  subst hf hi hs
  have HN := Lib.hid (And.intro hn1 hn2)
  clear hn1 hn2
  have HB := Lib.hid (boxed w p1 p2 n pos t A1 m1 c1 A2 m2 c2)
  have z0 := HB.out.k0
  have z1 := HB.out.k1
  have z2 := HB.out.y0
  have z3 := HB.out.y1
  have z4 := HB.out.y2
  have z5 := HB.out.y3
  have z6 := HB.out.y4
  go_enter Tryd.func7, Tryd.ntmps7
  go_wp2_with fail
  generalize ((w.alloc (.cells #[.string p1, .string p2] 32)).alloc (.cells #[.int .i64 n, .int .i64 pos, .bool t, .slice A1 m1 c1, .slice A2 m2 c2] 28)) = w0 at *
  have HB0 := Lib.hid HB.out
  clear z0 z1 z2 z3 z4 z5 z6
  clear HB
  have z0 := HB0.out.k0
  have z1 := HB0.out.k1
  have z2 := HB0.out.y0
  have z3 := HB0.out.y1
  have z4 := HB0.out.y2
  have z5 := HB0.out.y3
  have z6 := HB0.out.y4
  refine (H0.out w0 HB0.out.s).mono ?_
  rintro e w1 ⟨rfl, s1⟩
  have HB1 := Lib.hid (HB0.out.next s1)
  clear z0 z1 z2 z3 z4 z5 z6
  have z0 := HB1.out.k0
  have z1 := HB1.out.k1
  have z2 := HB1.out.y0
  have z3 := HB1.out.y1
  have z4 := HB1.out.y2
  have z5 := HB1.out.y3
  have z6 := HB1.out.y4
  clear H0 HB0 s1
  go_wp2_with fail
  clear z0 z1 z2 z3 z4 z5 z6
  refine (H1.out w1 HB1.out.s).mono ?_
  rintro e w2 ⟨rfl, s2⟩
  have HB2 := Lib.hid (HB1.out.next s2)
  have z0 := HB2.out.k0
  have z1 := HB2.out.k1
  have z2 := HB2.out.y0
  have z3 := HB2.out.y1
  have z4 := HB2.out.y2
  have z5 := HB2.out.y3
  have z6 := HB2.out.y4
  clear H1 HB1 s2
  go_wp2_with fail
  clear z0 z1 z2 z3 z4 z5 z6
  refine (H2.out w2 HB2.out.s).mono ?_
  rintro e w3 ⟨rfl, s3⟩
  have HB3 := Lib.hid (HB2.out.next s3)
  have z0 := HB3.out.k0
  have z1 := HB3.out.k1
  have z2 := HB3.out.y0
  have z3 := HB3.out.y1
  have z4 := HB3.out.y2
  have z5 := HB3.out.y3
  have z6 := HB3.out.y4
  clear H2 HB2 s3
  go_wp2_with fail
  clear z0 z1 z2 z3 z4 z5 z6
  refine (H3.out w3 HB3.out.s).mono ?_
  rintro e w4 ⟨Aa, ma, ca, rfl, o4⟩
  have HB4 := Lib.hid (HB3.out.next (since_of o4.below))
  have OA4 := Lib.hid (OwnStrs.from HB3.out.s.below o4)
  have z0 := HB4.out.k0
  have z1 := HB4.out.k1
  have z2 := HB4.out.y0
  have z3 := HB4.out.y1
  have z4 := HB4.out.y2
  have z5 := HB4.out.y3
  have z6 := HB4.out.y4
  clear H3 HB3 o4
  go_wp2_with fail
  clear z0 z1 z2 z3 z4 z5 z6
  refine (H4.out w4 HB4.out.s).mono ?_
  rintro e w5 ⟨rfl, s5⟩
  have HB5 := Lib.hid (HB4.out.next s5)
  have OA5 := Lib.hid (OA4.out.after s5.below)
  have z0 := HB5.out.k0
  have z1 := HB5.out.k1
  have z2 := HB5.out.y0
  have z3 := HB5.out.y1
  have z4 := HB5.out.y2
  have z5 := HB5.out.y3
  have z6 := HB5.out.y4
  clear H4 HB4 s5 OA4
  go_wp2_with fail
  clear z0 z1 z2 z3 z4 z5 z6
  refine (H5.out w5 HB5.out.s).mono ?_
  rintro e w6 ⟨rfl, s6⟩
  have HB6 := Lib.hid (HB5.out.next s6)
  have OA6 := Lib.hid (OA5.out.after s6.below)
  have z0 := HB6.out.k0
  have z1 := HB6.out.k1
  have z2 := HB6.out.y0
  have z3 := HB6.out.y1
  have z4 := HB6.out.y2
  have z5 := HB6.out.y3
  have z6 := HB6.out.y4
  clear H5 HB5 s6 OA5
  cases h with
  | false =>
    clear H6 HT1
    cases ok with
    | false =>
      go_wp2_with fail
      clear z0 z1 z2 z3 z4 z5 z6
      refine (H7.out w6 HB6.out.s).mono ?_
      rintro e w7 ⟨rfl, s7⟩
      have HB7 := Lib.hid (HB6.out.next s7)
      have OA7 := Lib.hid (OA6.out.after s7.below)
      have z0 := HB7.out.k0
      have z1 := HB7.out.k1
      have z2 := HB7.out.y0
      have z3 := HB7.out.y1
      have z4 := HB7.out.y2
      have z5 := HB7.out.y3
      have z6 := HB7.out.y4
      clear H7 HB6 s7 OA6
      cases lk with
      | false =>
        go_wp2_with fail
        clear z0 z1 z2 z3 z4 z5 z6
        refine (H9.out w7 HB7.out.s).mono ?_
        rintro e u1 ⟨rfl, t1⟩
        go_wp2
        go_ret
        exact ⟨rfl, since_of (step_below HB7.out.s.below t1.below)⟩
      | true =>
        go_wp2_with fail
        clear z0 z1 z2 z3 z4 z5 z6
        refine (H9.out w7 HB7.out.s).mono ?_
        rintro e u1 ⟨rfl, t1⟩
        go_wp2
        go_ret
        exact ⟨rfl, since_of (step_below HB7.out.s.below t1.below)⟩
    | true =>
      go_wp2_with fail
      clear z0 z1 z2 z3 z4 z5 z6
      refine (H7.out w6 HB6.out.s).mono ?_
      rintro e w7 ⟨rfl, s7⟩
      have HB7 := Lib.hid (HB6.out.next s7)
      have OA7 := Lib.hid (OA6.out.after s7.below)
      have z0 := HB7.out.k0
      have z1 := HB7.out.k1
      have z2 := HB7.out.y0
      have z3 := HB7.out.y1
      have z4 := HB7.out.y2
      have z5 := HB7.out.y3
      have z6 := HB7.out.y4
      clear H7 HB6 s7 OA6
      cases lk with
      | false =>
        go_wp2_with fail
        clear z0 z1 z2 z3 z4 z5 z6
        refine (H9.out w7 HB7.out.s).mono ?_
        rintro e u1 ⟨rfl, t1⟩
        go_wp2
        go_ret
        exact ⟨rfl, since_of (step_below HB7.out.s.below t1.below)⟩
      | true =>
        have HZ := Lib.hid (H8.out (by simp))
        have HTZ := Lib.hid (HT2.out (by simp) (by simp))
        have HLN := Lib.hid HN.out.2
        clear H8 HT2
        go_wp2_with fail
        clear z0 z1 z2 z3 z4 z5 z6
        refine (HZ.out w7 HB7.out.s).mono ?_
        rintro e u1 ⟨B1, d1, e1, rfl, o1⟩
        have OB := Lib.hid (OA7.out.after o1.below)
        have OC := Lib.hid o1
        clear HZ HB7 OA7 o1
        go_wp2_with (at_builtin; refine wpList_append_txs _ rfl _ _ rfl w.heap.size _ (.slice Aa ma ca) (.slice B1 d1 e1) (bss L) (bss T2) rfl rfl w OB.out OC.out.txs HLN.out ?_; intro v7 u2 o7 g7; have O7 := Lib.hid o7; clear o7 g7 OB OC)
        refine (HTZ.out u2 v7 (since_of O7.out.below) O7.out.txs).mono ?_
        rintro e u3 ⟨rfl, s3'⟩
        go_wp2
        go_ret
        exact ⟨rfl, since_of (step_below O7.out.below s3'.below)⟩
  | true =>
    cases ok with
    | false =>
      have HZ := Lib.hid (H6.out (by simp))
      have HTZ := Lib.hid (HT1.out (by simp) (by simp))
      have HLN := Lib.hid (HN.out.1 (by simp))
      clear H6 HT1 H7 H8 HT2
      go_wp2_with fail
      clear z0 z1 z2 z3 z4 z5 z6
      refine (HZ.out w6 HB6.out.s).mono ?_
      rintro e u1 ⟨B1, d1, e1, rfl, o1⟩
      have OB := Lib.hid (OA6.out.after o1.below)
      have OC := Lib.hid o1
      clear HZ HB6 OA6 o1
      go_wp2_with (at_builtin; refine wpList_append_txs _ rfl _ _ rfl w.heap.size _ (.slice Aa ma ca) (.slice B1 d1 e1) (bss L) (bss T1) rfl rfl w OB.out OC.out.txs HLN.out ?_; intro v7 u2 o7 g7; have O7 := Lib.hid o7; clear o7 g7 OB OC)
      refine (HTZ.out u2 v7 (since_of O7.out.below) O7.out.txs).mono ?_
      rintro e u3 ⟨rfl, s3'⟩
      go_wp2
      go_ret
      exact ⟨rfl, since_of (step_below O7.out.below s3'.below)⟩
    | true =>
      by_cases he : val = p2
      · subst he
        clear H6 HT1
        go_wp2_with fail
        clear z0 z1 z2 z3 z4 z5 z6
        refine (H7.out w6 HB6.out.s).mono ?_
        rintro e w7 ⟨rfl, s7⟩
        have HB7 := Lib.hid (HB6.out.next s7)
        have OA7 := Lib.hid (OA6.out.after s7.below)
        have z0 := HB7.out.k0
        have z1 := HB7.out.k1
        have z2 := HB7.out.y0
        have z3 := HB7.out.y1
        have z4 := HB7.out.y2
        have z5 := HB7.out.y3
        have z6 := HB7.out.y4
        clear H7 HB6 s7 OA6
        cases lk with
        | false =>
          go_wp2_with fail
          clear z0 z1 z2 z3 z4 z5 z6
          refine (H9.out w7 HB7.out.s).mono ?_
          rintro e u1 ⟨rfl, t1⟩
          go_wp2
          go_ret
          exact ⟨rfl, since_of (step_below HB7.out.s.below t1.below)⟩
        | true =>
          have HZ := Lib.hid (H8.out (by simp))
          have HTZ := Lib.hid (HT2.out (by simp) (by simp))
          have HLN := Lib.hid HN.out.2
          clear H8 HT2
          go_wp2_with fail
          clear z0 z1 z2 z3 z4 z5 z6
          refine (HZ.out w7 HB7.out.s).mono ?_
          rintro e u1 ⟨B1, d1, e1, rfl, o1⟩
          have OB := Lib.hid (OA7.out.after o1.below)
          have OC := Lib.hid o1
          clear HZ HB7 OA7 o1
          go_wp2_with (at_builtin; refine wpList_append_txs _ rfl _ _ rfl w.heap.size _ (.slice Aa ma ca) (.slice B1 d1 e1) (bss L) (bss T2) rfl rfl w OB.out OC.out.txs HLN.out ?_; intro v7 u2 o7 g7; have O7 := Lib.hid o7; clear o7 g7 OB OC)
          refine (HTZ.out u2 v7 (since_of O7.out.below) O7.out.txs).mono ?_
          rintro e u3 ⟨rfl, s3'⟩
          go_wp2
          go_ret
          exact ⟨rfl, since_of (step_below O7.out.below s3'.below)⟩
      · have HZ := Lib.hid (H6.out (by simp))
        have HTZ := Lib.hid (HT1.out (by simp) (by simp [he]))
        have HLN := Lib.hid (HN.out.1 (by simp))
        have hne := str_ne he
        clear H6 HT1 H7 H8 HT2 he
        go_wp2_with fail
        clear z0 z1 z2 z3 z4 z5 z6
        refine (HZ.out w6 HB6.out.s).mono ?_
        rintro e u1 ⟨B1, d1, e1, rfl, o1⟩
        have OB := Lib.hid (OA6.out.after o1.below)
        have OC := Lib.hid o1
        clear HZ HB6 OA6 o1
        go_wp2_with (at_builtin; refine wpList_append_txs _ rfl _ _ rfl w.heap.size _ (.slice Aa ma ca) (.slice B1 d1 e1) (bss L) (bss T1) rfl rfl w OB.out OC.out.txs HLN.out ?_; intro v7 u2 o7 g7; have O7 := Lib.hid o7; clear o7 g7 OB OC)
        refine (HTZ.out u2 v7 (since_of O7.out.below) O7.out.txs).mono ?_
        rintro e u3 ⟨rfl, s3'⟩
        go_wp2
        go_ret
        exact ⟨rfl, since_of (step_below O7.out.below s3'.below)⟩
set_option maxHeartbeats 4000000 in
set_option maxRecDepth 100000 in
theorem sound_few (v : Value) (p1 p2 : ByteArray) (n pos : Int) (t : Bool) (A1 : Option Addr) (m1 c1 : Nat) (A2 : Option Addr) (m2 c2 : Nat) (w : World)
    (H0 : Hid (∀ W, Since w W → Calls Tryd.prog 8 #[v, .int .i64 10] W fun e w' => e = .returned (.bool false) ∧ Since W w'))
    (H9 : Hid (∀ W, Since w W → Calls Tryd.prog 9 #[] W fun e w' => e = .returned (.bool true) ∧ Since W w'))
    : Calls Tryd.prog 7 #[v, .agg #[.string p1, .string p2], .agg #[.int .i64 n, .int .i64 pos, .bool t, .slice A1 m1 c1, .slice A2 m2 c2]] w fun e w' => e = .returned (.bool true) ∧ Since w w' := by
  have HB := Lib.hid (boxed w p1 p2 n pos t A1 m1 c1 A2 m2 c2)
  have z0 := HB.out.k0
  have z1 := HB.out.k1
  have z2 := HB.out.y0
  have z3 := HB.out.y1
  have z4 := HB.out.y2
  have z5 := HB.out.y3
  have z6 := HB.out.y4
  go_enter Tryd.func7, Tryd.ntmps7
  go_wp2_with fail
  generalize ((w.alloc (.cells #[.string p1, .string p2] 32)).alloc (.cells #[.int .i64 n, .int .i64 pos, .bool t, .slice A1 m1 c1, .slice A2 m2 c2] 28)) = w0 at *
  have HB0 := Lib.hid HB.out
  clear z0 z1 z2 z3 z4 z5 z6
  clear HB
  have z0 := HB0.out.k0
  have z1 := HB0.out.k1
  have z2 := HB0.out.y0
  have z3 := HB0.out.y1
  have z4 := HB0.out.y2
  have z5 := HB0.out.y3
  have z6 := HB0.out.y4
  refine (H0.out w0 HB0.out.s).mono ?_
  rintro e w1 ⟨rfl, s1⟩
  have HB1 := Lib.hid (HB0.out.next s1)
  clear z0 z1 z2 z3 z4 z5 z6
  have z0 := HB1.out.k0
  have z1 := HB1.out.k1
  have z2 := HB1.out.y0
  have z3 := HB1.out.y1
  have z4 := HB1.out.y2
  have z5 := HB1.out.y3
  have z6 := HB1.out.y4
  clear H0 HB0 s1
  go_wp2_with fail
  clear z0 z1 z2 z3 z4 z5 z6
  refine (H9.out w1 HB1.out.s).mono ?_
  rintro e u1 ⟨rfl, t1⟩
  go_wp2
  go_ret
  exact ⟨rfl, since_of (step_below HB1.out.s.below t1.below)⟩
end Go.Proofs.YtkinnlfjcmhcoaaDoor.W
