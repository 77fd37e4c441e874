/-
  The reference's places and Has.
-/
import Derived.Test.YtkinnlfjcmhcoaaDoorYXRWalk
import Derived.Test.YtkinnlfjcmhcoaaDoorZ0e
import Derived.Test.YtkinnlfjcmhcoaaDoorYCInts
namespace Go.Proofs.YtkinnlfjcmhcoaaDoor.W
open Go.RowKit

theorem int_slice {B : Nat} {v : Value} {l : List Int} {W0 w : World} (h : OwnInts B v l W0 w) : ∃ A c, v = .slice A l.length c := by
  obtain ⟨A, c, e, _⟩ := h.ints
  exact ⟨A, c, e⟩
theorem OwnInts.from {w w1 w2 : World} {v : Value} {l : List Int} (h : Below w.heap.size w w1) (k : OwnInts w1.heap.size v l w1 w2) : OwnInts w.heap.size v l w w2 :=
  ⟨own_down k.1 h.size, step_below h k.below, Nat.le_trans h.size k.2.2⟩
set_option maxHeartbeats 2000000 in
set_option maxRecDepth 100000 in
theorem placesC (n pos : Int) (t : Bool) (A1 A2 : Option Addr) (m1 c1 m2 c2 : Nat) (w : World) (h0 : -9223372036854775808 ≤ pos) (h2 : pos ≤ 9223372036854775807) :
    Calls Tryd.prog 37 #[.agg #[.int .i64 n, .int .i64 pos, .bool t, .slice A1 m1 c1, .slice A2 m2 c2]] w fun e w' => ∃ v, e = .returned v ∧ OwnInts w.heap.size v (plOf pos n) w w' := by
  have k1 := Blk.new w 28 #[.int .i64 n, .int .i64 pos, .bool t, .slice A1 m1 c1, .slice A2 m2 c2]
  have HB := Lib.hid ((Below.refl w.heap.size w).alloc (Nat.le_refl _) (.cells #[.int .i64 n, .int .i64 pos, .bool t, .slice A1 m1 c1, .slice A2 m2 c2] 28))
  have hz : (w.alloc (.cells #[.int .i64 n, .int .i64 pos, .bool t, .slice A1 m1 c1, .slice A2 m2 c2] 28)).heap.size = w.heap.size + 1 := by simp
  have q0 := (k1.cell 0).trans (by rfl : _ = some (Value.int .i64 n))
  have q1 := (k1.cell 1).trans (by rfl : _ = some (Value.int .i64 pos))
  clear k1
  unfold plOf
  by_cases ha : 0 < pos
  · have w1 : IntKind.i64.wrap (pos - 1) = pos - 1 := IntWalk.i64_in _ (by omega)
    by_cases hn : pos < n
    · rw [if_pos ha, if_pos hn]
      go_enter Tryd.func37, Tryd.ntmps37
      go_wp2_with (at_builtin; first
        | (refine wpList_append_int rfl _ _ rfl (w.alloc (.cells #[.int .i64 n, .int .i64 pos, .bool t, .slice A1 m1 c1, .slice A2 m2 c2] 28)).heap.size v5 _ rfl (w.alloc (.cells #[.int .i64 n, .int .i64 pos, .bool t, .slice A1 m1 c1, .slice A2 m2 c2] 28)) w5 pos _ rfl P5.out rfl (by simp) ?_; intro v7 w7 o7; have O7 := Lib.hid (OwnInts.from HB.out o7); clear o7)
        | (refine wpList_append_int rfl _ _ rfl (w.alloc (.cells #[.int .i64 n, .int .i64 pos, .bool t, .slice A1 m1 c1, .slice A2 m2 c2] 28)).heap.size _ _ rfl (w.alloc (.cells #[.int .i64 n, .int .i64 pos, .bool t, .slice A1 m1 c1, .slice A2 m2 c2] 28)) (w.alloc (.cells #[.int .i64 n, .int .i64 pos, .bool t, .slice A1 m1 c1, .slice A2 m2 c2] 28)) (pos - 1) _ hz (OwnInts_nil _) rfl (by simp) ?_; intro v5 w5 o5; have O5 := Lib.hid (OwnInts.from HB.out o5); have P5 := Lib.hid o5; have z0 := (since_of o5.below).cell q0; have z1 := (since_of o5.below).cell q1; clear o5))
      go_ret
      exact ⟨_, rfl, O7.out⟩
    · rw [if_pos ha, if_neg hn]
      go_enter Tryd.func37, Tryd.ntmps37
      go_wp2_with (at_builtin; (refine wpList_append_int rfl _ _ rfl (w.alloc (.cells #[.int .i64 n, .int .i64 pos, .bool t, .slice A1 m1 c1, .slice A2 m2 c2] 28)).heap.size _ _ rfl (w.alloc (.cells #[.int .i64 n, .int .i64 pos, .bool t, .slice A1 m1 c1, .slice A2 m2 c2] 28)) (w.alloc (.cells #[.int .i64 n, .int .i64 pos, .bool t, .slice A1 m1 c1, .slice A2 m2 c2] 28)) (pos - 1) _ hz (OwnInts_nil _) rfl (by simp) ?_; intro v5 w5 o5; have O5 := Lib.hid (OwnInts.from HB.out o5); have P5 := Lib.hid o5; have z0 := (since_of o5.below).cell q0; have z1 := (since_of o5.below).cell q1; clear o5))
      go_ret
      exact ⟨_, rfl, O5.out⟩
  · by_cases hn : pos < n
    · rw [if_neg ha, if_pos hn]
      go_enter Tryd.func37, Tryd.ntmps37
      go_wp2_with (at_builtin; (refine wpList_append_int rfl _ _ rfl (w.alloc (.cells #[.int .i64 n, .int .i64 pos, .bool t, .slice A1 m1 c1, .slice A2 m2 c2] 28)).heap.size _ _ rfl (w.alloc (.cells #[.int .i64 n, .int .i64 pos, .bool t, .slice A1 m1 c1, .slice A2 m2 c2] 28)) (w.alloc (.cells #[.int .i64 n, .int .i64 pos, .bool t, .slice A1 m1 c1, .slice A2 m2 c2] 28)) pos _ hz (OwnInts_nil _) rfl (by simp) ?_; intro v5 w5 o5; have O5 := Lib.hid (OwnInts.from HB.out o5); have P5 := Lib.hid o5; have z0 := (since_of o5.below).cell q0; have z1 := (since_of o5.below).cell q1; clear o5))
      go_ret
      exact ⟨_, rfl, O5.out⟩
    · rw [if_neg ha, if_neg hn]
      have R := Lib.hid (OwnInts.start HB.out)
      go_enter Tryd.func37, Tryd.ntmps37
      go_wp2
      go_ret
      exact ⟨_, rfl, R.out⟩

/-! ### Has -/
def TellPost (w : World) (b : Bool) (L : List (List UInt8)) (e : Ending) (w' : World) : Prop := ∃ u M, e = .returned (.tuple #[.bool b, u]) ∧ OwnStrs w.heap.size u (bss M) w w' ∧ (b = true → M = L)
theorem tell_no {w w' : World} {L : List (List UInt8)} (h : Below w.heap.size w w') : TellPost w false L (.returned (.tuple #[.bool false, .slice none 0 0])) w' := ⟨_, [], rfl, OwnStrs.start h, fun e => by cases e⟩
set_option maxHeartbeats 1000000 in
set_option maxRecDepth 100000 in
theorem rHasNo (root p1 p2 : ByteArray) (n pos : Int) (t : Bool) (A1 A2 : Option Addr) (m1 c1 m2 c2 : Nat) (L : List (List UInt8)) (w : World) (h : t = false ∨ m1 ≠ 0 ∨ m2 ≠ 1) :
    Calls Tryd.prog 14 #[.string root, .agg #[.string p1, .string p2], .agg #[.int .i64 n, .int .i64 pos, .bool t, .slice A1 m1 c1, .slice A2 m2 c2]] w (TellPost w false L) := by
  have R : Below w.heap.size w ((w.alloc (.cells #[.string p1, .string p2] 32)).alloc (.cells #[.int .i64 n, .int .i64 pos, .bool t, .slice A1 m1 c1, .slice A2 m2 c2] 28)) := by go_grown
  have HR := Lib.hid (tell_no (L := L) R)
  clear R
  cases t with
  | false =>
    clear h
    go_enter Tryd.func14, Tryd.ntmps14
    go_wp2
    go_ret2
    exact HR.out
  | true =>
    by_cases h1 : m1 = 0
    · subst h1
      have h2 : ((m2 : Int) != 1) = true := by rw [bne_iff_ne]; rcases h with h | h | h <;> first | cases h | omega
      clear h
      go_enter Tryd.func14, Tryd.ntmps14
      go_wp2
      go_ret2
      exact HR.out
    · have h2 : ((m1 : Int) != 0) = true := by rw [bne_iff_ne]; omega
      clear h h1
      go_enter Tryd.func14, Tryd.ntmps14
      go_wp2
      go_ret2
      exact HR.out
set_option maxHeartbeats 2000000 in
set_option maxRecDepth 100000 in
theorem rHasYes (root p1 p2 : ByteArray) (n pos : Int) (A1 : Option Addr) (c1 b off c2 : Nat) (u : Value) (w : World) (out : Bool) (L : List (List UInt8)) (hc : w.cell? ⟨b, off, none⟩ = some u)
    (H : Hid (∀ W, Since w W → Calls Tryd.prog 36 #[.string root, .agg #[.string p1, .string p2], .int .i64 n, .int .i64 pos, u] W fun e w' => ∃ A c, e = .returned (.tuple #[.bool out, .slice A L.length c]) ∧ OwnStrs W.heap.size (.slice A L.length c) (bss L) W w')) :
    Calls Tryd.prog 14 #[.string root, .agg #[.string p1, .string p2], .agg #[.int .i64 n, .int .i64 pos, .bool true, .slice A1 0 c1, .slice (some ⟨b, off, none⟩) 1 c2]] w (TellPost w out L) := by
  have R : Since w ((w.alloc (.cells #[.string p1, .string p2] 32)).alloc (.cells #[.int .i64 n, .int .i64 pos, .bool true, .slice A1 0 c1, .slice (some ⟨b, off, none⟩) 1 c2] 28)) := since_of (by go_grown)
  have k1 := (Blk.new w 32 #[.string p1, .string p2]).alloc (.cells #[.int .i64 n, .int .i64 pos, .bool true, .slice A1 0 c1, .slice (some ⟨b, off, none⟩) 1 c2] 28)
  have k2 := Blk.new (w.alloc (.cells #[.string p1, .string p2] 32)) 28 #[.int .i64 n, .int .i64 pos, .bool true, .slice A1 0 c1, .slice (some ⟨b, off, none⟩) 1 c2]
  rw [show (w.alloc (.cells #[.string p1, .string p2] 32)).heap.size = w.heap.size + 1 by simp] at k2
  have q0 := k1.cell 0
  have q1 := k1.cell 1
  have q2 := k2.cell 0
  have q3 := k2.cell 1
  have q4 := k2.cell 4
  have q5 := R.cell hc
  have HR := Lib.hid R
  clear R k1 k2 hc
  go_enter Tryd.func14, Tryd.ntmps14
  go_wp2
  generalize (w.alloc (.cells #[.string p1, .string p2] 32)).alloc (.cells #[.int .i64 n, .int .i64 pos, .bool true, .slice A1 0 c1, .slice (some ⟨b, off, none⟩) 1 c2] 28) = V at *
  have r0 := HR.out
  simp only [List.getElem?_toArray, List.getElem?_cons_zero, List.getElem?_cons_succ] at q0 q1 q2 q3 q4
  go_region_held3 (fun W => W.cell? ⟨w.heap.size, 0, none⟩ = some (.string p1) ∧ W.cell? ⟨w.heap.size, 1, none⟩ = some (.string p2) ∧ W.cell? ⟨w.heap.size + 1, 0, none⟩ = some (.int .i64 n) ∧ W.cell? ⟨w.heap.size + 1, 1, none⟩ = some (.int .i64 pos) ∧ W.cell? ⟨w.heap.size + 1, 4, none⟩ = some (.slice (some ⟨b, off, none⟩) 1 c2) ∧ W.cell? ⟨b, off, none⟩ = some u)
    (first | exact ⟨(since_of o5.below).cell q0, (since_of o5.below).cell q1, (since_of o5.below).cell q2, (since_of o5.below).cell q3, (since_of o5.below).cell q4, (since_of o5.below).cell q5⟩ | go_keep)
    (first
      | (go_at_call 36; refine (H.out _ (by exact r0)).mono ?_; clear H; rintro en w5 ⟨A, c, rfl, o5⟩))
  all_goals go_wp2
  all_goals go_ret2
  all_goals exact ⟨_, L, rfl, OwnStrs.from (Below.drewN r0.below 1) o5, fun _ => rfl⟩
theorem own_sl {B : Nat} {v : Value} {L : List (List UInt8)} {W0 w : World} (h : OwnStrs B v (bss L) W0 w) : ∃ A c, v = .slice A L.length c := by
  obtain ⟨A, c, e, _⟩ := h.txs
  rw [bss_len] at e
  exact ⟨A, c, e⟩
theorem rHasC (root : List UInt8) (p : KV) (x : Pf) (v : Value) (w : World) (hP : Prf w v x) (hn : x.n ≤ 9223372036854775807) (hq : ∀ q ∈ x.paths, q.length ≤ 1000000 ∧ ∀ y ∈ q, y.length ≤ 1000) :
    Calls Tryd.prog 14 #[.string (bs root), .agg #[.string p.1, .string p.2], v] w (TellPost w (hasP root p x) (hasTexts p x)) := by
  obtain ⟨n, pos, there, near, paths⟩ := x
  obtain ⟨nv, pv, rfl, ⟨A1, c1, rfl, _, _⟩, ⟨A2, c2, rfl, _, hc⟩⟩ := hP
  simp only at hn hq hc ⊢
  by_cases h : there = true ∧ near = [] ∧ paths.length = 1
  · obtain ⟨rfl, rfl, h3⟩ := h
    obtain ⟨q, rfl⟩ := List.length_eq_one_iff.1 h3
    obtain ⟨b, off, u, rfl, d, hT, hR⟩ := hc 0 q rfl
    have h4 := hq q (by simp)
    rw [Nat.add_zero] at d
    exact rHasYes (bs root) p.1 p.2 n pos A1 c1 b off c2 u w _ (reachTexts p q pos n) d (Lib.hid fun W hW => (leadsC root p q u pos n W ((hT.below hW.below).more hW.2.2.2.1) hR hn h4.1 h4.2).mono fun e w' ⟨u, he, ho⟩ => by
      obtain ⟨A, c, rfl⟩ := own_sl ho
      exact ⟨A, c, he, ho⟩)
  · have e : hasP root p ⟨n, pos, there, near, paths⟩ = false := by
      match there, near, paths with
      | false, _, _ => rfl
      | true, _ :: _, _ => rfl
      | true, [], [] => rfl
      | true, [], [_] => exact absurd ⟨rfl, rfl, rfl⟩ h
      | true, [], _ :: _ :: _ => rfl
    rw [e]
    refine rHasNo (bs root) p.1 p.2 n pos there A1 A2 near.length c1 paths.length c2 _ w ?_
    cases there with
    | false => exact .inl rfl
    | true =>
      right
      by_cases h1 : near = []
      · exact .inr fun h2 => h ⟨rfl, h1, h2⟩
      · exact .inl fun h2 => h1 (List.eq_nil_of_length_eq_zero h2)
end Go.Proofs.YtkinnlfjcmhcoaaDoor.W
