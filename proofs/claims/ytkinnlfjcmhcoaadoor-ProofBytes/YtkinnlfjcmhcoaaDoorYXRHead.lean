/-
  The reference's head: the first four numbers of a proof's bytes.
-/
import Derived.Test.YtkinnlfjcmhcoaaDoorZXRead
import Derived.Test.YtkinnlfjcmhcoaaDoorYWRefTx
namespace Go.Proofs.YtkinnlfjcmhcoaaDoor.W
open Go.RowKit

/-- the boxes of head -/
structure HdAt (w : World) (s : ByteArray) (e n1 n2 : Int) (t : Bool) (W : World) : Prop where
  r : Blk W w.heap.size 94 #[.string s, .int .i64 e]
  rr : Blk W (w.heap.size + 1) 94 #[.string ⟨#[]⟩, .int .i64 0]
  rx : Blk W (w.heap.size + 1 + 1) 28 #[.int .i64 0, .int .i64 0, .bool false, .slice none 0 0, .slice none 0 0]
  x : Blk W (w.heap.size + 1 + 1 + 1) 28 #[.int .i64 n1, .int .i64 n2, .bool t, .slice none 0 0, .slice none 0 0]
  s : Since w W
section
variable {w W W' : World} {s s' : ByteArray} {e e' n1 n2 : Int} {t : Bool}
theorem hd_start (w : World) (s : ByteArray) (e : Int) : HdAt w s e 0 0 false ((((w.alloc (.cells #[.string s, .int .i64 e] 94)).alloc (.cells #[.string ⟨#[]⟩, .int .i64 0] 94)).alloc (.cells #[.int .i64 0, .int .i64 0, .bool false, .slice none 0 0, .slice none 0 0] 28)).alloc (.cells #[.int .i64 0, .int .i64 0, .bool false, .slice none 0 0, .slice none 0 0] 28)) := by
  have h1 := Blk.new w 94 #[.string s, .int .i64 e]
  have b1 : Below w.heap.size w (w.alloc (.cells #[.string s, .int .i64 e] 94)) := (Below.refl _ w).alloc (Nat.le_refl _) _
  have e1 : (w.alloc (.cells #[.string s, .int .i64 e] 94)).heap.size = w.heap.size + 1 := by simp
  generalize w.alloc (.cells #[.string s, .int .i64 e] 94) = W1 at *
  have h2 := Blk.new W1 94 #[.string ⟨#[]⟩, .int .i64 0]
  rw [e1] at h2
  have h1' := h1.alloc (.cells #[.string ⟨#[]⟩, .int .i64 0] 94)
  have b2 : Below w.heap.size w (W1.alloc (.cells #[.string ⟨#[]⟩, .int .i64 0] 94)) := b1.alloc b1.size _
  have e2 : (W1.alloc (.cells #[.string ⟨#[]⟩, .int .i64 0] 94)).heap.size = w.heap.size + 1 + 1 := by simp [e1]
  generalize W1.alloc (.cells #[.string ⟨#[]⟩, .int .i64 0] 94) = W2 at *
  have h3 := Blk.new W2 28 #[.int .i64 0, .int .i64 0, .bool false, .slice none 0 0, .slice none 0 0]
  rw [e2] at h3
  have b3 : Below w.heap.size w (W2.alloc (.cells #[.int .i64 0, .int .i64 0, .bool false, .slice none 0 0, .slice none 0 0] 28)) := b2.alloc b2.size _
  have e3 : (W2.alloc (.cells #[.int .i64 0, .int .i64 0, .bool false, .slice none 0 0, .slice none 0 0] 28)).heap.size = w.heap.size + 1 + 1 + 1 := by simp [e2]
  have h1'' := h1'.alloc (.cells #[.int .i64 0, .int .i64 0, .bool false, .slice none 0 0, .slice none 0 0] 28)
  have h2' := h2.alloc (.cells #[.int .i64 0, .int .i64 0, .bool false, .slice none 0 0, .slice none 0 0] 28)
  generalize W2.alloc (.cells #[.int .i64 0, .int .i64 0, .bool false, .slice none 0 0, .slice none 0 0] 28) = W3 at *
  have h4 := Blk.new W3 28 #[.int .i64 0, .int .i64 0, .bool false, .slice none 0 0, .slice none 0 0]
  rw [e3] at h4
  exact ⟨h1''.alloc _, h2'.alloc _, h3.alloc _, h4, since_of (b3.alloc b3.size _)⟩
theorem HdAt.next (h : HdAt w s e n1 n2 t W) (k : Below W.heap.size W W') : HdAt w s e n1 n2 t W' := ⟨h.r.below k h.r.lt, h.rr.below k h.rr.lt, h.rx.below k h.rx.lt, h.x.below k h.x.lt, since_of (step_below h.s.below k)⟩
theorem HdAt.setR (h : HdAt w s e n1 n2 t W) (s' : ByteArray) (e' : Int) : HdAt w s' e' n1 n2 t ((W.setCell ⟨w.heap.size, 0, none⟩ (.string s')).setCell ⟨w.heap.size, 1, none⟩ (.int .i64 e')) :=
  ⟨(h.r.set_ 0 _).set_ 1 _, (h.rr.far (p := ⟨w.heap.size, 0, none⟩) (by simp only; omega) _).far (p := ⟨w.heap.size, 1, none⟩) (by simp only; omega) _, (h.rx.far (p := ⟨w.heap.size, 0, none⟩) (by simp only; omega) _).far (p := ⟨w.heap.size, 1, none⟩) (by simp only; omega) _, (h.x.far (p := ⟨w.heap.size, 0, none⟩) (by simp only; omega) _).far (p := ⟨w.heap.size, 1, none⟩) (by simp only; omega) _, since_put (since_put h.s (by simp only; omega) _) (by simp only; omega) _⟩
theorem HdAt.setX (h : HdAt w s e n1 n2 t W) (i : Nat) (v : Value) (n1' n2' : Int) (t' : Bool) (hx : (#[.int .i64 n1, .int .i64 n2, .bool t, .slice none 0 0, .slice none 0 0] : Array Value).setIfInBounds i v = #[.int .i64 n1', .int .i64 n2', .bool t', .slice none 0 0, .slice none 0 0]) :
    HdAt w s e n1' n2' t' (W.setCell ⟨w.heap.size + 1 + 1 + 1, i, none⟩ v) := by
  have hxs := h.x.set_ i v
  rw [hx] at hxs
  exact ⟨h.r.far (p := ⟨w.heap.size + 1 + 1 + 1, i, none⟩) (by simp only; omega) _, h.rr.far (p := ⟨w.heap.size + 1 + 1 + 1, i, none⟩) (by simp only; omega) _, h.rx.far (p := ⟨w.heap.size + 1 + 1 + 1, i, none⟩) (by simp only; omega) _, hxs, since_put h.s (by simp only; omega) _⟩
theorem hd_done (h : HdAt w s e n1 n2 t W) (s' : ByteArray) (e' : Int) (v0 v1 v2 v3 v4 : Value) :
    Blk ((((((((W.setCell ⟨w.heap.size + 1, 0, none⟩ (.string s')).setCell ⟨w.heap.size + 1, 1, none⟩ (.int .i64 e')).setCell ⟨w.heap.size + 1 + 1, 0, none⟩ v0).setCell ⟨w.heap.size + 1 + 1, 1, none⟩ v1).setCell ⟨w.heap.size + 1 + 1, 2, none⟩ v2).setCell ⟨w.heap.size + 1 + 1, 3, none⟩ v3).setCell ⟨w.heap.size + 1 + 1, 4, none⟩ v4).drew) (w.heap.size + 1) 94 #[.string s', .int .i64 e'] ∧
    Blk ((((((((W.setCell ⟨w.heap.size + 1, 0, none⟩ (.string s')).setCell ⟨w.heap.size + 1, 1, none⟩ (.int .i64 e')).setCell ⟨w.heap.size + 1 + 1, 0, none⟩ v0).setCell ⟨w.heap.size + 1 + 1, 1, none⟩ v1).setCell ⟨w.heap.size + 1 + 1, 2, none⟩ v2).setCell ⟨w.heap.size + 1 + 1, 3, none⟩ v3).setCell ⟨w.heap.size + 1 + 1, 4, none⟩ v4).drew) (w.heap.size + 1 + 1) 28 #[v0, v1, v2, v3, v4] ∧
    Since w ((((((((W.setCell ⟨w.heap.size + 1, 0, none⟩ (.string s')).setCell ⟨w.heap.size + 1, 1, none⟩ (.int .i64 e')).setCell ⟨w.heap.size + 1 + 1, 0, none⟩ v0).setCell ⟨w.heap.size + 1 + 1, 1, none⟩ v1).setCell ⟨w.heap.size + 1 + 1, 2, none⟩ v2).setCell ⟨w.heap.size + 1 + 1, 3, none⟩ v3).setCell ⟨w.heap.size + 1 + 1, 4, none⟩ v4).drew) := by
  have k1 : Blk ((W.setCell ⟨w.heap.size + 1, 0, none⟩ (.string s')).setCell ⟨w.heap.size + 1, 1, none⟩ (.int .i64 e')) (w.heap.size + 1) 94 #[.string s', .int .i64 e'] := (h.rr.set_ 0 _).set_ 1 _
  have k2 : Blk ((W.setCell ⟨w.heap.size + 1, 0, none⟩ (.string s')).setCell ⟨w.heap.size + 1, 1, none⟩ (.int .i64 e')) (w.heap.size + 1 + 1) 28 #[.int .i64 0, .int .i64 0, .bool false, .slice none 0 0, .slice none 0 0] := (h.rx.far (p := ⟨w.heap.size + 1, 0, none⟩) (by simp only; omega) _).far (p := ⟨w.heap.size + 1, 1, none⟩) (by simp only; omega) _
  have k3 : Since w ((W.setCell ⟨w.heap.size + 1, 0, none⟩ (.string s')).setCell ⟨w.heap.size + 1, 1, none⟩ (.int .i64 e')) := since_put (since_put h.s (by simp only; omega) _) (by simp only; omega) _
  generalize (W.setCell ⟨w.heap.size + 1, 0, none⟩ (.string s')).setCell ⟨w.heap.size + 1, 1, none⟩ (.int .i64 e') = V at *
  have K1 := blk_put5 k1 (show w.heap.size + 1 ≠ w.heap.size + 1 + 1 by omega) v0 v1 v2 v3 v4
  have K2 := put5 k2 v0 v1 v2 v3 v4
  have K3 := since_put5 k3 (show w.heap.size ≤ w.heap.size + 1 + 1 by omega) v0 v1 v2 v3 v4
  clear k1 k2 k3
  generalize ((((V.setCell ⟨w.heap.size + 1 + 1, 0, none⟩ v0).setCell ⟨w.heap.size + 1 + 1, 1, none⟩ v1).setCell ⟨w.heap.size + 1 + 1, 2, none⟩ v2).setCell ⟨w.heap.size + 1 + 1, 3, none⟩ v3).setCell ⟨w.heap.size + 1 + 1, 4, none⟩ v4 = U at *
  exact ⟨K1, K2, since_of (Below.drewN K3.below 1)⟩
end
/-- what head answers -/
def HeadPost (w : World) (s4 : ByteArray) (e4 : Int) (n1 n2 n3 n4 : Nat) (e : Ending) (w' : World) : Prop :=
  Since w w' ∧ ((e4 ≠ 0 ∧ ∃ s' e' m1 m2 t, e = .returned (.tuple #[rV s' e', .agg #[.int .i64 m1, .int .i64 m2, .bool t, .slice none 0 0, .slice none 0 0], .int .i64 0, .int .i64 e4])) ∨
    (e4 = 0 ∧ (1 < n3 ∨ 2 < n4 ∨ (n3 = 1 ∧ 0 < n4)) ∧ ∃ s' e' m1 m2 t, e = .returned (.tuple #[rV s' e', .agg #[.int .i64 m1, .int .i64 m2, .bool t, .slice none 0 0, .slice none 0 0], .int .i64 0, .int .i64 6])) ∨
    (e4 = 0 ∧ ¬ (1 < n3 ∨ 2 < n4 ∨ (n3 = 1 ∧ 0 < n4)) ∧ e = .returned (.tuple #[rV s4 0, .agg #[.int .i64 n1, .int .i64 n2, .bool (decide (n3 = 1)), .slice none 0 0, .slice none 0 0], .int .i64 n4, .int .i64 0])))
set_option maxHeartbeats 4000000 in
set_option maxRecDepth 100000 in
theorem rHead_this (s s1 s2 s3 s4 : ByteArray) (e1 e2 e3 e4 : Int) (n1 n2 n3 n4 : Nat) (w : World)
    (N1 : Hid (∀ W, Calls Tryd.prog 58 #[rV s 0] W (RNPost W ((s1, e1), n1))))
    (N2 : Hid (∀ W, Calls Tryd.prog 58 #[rV s1 e1] W (RNPost W ((s2, e2), n2))))
    (N3 : Hid (∀ W, Calls Tryd.prog 58 #[rV s2 e2] W (RNPost W ((s3, e3), n3))))
    (N4 : Hid (∀ W, Calls Tryd.prog 58 #[rV s3 e3] W (RNPost W ((s4, e4), n4)))) :
    Calls Tryd.prog 56 #[rV s 0] w (HeadPost w s4 e4 n1 n2 n3 n4) := by
  have H0 := Lib.hid (hd_start w s 0)
  unfold RNPost rNumV rV at N1 N2 N3 N4
  simp only at N1 N2 N3 N4
  unfold rV
  go_enter Tryd.func56, Tryd.ntmps56
  go_wp2_with fail
  generalize ((((w.alloc (.cells #[.string s, .int .i64 0] 94)).alloc (.cells #[.string ⟨#[]⟩, .int .i64 0] 94)).alloc (.cells #[.int .i64 0, .int .i64 0, .bool false, .slice none 0 0, .slice none 0 0] 28)).alloc (.cells #[.int .i64 0, .int .i64 0, .bool false, .slice none 0 0, .slice none 0 0] 28)) = W0 at *
  refine (N1.out _).mono ?_
  rintro e w1 ⟨rfl, q1⟩
  have H1 := Lib.hid (H0.out.next q1)
  have a0 : w1.cell? ⟨w.heap.size, 0, none⟩ = some (.string s) := H1.out.r.c 0 rfl
  have a1 : w1.cell? ⟨w.heap.size, 1, none⟩ = some (.int .i64 0) := H1.out.r.c 1 rfl
  have a2 := H1.out.r.frozen 0
  have a3 := H1.out.r.frozen 1
  have b0 : w1.cell? ⟨w.heap.size + 1 + 1 + 1, 0, none⟩ = some (.int .i64 0) := H1.out.x.c 0 rfl
  have b1 : w1.cell? ⟨w.heap.size + 1 + 1 + 1, 1, none⟩ = some (.int .i64 0) := H1.out.x.c 1 rfl
  have b2 : w1.cell? ⟨w.heap.size + 1 + 1 + 1, 2, none⟩ = some (.bool false) := H1.out.x.c 2 rfl
  have b3 := H1.out.x.frozen 0
  have b4 := H1.out.x.frozen 1
  have b5 := H1.out.x.frozen 2
  clear N1 H0 q1
  go_wp2_with fail
  have K1 := Lib.hid ((H1.out.setR s1 e1).setX 0 (.int .i64 n1) n1 0 false rfl)
  clear a0 a1 a2 a3 b0 b1 b2 b3 b4 b5
  generalize (((w1.setCell ⟨w.heap.size, 0, none⟩ (.string s1)).setCell ⟨w.heap.size, 1, none⟩ (.int .i64 e1)).setCell ⟨w.heap.size + 1 + 1 + 1, 0, none⟩ (.int .i64 n1)) = W1 at *
  refine (N2.out _).mono ?_
  rintro e w2 ⟨rfl, q2⟩
  have H2 := Lib.hid (K1.out.next q2)
  have a0 : w2.cell? ⟨w.heap.size, 0, none⟩ = some (.string s1) := H2.out.r.c 0 rfl
  have a1 : w2.cell? ⟨w.heap.size, 1, none⟩ = some (.int .i64 e1) := H2.out.r.c 1 rfl
  have a2 := H2.out.r.frozen 0
  have a3 := H2.out.r.frozen 1
  have b0 : w2.cell? ⟨w.heap.size + 1 + 1 + 1, 0, none⟩ = some (.int .i64 n1) := H2.out.x.c 0 rfl
  have b1 : w2.cell? ⟨w.heap.size + 1 + 1 + 1, 1, none⟩ = some (.int .i64 0) := H2.out.x.c 1 rfl
  have b2 : w2.cell? ⟨w.heap.size + 1 + 1 + 1, 2, none⟩ = some (.bool false) := H2.out.x.c 2 rfl
  have b3 := H2.out.x.frozen 0
  have b4 := H2.out.x.frozen 1
  have b5 := H2.out.x.frozen 2
  clear N2 H1 K1 q2
  go_wp2_with fail
  have K2 := Lib.hid ((H2.out.setR s2 e2).setX 1 (.int .i64 n2) n1 n2 false rfl)
  clear a0 a1 a2 a3 b0 b1 b2 b3 b4 b5
  generalize (((w2.setCell ⟨w.heap.size, 0, none⟩ (.string s2)).setCell ⟨w.heap.size, 1, none⟩ (.int .i64 e2)).setCell ⟨w.heap.size + 1 + 1 + 1, 1, none⟩ (.int .i64 n2)) = W2 at *
  refine (N3.out _).mono ?_
  rintro e w3 ⟨rfl, q3⟩
  have H3 := Lib.hid (K2.out.next q3)
  have a0 : w3.cell? ⟨w.heap.size, 0, none⟩ = some (.string s2) := H3.out.r.c 0 rfl
  have a1 : w3.cell? ⟨w.heap.size, 1, none⟩ = some (.int .i64 e2) := H3.out.r.c 1 rfl
  have a2 := H3.out.r.frozen 0
  have a3 := H3.out.r.frozen 1
  have b0 : w3.cell? ⟨w.heap.size + 1 + 1 + 1, 0, none⟩ = some (.int .i64 n1) := H3.out.x.c 0 rfl
  have b1 : w3.cell? ⟨w.heap.size + 1 + 1 + 1, 1, none⟩ = some (.int .i64 n2) := H3.out.x.c 1 rfl
  have b2 : w3.cell? ⟨w.heap.size + 1 + 1 + 1, 2, none⟩ = some (.bool false) := H3.out.x.c 2 rfl
  have b3 := H3.out.x.frozen 0
  have b4 := H3.out.x.frozen 1
  have b5 := H3.out.x.frozen 2
  clear N3 H2 K2 q3
  go_wp2_with fail
  have K3 := Lib.hid ((H3.out.setR s3 e3))
  clear a0 a1 a2 a3 b0 b1 b2 b3 b4 b5
  generalize ((w3.setCell ⟨w.heap.size, 0, none⟩ (.string s3)).setCell ⟨w.heap.size, 1, none⟩ (.int .i64 e3)) = W3 at *
  refine (N4.out _).mono ?_
  rintro e w4 ⟨rfl, q4⟩
  have H4 := Lib.hid (K3.out.next q4)
  have a0 : w4.cell? ⟨w.heap.size, 0, none⟩ = some (.string s3) := H4.out.r.c 0 rfl
  have a1 : w4.cell? ⟨w.heap.size, 1, none⟩ = some (.int .i64 e3) := H4.out.r.c 1 rfl
  have a2 := H4.out.r.frozen 0
  have a3 := H4.out.r.frozen 1
  have b0 : w4.cell? ⟨w.heap.size + 1 + 1 + 1, 0, none⟩ = some (.int .i64 n1) := H4.out.x.c 0 rfl
  have b1 : w4.cell? ⟨w.heap.size + 1 + 1 + 1, 1, none⟩ = some (.int .i64 n2) := H4.out.x.c 1 rfl
  have b2 : w4.cell? ⟨w.heap.size + 1 + 1 + 1, 2, none⟩ = some (.bool false) := H4.out.x.c 2 rfl
  have b3 := H4.out.x.frozen 0
  have b4 := H4.out.x.frozen 1
  have b5 := H4.out.x.frozen 2
  clear N4 H3 K3 q4
  by_cases he : e4 = 0
  · subst he
    by_cases h1 : n3 = 1
    · subst h1
      have hn3 : (((1 : Nat) : Int) == 1) = true := by rfl
      have hn31 : ¬ ((1 : Nat) : Int) > 1 := by omega
      by_cases h5 : 2 < n4
      · have h4 : 0 < n4 := by omega
        have i5 : (2 : Int) < (n4 : Int) := by omega
        go_wp2
        have K4 := Lib.hid (((H4.out.setR s4 0)).setX 2 (.bool true) n1 n2 true rfl)
        clear a0 a1 a2 a3 b0 b1 b2 b3 b4 b5
        generalize (((w4.setCell ⟨w.heap.size, 0, none⟩ (.string s4)).setCell ⟨w.heap.size, 1, none⟩ (.int .i64 0)).setCell ⟨w.heap.size + 1 + 1 + 1, 2, none⟩ (.bool true)) = W4 at *
        have a0 : W4.cell? ⟨w.heap.size, 0, none⟩ = some (.string s4) := K4.out.r.c 0 rfl
        have a1 : W4.cell? ⟨w.heap.size, 1, none⟩ = some (.int .i64 0) := K4.out.r.c 1 rfl
        have a2 := K4.out.r.frozen 0
        have a3 := K4.out.r.frozen 1
        have b0 : W4.cell? ⟨w.heap.size + 1 + 1 + 1, 0, none⟩ = some (.int .i64 n1) := K4.out.x.c 0 rfl
        have b1 : W4.cell? ⟨w.heap.size + 1 + 1 + 1, 1, none⟩ = some (.int .i64 n2) := K4.out.x.c 1 rfl
        have b2 : W4.cell? ⟨w.heap.size + 1 + 1 + 1, 2, none⟩ = some (.bool true) := K4.out.x.c 2 rfl
        have b3 := K4.out.x.frozen 0
        have b4 := K4.out.x.frozen 1
        have b5 := K4.out.x.frozen 2
        have d0 : W4.cell? ⟨w.heap.size + 1, 0, none⟩ = some (.string ⟨#[]⟩) := K4.out.rr.c 0 rfl
        have d1 : W4.cell? ⟨w.heap.size + 1, 1, none⟩ = some (.int .i64 0) := K4.out.rr.c 1 rfl
        have d2 := K4.out.rr.frozen 0
        have d3 := K4.out.rr.frozen 1
        have g0 : W4.cell? ⟨w.heap.size + 1 + 1, 0, none⟩ = some (.int .i64 0) := K4.out.rx.c 0 rfl
        have g1 : W4.cell? ⟨w.heap.size + 1 + 1, 1, none⟩ = some (.int .i64 0) := K4.out.rx.c 1 rfl
        have g2 : W4.cell? ⟨w.heap.size + 1 + 1, 2, none⟩ = some (.bool false) := K4.out.rx.c 2 rfl
        have g3 : W4.cell? ⟨w.heap.size + 1 + 1, 3, none⟩ = some (.slice none 0 0) := K4.out.rx.c 3 rfl
        have g4 : W4.cell? ⟨w.heap.size + 1 + 1, 4, none⟩ = some (.slice none 0 0) := K4.out.rx.c 4 rfl
        have f0 := K4.out.rx.frozen 0
        have f1 := K4.out.rx.frozen 1
        have f2 := K4.out.rx.frozen 2
        have f3 := K4.out.rx.frozen 3
        have f4 := K4.out.rx.frozen 4
        have b6 : W4.cell? ⟨w.heap.size + 1 + 1 + 1, 3, none⟩ = some (.slice none 0 0) := K4.out.x.c 3 rfl
        have b7 : W4.cell? ⟨w.heap.size + 1 + 1 + 1, 4, none⟩ = some (.slice none 0 0) := K4.out.x.c 4 rfl
        go_region
        go_wp2
        have D := hd_done K4.out s4 0 (.int .i64 n1) (.int .i64 n2) (.bool true) (.slice none 0 0) (.slice none 0 0)
        have D1 := D.1
        have D2 := D.2.1
        refine bodyPost_ret (v := .tuple #[.agg #[.string s4, .int .i64 0], .agg #[.int .i64 n1, .int .i64 n2, .bool true, .slice none 0 0, .slice none 0 0], .int .i64 0, .int .i64 6]) (by simp [results, Tryd.results56, go_sem, D1.c 0 rfl, D1.c 1 rfl, D2.c 0 rfl, D2.c 1 rfl, D2.c 2 rfl, D2.c 3 rfl, D2.c 4 rfl]) rfl ?_
        exact ⟨D.2.2, .inr (.inl ⟨rfl, .inr (.inr ⟨rfl, h4⟩), s4, 0, n1, n2, true, rfl⟩)⟩
      have i5 : ¬ (2 : Int) < (n4 : Int) := by omega
      by_cases h4 : 0 < n4
      · have i4 : (0 : Int) < (n4 : Int) := by omega
        go_wp2
        have K4 := Lib.hid (((H4.out.setR s4 0)).setX 2 (.bool true) n1 n2 true rfl)
        clear a0 a1 a2 a3 b0 b1 b2 b3 b4 b5
        generalize (((w4.setCell ⟨w.heap.size, 0, none⟩ (.string s4)).setCell ⟨w.heap.size, 1, none⟩ (.int .i64 0)).setCell ⟨w.heap.size + 1 + 1 + 1, 2, none⟩ (.bool true)) = W4 at *
        have a0 : W4.cell? ⟨w.heap.size, 0, none⟩ = some (.string s4) := K4.out.r.c 0 rfl
        have a1 : W4.cell? ⟨w.heap.size, 1, none⟩ = some (.int .i64 0) := K4.out.r.c 1 rfl
        have a2 := K4.out.r.frozen 0
        have a3 := K4.out.r.frozen 1
        have b0 : W4.cell? ⟨w.heap.size + 1 + 1 + 1, 0, none⟩ = some (.int .i64 n1) := K4.out.x.c 0 rfl
        have b1 : W4.cell? ⟨w.heap.size + 1 + 1 + 1, 1, none⟩ = some (.int .i64 n2) := K4.out.x.c 1 rfl
        have b2 : W4.cell? ⟨w.heap.size + 1 + 1 + 1, 2, none⟩ = some (.bool true) := K4.out.x.c 2 rfl
        have b3 := K4.out.x.frozen 0
        have b4 := K4.out.x.frozen 1
        have b5 := K4.out.x.frozen 2
        have d0 : W4.cell? ⟨w.heap.size + 1, 0, none⟩ = some (.string ⟨#[]⟩) := K4.out.rr.c 0 rfl
        have d1 : W4.cell? ⟨w.heap.size + 1, 1, none⟩ = some (.int .i64 0) := K4.out.rr.c 1 rfl
        have d2 := K4.out.rr.frozen 0
        have d3 := K4.out.rr.frozen 1
        have g0 : W4.cell? ⟨w.heap.size + 1 + 1, 0, none⟩ = some (.int .i64 0) := K4.out.rx.c 0 rfl
        have g1 : W4.cell? ⟨w.heap.size + 1 + 1, 1, none⟩ = some (.int .i64 0) := K4.out.rx.c 1 rfl
        have g2 : W4.cell? ⟨w.heap.size + 1 + 1, 2, none⟩ = some (.bool false) := K4.out.rx.c 2 rfl
        have g3 : W4.cell? ⟨w.heap.size + 1 + 1, 3, none⟩ = some (.slice none 0 0) := K4.out.rx.c 3 rfl
        have g4 : W4.cell? ⟨w.heap.size + 1 + 1, 4, none⟩ = some (.slice none 0 0) := K4.out.rx.c 4 rfl
        have f0 := K4.out.rx.frozen 0
        have f1 := K4.out.rx.frozen 1
        have f2 := K4.out.rx.frozen 2
        have f3 := K4.out.rx.frozen 3
        have f4 := K4.out.rx.frozen 4
        have b6 : W4.cell? ⟨w.heap.size + 1 + 1 + 1, 3, none⟩ = some (.slice none 0 0) := K4.out.x.c 3 rfl
        have b7 : W4.cell? ⟨w.heap.size + 1 + 1 + 1, 4, none⟩ = some (.slice none 0 0) := K4.out.x.c 4 rfl
        go_region
        go_wp2
        have D := hd_done K4.out s4 0 (.int .i64 n1) (.int .i64 n2) (.bool true) (.slice none 0 0) (.slice none 0 0)
        have D1 := D.1
        have D2 := D.2.1
        refine bodyPost_ret (v := .tuple #[.agg #[.string s4, .int .i64 0], .agg #[.int .i64 n1, .int .i64 n2, .bool true, .slice none 0 0, .slice none 0 0], .int .i64 0, .int .i64 6]) (by simp [results, Tryd.results56, go_sem, D1.c 0 rfl, D1.c 1 rfl, D2.c 0 rfl, D2.c 1 rfl, D2.c 2 rfl, D2.c 3 rfl, D2.c 4 rfl]) rfl ?_
        exact ⟨D.2.2, .inr (.inl ⟨rfl, .inr (.inr ⟨rfl, h4⟩), s4, 0, n1, n2, true, rfl⟩)⟩
      · obtain rfl : n4 = 0 := by omega
        go_wp2
        have K4 := Lib.hid (((H4.out.setR s4 0)).setX 2 (.bool true) n1 n2 true rfl)
        clear a0 a1 a2 a3 b0 b1 b2 b3 b4 b5
        generalize (((w4.setCell ⟨w.heap.size, 0, none⟩ (.string s4)).setCell ⟨w.heap.size, 1, none⟩ (.int .i64 0)).setCell ⟨w.heap.size + 1 + 1 + 1, 2, none⟩ (.bool true)) = W4 at *
        have a0 : W4.cell? ⟨w.heap.size, 0, none⟩ = some (.string s4) := K4.out.r.c 0 rfl
        have a1 : W4.cell? ⟨w.heap.size, 1, none⟩ = some (.int .i64 0) := K4.out.r.c 1 rfl
        have a2 := K4.out.r.frozen 0
        have a3 := K4.out.r.frozen 1
        have b0 : W4.cell? ⟨w.heap.size + 1 + 1 + 1, 0, none⟩ = some (.int .i64 n1) := K4.out.x.c 0 rfl
        have b1 : W4.cell? ⟨w.heap.size + 1 + 1 + 1, 1, none⟩ = some (.int .i64 n2) := K4.out.x.c 1 rfl
        have b2 : W4.cell? ⟨w.heap.size + 1 + 1 + 1, 2, none⟩ = some (.bool true) := K4.out.x.c 2 rfl
        have b3 := K4.out.x.frozen 0
        have b4 := K4.out.x.frozen 1
        have b5 := K4.out.x.frozen 2
        have d0 : W4.cell? ⟨w.heap.size + 1, 0, none⟩ = some (.string ⟨#[]⟩) := K4.out.rr.c 0 rfl
        have d1 : W4.cell? ⟨w.heap.size + 1, 1, none⟩ = some (.int .i64 0) := K4.out.rr.c 1 rfl
        have d2 := K4.out.rr.frozen 0
        have d3 := K4.out.rr.frozen 1
        have g0 : W4.cell? ⟨w.heap.size + 1 + 1, 0, none⟩ = some (.int .i64 0) := K4.out.rx.c 0 rfl
        have g1 : W4.cell? ⟨w.heap.size + 1 + 1, 1, none⟩ = some (.int .i64 0) := K4.out.rx.c 1 rfl
        have g2 : W4.cell? ⟨w.heap.size + 1 + 1, 2, none⟩ = some (.bool false) := K4.out.rx.c 2 rfl
        have g3 : W4.cell? ⟨w.heap.size + 1 + 1, 3, none⟩ = some (.slice none 0 0) := K4.out.rx.c 3 rfl
        have g4 : W4.cell? ⟨w.heap.size + 1 + 1, 4, none⟩ = some (.slice none 0 0) := K4.out.rx.c 4 rfl
        have f0 := K4.out.rx.frozen 0
        have f1 := K4.out.rx.frozen 1
        have f2 := K4.out.rx.frozen 2
        have f3 := K4.out.rx.frozen 3
        have f4 := K4.out.rx.frozen 4
        have b6 : W4.cell? ⟨w.heap.size + 1 + 1 + 1, 3, none⟩ = some (.slice none 0 0) := K4.out.x.c 3 rfl
        have b7 : W4.cell? ⟨w.heap.size + 1 + 1 + 1, 4, none⟩ = some (.slice none 0 0) := K4.out.x.c 4 rfl
        go_region
        go_wp2
        have D := hd_done K4.out s4 0 (.int .i64 n1) (.int .i64 n2) (.bool true) (.slice none 0 0) (.slice none 0 0)
        have D1 := D.1
        have D2 := D.2.1
        refine bodyPost_ret (v := .tuple #[.agg #[.string s4, .int .i64 0], .agg #[.int .i64 n1, .int .i64 n2, .bool true, .slice none 0 0, .slice none 0 0], .int .i64 0, .int .i64 0]) (by simp [results, Tryd.results56, go_sem, D1.c 0 rfl, D1.c 1 rfl, D2.c 0 rfl, D2.c 1 rfl, D2.c 2 rfl, D2.c 3 rfl, D2.c 4 rfl]) rfl ?_
        exact ⟨D.2.2, .inr (.inr ⟨rfl, by omega, rfl⟩)⟩
    · skip
      have hn3 : (((n3 : Nat) : Int) == 1) = false := by rw [beq_eq_false_iff_ne]; omega
      have hd1 : decide (n3 = 1) = false := decide_eq_false h1
      by_cases h3 : 1 < n3
      · have i3 : (1 : Int) < (n3 : Int) := by omega
        clear h1
        go_wp2
        have K4 := Lib.hid (((H4.out.setR s4 0)).setX 2 (.bool false) n1 n2 false rfl)
        clear a0 a1 a2 a3 b0 b1 b2 b3 b4 b5
        generalize (((w4.setCell ⟨w.heap.size, 0, none⟩ (.string s4)).setCell ⟨w.heap.size, 1, none⟩ (.int .i64 0)).setCell ⟨w.heap.size + 1 + 1 + 1, 2, none⟩ (.bool false)) = W4 at *
        have a0 : W4.cell? ⟨w.heap.size, 0, none⟩ = some (.string s4) := K4.out.r.c 0 rfl
        have a1 : W4.cell? ⟨w.heap.size, 1, none⟩ = some (.int .i64 0) := K4.out.r.c 1 rfl
        have a2 := K4.out.r.frozen 0
        have a3 := K4.out.r.frozen 1
        have b0 : W4.cell? ⟨w.heap.size + 1 + 1 + 1, 0, none⟩ = some (.int .i64 n1) := K4.out.x.c 0 rfl
        have b1 : W4.cell? ⟨w.heap.size + 1 + 1 + 1, 1, none⟩ = some (.int .i64 n2) := K4.out.x.c 1 rfl
        have b2 : W4.cell? ⟨w.heap.size + 1 + 1 + 1, 2, none⟩ = some (.bool false) := K4.out.x.c 2 rfl
        have b3 := K4.out.x.frozen 0
        have b4 := K4.out.x.frozen 1
        have b5 := K4.out.x.frozen 2
        have d0 : W4.cell? ⟨w.heap.size + 1, 0, none⟩ = some (.string ⟨#[]⟩) := K4.out.rr.c 0 rfl
        have d1 : W4.cell? ⟨w.heap.size + 1, 1, none⟩ = some (.int .i64 0) := K4.out.rr.c 1 rfl
        have d2 := K4.out.rr.frozen 0
        have d3 := K4.out.rr.frozen 1
        have g0 : W4.cell? ⟨w.heap.size + 1 + 1, 0, none⟩ = some (.int .i64 0) := K4.out.rx.c 0 rfl
        have g1 : W4.cell? ⟨w.heap.size + 1 + 1, 1, none⟩ = some (.int .i64 0) := K4.out.rx.c 1 rfl
        have g2 : W4.cell? ⟨w.heap.size + 1 + 1, 2, none⟩ = some (.bool false) := K4.out.rx.c 2 rfl
        have g3 : W4.cell? ⟨w.heap.size + 1 + 1, 3, none⟩ = some (.slice none 0 0) := K4.out.rx.c 3 rfl
        have g4 : W4.cell? ⟨w.heap.size + 1 + 1, 4, none⟩ = some (.slice none 0 0) := K4.out.rx.c 4 rfl
        have f0 := K4.out.rx.frozen 0
        have f1 := K4.out.rx.frozen 1
        have f2 := K4.out.rx.frozen 2
        have f3 := K4.out.rx.frozen 3
        have f4 := K4.out.rx.frozen 4
        have b6 : W4.cell? ⟨w.heap.size + 1 + 1 + 1, 3, none⟩ = some (.slice none 0 0) := K4.out.x.c 3 rfl
        have b7 : W4.cell? ⟨w.heap.size + 1 + 1 + 1, 4, none⟩ = some (.slice none 0 0) := K4.out.x.c 4 rfl
        go_region
        go_wp2
        have D := hd_done K4.out s4 0 (.int .i64 n1) (.int .i64 n2) (.bool false) (.slice none 0 0) (.slice none 0 0)
        have D1 := D.1
        have D2 := D.2.1
        refine bodyPost_ret (v := .tuple #[.agg #[.string s4, .int .i64 0], .agg #[.int .i64 n1, .int .i64 n2, .bool false, .slice none 0 0, .slice none 0 0], .int .i64 0, .int .i64 6]) (by simp [results, Tryd.results56, go_sem, D1.c 0 rfl, D1.c 1 rfl, D2.c 0 rfl, D2.c 1 rfl, D2.c 2 rfl, D2.c 3 rfl, D2.c 4 rfl]) rfl ?_
        exact ⟨D.2.2, .inr (.inl ⟨rfl, .inl h3, s4, 0, n1, n2, false, rfl⟩)⟩
      · have i3 : ¬ (1 : Int) < (n3 : Int) := by omega
        by_cases h4 : 2 < n4
        · have i4 : (2 : Int) < (n4 : Int) := by omega
          clear h1 h3
          go_wp2
          have K4 := Lib.hid (((H4.out.setR s4 0)).setX 2 (.bool false) n1 n2 false rfl)
          clear a0 a1 a2 a3 b0 b1 b2 b3 b4 b5
          generalize (((w4.setCell ⟨w.heap.size, 0, none⟩ (.string s4)).setCell ⟨w.heap.size, 1, none⟩ (.int .i64 0)).setCell ⟨w.heap.size + 1 + 1 + 1, 2, none⟩ (.bool false)) = W4 at *
          have a0 : W4.cell? ⟨w.heap.size, 0, none⟩ = some (.string s4) := K4.out.r.c 0 rfl
          have a1 : W4.cell? ⟨w.heap.size, 1, none⟩ = some (.int .i64 0) := K4.out.r.c 1 rfl
          have a2 := K4.out.r.frozen 0
          have a3 := K4.out.r.frozen 1
          have b0 : W4.cell? ⟨w.heap.size + 1 + 1 + 1, 0, none⟩ = some (.int .i64 n1) := K4.out.x.c 0 rfl
          have b1 : W4.cell? ⟨w.heap.size + 1 + 1 + 1, 1, none⟩ = some (.int .i64 n2) := K4.out.x.c 1 rfl
          have b2 : W4.cell? ⟨w.heap.size + 1 + 1 + 1, 2, none⟩ = some (.bool false) := K4.out.x.c 2 rfl
          have b3 := K4.out.x.frozen 0
          have b4 := K4.out.x.frozen 1
          have b5 := K4.out.x.frozen 2
          have d0 : W4.cell? ⟨w.heap.size + 1, 0, none⟩ = some (.string ⟨#[]⟩) := K4.out.rr.c 0 rfl
          have d1 : W4.cell? ⟨w.heap.size + 1, 1, none⟩ = some (.int .i64 0) := K4.out.rr.c 1 rfl
          have d2 := K4.out.rr.frozen 0
          have d3 := K4.out.rr.frozen 1
          have g0 : W4.cell? ⟨w.heap.size + 1 + 1, 0, none⟩ = some (.int .i64 0) := K4.out.rx.c 0 rfl
          have g1 : W4.cell? ⟨w.heap.size + 1 + 1, 1, none⟩ = some (.int .i64 0) := K4.out.rx.c 1 rfl
          have g2 : W4.cell? ⟨w.heap.size + 1 + 1, 2, none⟩ = some (.bool false) := K4.out.rx.c 2 rfl
          have g3 : W4.cell? ⟨w.heap.size + 1 + 1, 3, none⟩ = some (.slice none 0 0) := K4.out.rx.c 3 rfl
          have g4 : W4.cell? ⟨w.heap.size + 1 + 1, 4, none⟩ = some (.slice none 0 0) := K4.out.rx.c 4 rfl
          have f0 := K4.out.rx.frozen 0
          have f1 := K4.out.rx.frozen 1
          have f2 := K4.out.rx.frozen 2
          have f3 := K4.out.rx.frozen 3
          have f4 := K4.out.rx.frozen 4
          have b6 : W4.cell? ⟨w.heap.size + 1 + 1 + 1, 3, none⟩ = some (.slice none 0 0) := K4.out.x.c 3 rfl
          have b7 : W4.cell? ⟨w.heap.size + 1 + 1 + 1, 4, none⟩ = some (.slice none 0 0) := K4.out.x.c 4 rfl
          go_region
          go_wp2
          have D := hd_done K4.out s4 0 (.int .i64 n1) (.int .i64 n2) (.bool false) (.slice none 0 0) (.slice none 0 0)
          have D1 := D.1
          have D2 := D.2.1
          refine bodyPost_ret (v := .tuple #[.agg #[.string s4, .int .i64 0], .agg #[.int .i64 n1, .int .i64 n2, .bool false, .slice none 0 0, .slice none 0 0], .int .i64 0, .int .i64 6]) (by simp [results, Tryd.results56, go_sem, D1.c 0 rfl, D1.c 1 rfl, D2.c 0 rfl, D2.c 1 rfl, D2.c 2 rfl, D2.c 3 rfl, D2.c 4 rfl]) rfl ?_
          exact ⟨D.2.2, .inr (.inl ⟨rfl, .inr (.inl h4), s4, 0, n1, n2, false, rfl⟩)⟩
        · have i4 : ¬ (2 : Int) < (n4 : Int) := by omega
          have HH := Lib.hid (show ¬ (1 < n3 ∨ 2 < n4 ∨ (n3 = 1 ∧ 0 < n4)) by omega)
          clear h1 h3 h4
          go_wp2
          have K4 := Lib.hid (((H4.out.setR s4 0)).setX 2 (.bool false) n1 n2 false rfl)
          clear a0 a1 a2 a3 b0 b1 b2 b3 b4 b5
          generalize (((w4.setCell ⟨w.heap.size, 0, none⟩ (.string s4)).setCell ⟨w.heap.size, 1, none⟩ (.int .i64 0)).setCell ⟨w.heap.size + 1 + 1 + 1, 2, none⟩ (.bool false)) = W4 at *
          have a0 : W4.cell? ⟨w.heap.size, 0, none⟩ = some (.string s4) := K4.out.r.c 0 rfl
          have a1 : W4.cell? ⟨w.heap.size, 1, none⟩ = some (.int .i64 0) := K4.out.r.c 1 rfl
          have a2 := K4.out.r.frozen 0
          have a3 := K4.out.r.frozen 1
          have b0 : W4.cell? ⟨w.heap.size + 1 + 1 + 1, 0, none⟩ = some (.int .i64 n1) := K4.out.x.c 0 rfl
          have b1 : W4.cell? ⟨w.heap.size + 1 + 1 + 1, 1, none⟩ = some (.int .i64 n2) := K4.out.x.c 1 rfl
          have b2 : W4.cell? ⟨w.heap.size + 1 + 1 + 1, 2, none⟩ = some (.bool false) := K4.out.x.c 2 rfl
          have b3 := K4.out.x.frozen 0
          have b4 := K4.out.x.frozen 1
          have b5 := K4.out.x.frozen 2
          have d0 : W4.cell? ⟨w.heap.size + 1, 0, none⟩ = some (.string ⟨#[]⟩) := K4.out.rr.c 0 rfl
          have d1 : W4.cell? ⟨w.heap.size + 1, 1, none⟩ = some (.int .i64 0) := K4.out.rr.c 1 rfl
          have d2 := K4.out.rr.frozen 0
          have d3 := K4.out.rr.frozen 1
          have g0 : W4.cell? ⟨w.heap.size + 1 + 1, 0, none⟩ = some (.int .i64 0) := K4.out.rx.c 0 rfl
          have g1 : W4.cell? ⟨w.heap.size + 1 + 1, 1, none⟩ = some (.int .i64 0) := K4.out.rx.c 1 rfl
          have g2 : W4.cell? ⟨w.heap.size + 1 + 1, 2, none⟩ = some (.bool false) := K4.out.rx.c 2 rfl
          have g3 : W4.cell? ⟨w.heap.size + 1 + 1, 3, none⟩ = some (.slice none 0 0) := K4.out.rx.c 3 rfl
          have g4 : W4.cell? ⟨w.heap.size + 1 + 1, 4, none⟩ = some (.slice none 0 0) := K4.out.rx.c 4 rfl
          have f0 := K4.out.rx.frozen 0
          have f1 := K4.out.rx.frozen 1
          have f2 := K4.out.rx.frozen 2
          have f3 := K4.out.rx.frozen 3
          have f4 := K4.out.rx.frozen 4
          have b6 : W4.cell? ⟨w.heap.size + 1 + 1 + 1, 3, none⟩ = some (.slice none 0 0) := K4.out.x.c 3 rfl
          have b7 : W4.cell? ⟨w.heap.size + 1 + 1 + 1, 4, none⟩ = some (.slice none 0 0) := K4.out.x.c 4 rfl
          go_region
          go_wp2
          have D := hd_done K4.out s4 0 (.int .i64 n1) (.int .i64 n2) (.bool false) (.slice none 0 0) (.slice none 0 0)
          have D1 := D.1
          have D2 := D.2.1
          refine bodyPost_ret (v := .tuple #[.agg #[.string s4, .int .i64 0], .agg #[.int .i64 n1, .int .i64 n2, .bool false, .slice none 0 0, .slice none 0 0], .int .i64 n4, .int .i64 0]) (by simp [results, Tryd.results56, go_sem, D1.c 0 rfl, D1.c 1 rfl, D2.c 0 rfl, D2.c 1 rfl, D2.c 2 rfl, D2.c 3 rfl, D2.c 4 rfl]) rfl ?_
          exact ⟨D.2.2, .inr (.inr ⟨rfl, HH.out, by rw [hd1]; rfl⟩)⟩
  · have hen : (e4 != 0) = true := by rw [bne_iff_ne]; exact he
    have HE := Lib.hid he
    clear he
    go_wp2
    have K4 := Lib.hid ((H4.out.setR s4 e4))
    clear a0 a1 a2 a3 b0 b1 b2 b3 b4 b5
    generalize ((w4.setCell ⟨w.heap.size, 0, none⟩ (.string s4)).setCell ⟨w.heap.size, 1, none⟩ (.int .i64 e4)) = W4 at *
    have a0 : W4.cell? ⟨w.heap.size, 0, none⟩ = some (.string s4) := K4.out.r.c 0 rfl
    have a1 : W4.cell? ⟨w.heap.size, 1, none⟩ = some (.int .i64 e4) := K4.out.r.c 1 rfl
    have a2 := K4.out.r.frozen 0
    have a3 := K4.out.r.frozen 1
    have b0 : W4.cell? ⟨w.heap.size + 1 + 1 + 1, 0, none⟩ = some (.int .i64 n1) := K4.out.x.c 0 rfl
    have b1 : W4.cell? ⟨w.heap.size + 1 + 1 + 1, 1, none⟩ = some (.int .i64 n2) := K4.out.x.c 1 rfl
    have b2 : W4.cell? ⟨w.heap.size + 1 + 1 + 1, 2, none⟩ = some (.bool false) := K4.out.x.c 2 rfl
    have b3 := K4.out.x.frozen 0
    have b4 := K4.out.x.frozen 1
    have b5 := K4.out.x.frozen 2
    have d0 : W4.cell? ⟨w.heap.size + 1, 0, none⟩ = some (.string ⟨#[]⟩) := K4.out.rr.c 0 rfl
    have d1 : W4.cell? ⟨w.heap.size + 1, 1, none⟩ = some (.int .i64 0) := K4.out.rr.c 1 rfl
    have d2 := K4.out.rr.frozen 0
    have d3 := K4.out.rr.frozen 1
    have g0 : W4.cell? ⟨w.heap.size + 1 + 1, 0, none⟩ = some (.int .i64 0) := K4.out.rx.c 0 rfl
    have g1 : W4.cell? ⟨w.heap.size + 1 + 1, 1, none⟩ = some (.int .i64 0) := K4.out.rx.c 1 rfl
    have g2 : W4.cell? ⟨w.heap.size + 1 + 1, 2, none⟩ = some (.bool false) := K4.out.rx.c 2 rfl
    have g3 : W4.cell? ⟨w.heap.size + 1 + 1, 3, none⟩ = some (.slice none 0 0) := K4.out.rx.c 3 rfl
    have g4 : W4.cell? ⟨w.heap.size + 1 + 1, 4, none⟩ = some (.slice none 0 0) := K4.out.rx.c 4 rfl
    have f0 := K4.out.rx.frozen 0
    have f1 := K4.out.rx.frozen 1
    have f2 := K4.out.rx.frozen 2
    have f3 := K4.out.rx.frozen 3
    have f4 := K4.out.rx.frozen 4
    have b6 : W4.cell? ⟨w.heap.size + 1 + 1 + 1, 3, none⟩ = some (.slice none 0 0) := K4.out.x.c 3 rfl
    have b7 : W4.cell? ⟨w.heap.size + 1 + 1 + 1, 4, none⟩ = some (.slice none 0 0) := K4.out.x.c 4 rfl
    go_region
    go_wp2
    have D := hd_done K4.out s4 e4 (.int .i64 n1) (.int .i64 n2) (.bool false) (.slice none 0 0) (.slice none 0 0)
    have D1 := D.1
    have D2 := D.2.1
    refine bodyPost_ret (v := .tuple #[.agg #[.string s4, .int .i64 e4], .agg #[.int .i64 n1, .int .i64 n2, .bool false, .slice none 0 0, .slice none 0 0], .int .i64 0, .int .i64 e4]) (by simp [results, Tryd.results56, go_sem, D1.c 0 rfl, D1.c 1 rfl, D2.c 0 rfl, D2.c 1 rfl, D2.c 2 rfl, D2.c 3 rfl, D2.c 4 rfl]) rfl ?_
    exact ⟨D.2.2, .inl ⟨HE.out, s4, e4, n1, n2, false, rfl⟩⟩
end Go.Proofs.YtkinnlfjcmhcoaaDoor.W
