/-
  The reference's Read of headers.
-/
import Derived.Test.YtjohkimjdkginaaDoorZ1a
import Derived.Test.YtjohkimjdkginaaDoorYWRefTx
namespace Go.Proofs.YtjohkimjdkginaaDoor.W
open Go.RowKit

/-- the boxes of Read: what is answered, the header, the reader -/
structure ErAt (w : World) (t : ByteArray) (e : Int) (c : ByteArray) (a b : Int) (r m : ByteArray) (W : World) : Prop where
  o : Blk W w.heap.size 23 #[.string ⟨#[]⟩, .int .i64 0, .int .i64 0, .string ⟨#[]⟩, .string ⟨#[]⟩]
  x : Blk W (w.heap.size + 1) 23 #[.string c, .int .i64 a, .int .i64 b, .string r, .string m]
  q : Blk W (w.heap.size + 1 + 1) 48 #[.string t, .int .i64 e]
  s : Since w W
section
variable {w W W' : World} {t t' c r m c' r' m' : ByteArray} {e e' a b a' b' : Int}
theorem er_start (w : World) (t : ByteArray) (e : Int) : ErAt w t e ⟨#[]⟩ 0 0 ⟨#[]⟩ ⟨#[]⟩ (((w.alloc (.cells #[.string ⟨#[]⟩, .int .i64 0, .int .i64 0, .string ⟨#[]⟩, .string ⟨#[]⟩] 23)).alloc (.cells #[.string ⟨#[]⟩, .int .i64 0, .int .i64 0, .string ⟨#[]⟩, .string ⟨#[]⟩] 23)).alloc (.cells #[.string t, .int .i64 e] 48)) := by
  have h1 := Blk.new w 23 #[.string ⟨#[]⟩, .int .i64 0, .int .i64 0, .string ⟨#[]⟩, .string ⟨#[]⟩]
  have b1 : Below w.heap.size w (w.alloc (.cells #[.string ⟨#[]⟩, .int .i64 0, .int .i64 0, .string ⟨#[]⟩, .string ⟨#[]⟩] 23)) := (Below.refl _ w).alloc (Nat.le_refl _) _
  have e1 : (w.alloc (.cells #[.string ⟨#[]⟩, .int .i64 0, .int .i64 0, .string ⟨#[]⟩, .string ⟨#[]⟩] 23)).heap.size = w.heap.size + 1 := by simp
  generalize w.alloc (.cells #[.string ⟨#[]⟩, .int .i64 0, .int .i64 0, .string ⟨#[]⟩, .string ⟨#[]⟩] 23) = W1 at *
  have h2 := Blk.new W1 23 #[.string ⟨#[]⟩, .int .i64 0, .int .i64 0, .string ⟨#[]⟩, .string ⟨#[]⟩]
  rw [e1] at h2
  have b2 : Below w.heap.size w (W1.alloc (.cells #[.string ⟨#[]⟩, .int .i64 0, .int .i64 0, .string ⟨#[]⟩, .string ⟨#[]⟩] 23)) := b1.alloc b1.size _
  have e2 : (W1.alloc (.cells #[.string ⟨#[]⟩, .int .i64 0, .int .i64 0, .string ⟨#[]⟩, .string ⟨#[]⟩] 23)).heap.size = w.heap.size + 1 + 1 := by simp [e1]
  have h1' := h1.alloc (.cells #[.string ⟨#[]⟩, .int .i64 0, .int .i64 0, .string ⟨#[]⟩, .string ⟨#[]⟩] 23)
  generalize W1.alloc (.cells #[.string ⟨#[]⟩, .int .i64 0, .int .i64 0, .string ⟨#[]⟩, .string ⟨#[]⟩] 23) = W2 at *
  have h3 := Blk.new W2 48 #[.string t, .int .i64 e]
  rw [e2] at h3
  exact ⟨h1'.alloc _, h2.alloc _, h3, since_of (b2.alloc b2.size _)⟩
theorem ErAt.next (h : ErAt w t e c a b r m W) (k : Below W.heap.size W W') : ErAt w t e c a b r m W' := ⟨h.o.below k h.o.lt, h.x.below k h.x.lt, h.q.below k h.q.lt, since_of (step_below h.s.below k)⟩
theorem ErAt.setR (h : ErAt w t e c a b r m W) (t' : ByteArray) (e' : Int) : ErAt w t' e' c a b r m ((W.setCell ⟨w.heap.size + 1 + 1, 0, none⟩ (.string t')).setCell ⟨w.heap.size + 1 + 1, 1, none⟩ (.int .i64 e')) :=
  ⟨(h.o.far (p := ⟨w.heap.size + 1 + 1, 0, none⟩) (by simp only; omega) _).far (p := ⟨w.heap.size + 1 + 1, 1, none⟩) (by simp only; omega) _, (h.x.far (p := ⟨w.heap.size + 1 + 1, 0, none⟩) (by simp only; omega) _).far (p := ⟨w.heap.size + 1 + 1, 1, none⟩) (by simp only; omega) _, (h.q.set_ 0 _).set_ 1 _, since_put (since_put h.s (by simp only; omega) _) (by simp only; omega) _⟩
theorem ErAt.setX (h : ErAt w t e c a b r m W) (i : Nat) (v : Value) (hx : (#[.string c, .int .i64 a, .int .i64 b, .string r, .string m] : Array Value).setIfInBounds i v = #[.string c', .int .i64 a', .int .i64 b', .string r', .string m']) :
    ErAt w t e c' a' b' r' m' (W.setCell ⟨w.heap.size + 1, i, none⟩ v) := by
  have hxs := h.x.set_ i v
  rw [hx] at hxs
  exact ⟨h.o.far (p := ⟨w.heap.size + 1, i, none⟩) (by simp only; omega) _, hxs, h.q.far (p := ⟨w.heap.size + 1, i, none⟩) (by simp only; omega) _, since_put h.s (by simp only; omega) _⟩
theorem er_done (h : ErAt w t e c a b r m W) (v0 v1 v2 v3 v4 : Value) :
    Blk (((((W.setCell ⟨w.heap.size, 0, none⟩ v0).setCell ⟨w.heap.size, 1, none⟩ v1).setCell ⟨w.heap.size, 2, none⟩ v2).setCell ⟨w.heap.size, 3, none⟩ v3).setCell ⟨w.heap.size, 4, none⟩ v4) w.heap.size 23 #[v0, v1, v2, v3, v4] ∧
    Since w (((((W.setCell ⟨w.heap.size, 0, none⟩ v0).setCell ⟨w.heap.size, 1, none⟩ v1).setCell ⟨w.heap.size, 2, none⟩ v2).setCell ⟨w.heap.size, 3, none⟩ v3).setCell ⟨w.heap.size, 4, none⟩ v4) :=
  ⟨put5 h.o v0 v1 v2 v3 v4, since_put5 h.s (Nat.le_refl _) v0 v1 v2 v3 v4⟩
theorem ErAt.c0 (h : ErAt w t e c a b r m W) : W.cell? ⟨w.heap.size + 1, 0, none⟩ = some (.string c) := h.x.c 0 rfl
theorem ErAt.c1 (h : ErAt w t e c a b r m W) : W.cell? ⟨w.heap.size + 1, 1, none⟩ = some (.int .i64 a) := h.x.c 1 rfl
theorem ErAt.c2 (h : ErAt w t e c a b r m W) : W.cell? ⟨w.heap.size + 1, 2, none⟩ = some (.int .i64 b) := h.x.c 2 rfl
theorem ErAt.c3 (h : ErAt w t e c a b r m W) : W.cell? ⟨w.heap.size + 1, 3, none⟩ = some (.string r) := h.x.c 3 rfl
theorem ErAt.c4 (h : ErAt w t e c a b r m W) : W.cell? ⟨w.heap.size + 1, 4, none⟩ = some (.string m) := h.x.c 4 rfl
theorem ErAt.d0 (h : ErAt w t e c a b r m W) : W.cell? ⟨w.heap.size, 0, none⟩ = some (.string ⟨#[]⟩) := h.o.c 0 rfl
theorem ErAt.d1 (h : ErAt w t e c a b r m W) : W.cell? ⟨w.heap.size, 1, none⟩ = some (.int .i64 0) := h.o.c 1 rfl
theorem ErAt.d2 (h : ErAt w t e c a b r m W) : W.cell? ⟨w.heap.size, 2, none⟩ = some (.int .i64 0) := h.o.c 2 rfl
theorem ErAt.d3 (h : ErAt w t e c a b r m W) : W.cell? ⟨w.heap.size, 3, none⟩ = some (.string ⟨#[]⟩) := h.o.c 3 rfl
theorem ErAt.d4 (h : ErAt w t e c a b r m W) : W.cell? ⟨w.heap.size, 4, none⟩ = some (.string ⟨#[]⟩) := h.o.c 4 rfl
theorem ErAt.q0 (h : ErAt w t e c a b r m W) : W.cell? ⟨w.heap.size + 1 + 1, 0, none⟩ = some (.string t) := h.q.c 0 rfl
theorem ErAt.q1 (h : ErAt w t e c a b r m W) : W.cell? ⟨w.heap.size + 1 + 1, 1, none⟩ = some (.int .i64 e) := h.q.c 1 rfl
end
/-- one reading: from a state that is told as far as there is no error -/
def Rd (f : FuncId) (s : ByteArray) (e : Int) (s' : ByteArray) (e' : Int) (v : Value) : Prop :=
  ∀ t : ByteArray, (e = 0 → t = s) → t.size ≤ 9223372036854775807 → ∀ W, Calls Tryd.prog f #[.agg #[.string t, .int .i64 e]] W fun en w' => ∃ t', en = .returned (.tuple #[.agg #[.string t', .int .i64 e'], v]) ∧ (e' = 0 → t' = s') ∧ t'.size ≤ 9223372036854775807 ∧ Below W.heap.size W w'
theorem rd_text (s : ByteArray) (e : Int) : Rd 25 s e (stText s e).1.1 (stText s e).1.2 (.string (stText s e).2) := by
  intro t h1 h2 W
  by_cases he : e = 0
  · have := h1 he
    subst this
    exact refText t e W h2
  · have k := refText t e W h2
    rw [stText_err t he] at k
    rw [stText_err s he]
    refine k.mono ?_
    rintro en w' ⟨s', q1, q2, q3, q4⟩
    exact ⟨s', q1, fun h => absurd h he, q3, q4⟩
theorem rd_num (s : ByteArray) (e : Int) : Rd 26 s e (stNum s e).1.1 (stNum s e).1.2 (.int .i64 (stNum s e).2) := by
  intro t h1 h2 W
  have k := refNum t e W h2
  have hf := (stNum_facts t e).2.1
  by_cases he : e = 0
  · have := h1 he
    subst this
    refine k.mono ?_
    rintro en w' ⟨q1, q2⟩
    exact ⟨_, q1, fun _ => rfl, by omega, q2⟩
  · rw [stNum_err t he] at k
    rw [stNum_err s he]
    refine k.mono ?_
    rintro en w' ⟨q1, q2⟩
    exact ⟨t, q1, fun h => absurd h he, h2, q2⟩
theorem rd_done (s : ByteArray) (e : Int) (t : ByteArray) (h : e = 0 → t = s) (W : World) :
    Calls Tryd.prog 27 #[.agg #[.string t, .int .i64 e]] W fun en w' => en = .returned (.int .i64 (stDone s e)) ∧ Below W.heap.size W w' := by
  have k := refDone t e W
  by_cases he : e = 0
  · have := h he
    subst this
    exact k
  · have e1 : stDone t e = stDone s e := by unfold stDone; rw [if_pos he, if_pos he]
    rw [e1] at k
    exact k
set_option maxHeartbeats 4000000 in
set_option maxRecDepth 100000 in
theorem rHRead_this (s s1 s2 s3 s4 s5 : ByteArray) (e1 e2 e3 e4 e5 : Int) (c : ByteArray) (a b : Nat) (r m : ByteArray) (d : Int) (w : World) (hs : s.size ≤ 9223372036854775807)
    (N1 : Hid (Rd 25 s 0 s1 e1 (.string c)))
    (N2 : Hid (Rd 26 s1 e1 s2 e2 (.int .i64 a)))
    (N3 : Hid (Rd 26 s2 e2 s3 e3 (.int .i64 b)))
    (N4 : Hid (Rd 25 s3 e3 s4 e4 (.string r)))
    (N5 : Hid (Rd 25 s4 e4 s5 e5 (.string m)))
    (N6 : Hid (∀ t : ByteArray, (e5 = 0 → t = s5) → ∀ W, Calls Tryd.prog 27 #[.agg #[.string t, .int .i64 e5]] W fun en w' => en = .returned (.int .i64 d) ∧ Below W.heap.size W w')) :
    Calls Tryd.prog 10 #[.string s] w fun e w' => e = .returned (retHE (if d ≠ 0 then (Hdr.zero, d) else (⟨c, a, b, r, m⟩, 0))) ∧ Since w w' := by
  have H0 := Lib.hid (er_start w s 0)
  go_enter Tryd.func10, Tryd.ntmps10
  go_wp2_with fail
  generalize (((w.alloc (.cells #[.string ⟨#[]⟩, .int .i64 0, .int .i64 0, .string ⟨#[]⟩, .string ⟨#[]⟩] 23)).alloc (.cells #[.string ⟨#[]⟩, .int .i64 0, .int .i64 0, .string ⟨#[]⟩, .string ⟨#[]⟩] 23)).alloc (.cells #[.string s, .int .i64 0] 48)) = W0 at *
  refine (N1.out _ (fun _ => rfl) hs _).mono ?_
  rintro e w1 ⟨t1, rfl, k1, z1, q1⟩
  have H1 := Lib.hid (H0.out.next q1)
  have a0 := H1.out.q0
  have a1 := H1.out.q1
  have a2 := H1.out.q.frozen 0
  have a3 := H1.out.q.frozen 1
  have b0 := H1.out.c0
  have b1 := H1.out.x.frozen 0
  clear N1 H0 q1
  go_wp2_with fail
  have G1 := Lib.hid ((H1.out.setR t1 e1).setX (c' := c) (a' := 0) (b' := 0) (r' := ⟨#[]⟩) (m' := ⟨#[]⟩) 0 (.string c) rfl)
  clear a0 a1 a2 a3 b0 b1 H1
  generalize (((w1.setCell ⟨w.heap.size + 1 + 1, 0, none⟩ (.string t1)).setCell ⟨w.heap.size + 1 + 1, 1, none⟩ (.int .i64 e1)).setCell ⟨w.heap.size + 1, 0, none⟩ (.string c)) = W1 at *
  have H1 := G1
  clear G1
  refine (N2.out t1 k1 z1 _).mono ?_
  rintro e w2 ⟨t2, rfl, k2, z2, q2⟩
  have H2 := Lib.hid (H1.out.next q2)
  have a0 := H2.out.q0
  have a1 := H2.out.q1
  have a2 := H2.out.q.frozen 0
  have a3 := H2.out.q.frozen 1
  have b0 := H2.out.c1
  have b1 := H2.out.x.frozen 1
  clear N2 H1 q2
  go_wp2_with fail
  have G2 := Lib.hid ((H2.out.setR t2 e2).setX (c' := c) (a' := a) (b' := 0) (r' := ⟨#[]⟩) (m' := ⟨#[]⟩) 1 (.int .i64 a) rfl)
  clear a0 a1 a2 a3 b0 b1 H2
  generalize (((w2.setCell ⟨w.heap.size + 1 + 1, 0, none⟩ (.string t2)).setCell ⟨w.heap.size + 1 + 1, 1, none⟩ (.int .i64 e2)).setCell ⟨w.heap.size + 1, 1, none⟩ (.int .i64 a)) = W2 at *
  have H2 := G2
  clear G2
  refine (N3.out t2 k2 z2 _).mono ?_
  rintro e w3 ⟨t3, rfl, k3, z3, q3⟩
  have H3 := Lib.hid (H2.out.next q3)
  have a0 := H3.out.q0
  have a1 := H3.out.q1
  have a2 := H3.out.q.frozen 0
  have a3 := H3.out.q.frozen 1
  have b0 := H3.out.c2
  have b1 := H3.out.x.frozen 2
  clear N3 H2 q3
  go_wp2_with fail
  have G3 := Lib.hid ((H3.out.setR t3 e3).setX (c' := c) (a' := a) (b' := b) (r' := ⟨#[]⟩) (m' := ⟨#[]⟩) 2 (.int .i64 b) rfl)
  clear a0 a1 a2 a3 b0 b1 H3
  generalize (((w3.setCell ⟨w.heap.size + 1 + 1, 0, none⟩ (.string t3)).setCell ⟨w.heap.size + 1 + 1, 1, none⟩ (.int .i64 e3)).setCell ⟨w.heap.size + 1, 2, none⟩ (.int .i64 b)) = W3 at *
  have H3 := G3
  clear G3
  refine (N4.out t3 k3 z3 _).mono ?_
  rintro e w4 ⟨t4, rfl, k4, z4, q4⟩
  have H4 := Lib.hid (H3.out.next q4)
  have a0 := H4.out.q0
  have a1 := H4.out.q1
  have a2 := H4.out.q.frozen 0
  have a3 := H4.out.q.frozen 1
  have b0 := H4.out.c3
  have b1 := H4.out.x.frozen 3
  clear N4 H3 q4
  go_wp2_with fail
  have G4 := Lib.hid ((H4.out.setR t4 e4).setX (c' := c) (a' := a) (b' := b) (r' := r) (m' := ⟨#[]⟩) 3 (.string r) rfl)
  clear a0 a1 a2 a3 b0 b1 H4
  generalize (((w4.setCell ⟨w.heap.size + 1 + 1, 0, none⟩ (.string t4)).setCell ⟨w.heap.size + 1 + 1, 1, none⟩ (.int .i64 e4)).setCell ⟨w.heap.size + 1, 3, none⟩ (.string r)) = W4 at *
  have H4 := G4
  clear G4
  refine (N5.out t4 k4 z4 _).mono ?_
  rintro e w5 ⟨t5, rfl, k5, z5, q5⟩
  have H5 := Lib.hid (H4.out.next q5)
  have a0 := H5.out.q0
  have a1 := H5.out.q1
  have a2 := H5.out.q.frozen 0
  have a3 := H5.out.q.frozen 1
  have b0 := H5.out.c4
  have b1 := H5.out.x.frozen 4
  clear N5 H4 q5
  go_wp2_with fail
  have G5 := Lib.hid ((H5.out.setR t5 e5).setX (c' := c) (a' := a) (b' := b) (r' := r) (m' := m) 4 (.string m) rfl)
  clear a0 a1 a2 a3 b0 b1 H5
  generalize (((w5.setCell ⟨w.heap.size + 1 + 1, 0, none⟩ (.string t5)).setCell ⟨w.heap.size + 1 + 1, 1, none⟩ (.int .i64 e5)).setCell ⟨w.heap.size + 1, 4, none⟩ (.string m)) = W5 at *
  have H5 := G5
  clear G5
  refine (N6.out t5 k5 _).mono ?_
  rintro e w6 ⟨rfl, q6⟩
  have H6 := Lib.hid (H5.out.next q6)
  clear N6 H5 q6
  have d0 := H6.out.d0
  have d1 := H6.out.d1
  have d2 := H6.out.d2
  have d3 := H6.out.d3
  have d4 := H6.out.d4
  have f0 := H6.out.o.frozen 0
  have f1 := H6.out.o.frozen 1
  have f2 := H6.out.o.frozen 2
  have f3 := H6.out.o.frozen 3
  have f4 := H6.out.o.frozen 4
  by_cases hf : d = 0
  · subst hf
    have y0 := H6.out.c0
    have y1 := H6.out.c1
    have y2 := H6.out.c2
    have y3 := H6.out.c3
    have y4 := H6.out.c4
    have D := Lib.hid (er_done H6.out (.string c) (.int .i64 a) (.int .i64 b) (.string r) (.string m))
    go_wp2
    have D1 := D.out.1
    refine bodyPost_ret (v := retHE (⟨c, a, b, r, m⟩, 0)) (by simp [results, Tryd.results10, go_sem, retHE, hdV, D1.c 0 rfl, D1.c 1 rfl, D1.c 2 rfl, D1.c 3 rfl, D1.c 4 rfl]) rfl ?_
    exact ⟨rfl, D.out.2⟩
  · have hen : (d != 0) = true := by rw [bne_iff_ne]; exact hf
    have D := Lib.hid (er_done H6.out (.string ⟨#[]⟩) (.int .i64 0) (.int .i64 0) (.string ⟨#[]⟩) (.string ⟨#[]⟩))
    go_wp2
    have D1 := D.out.1
    refine bodyPost_ret (v := retHE (Hdr.zero, d)) (by simp [results, Tryd.results10, go_sem, retHE, hdV, Hdr.zero, D1.c 0 rfl, D1.c 1 rfl, D1.c 2 rfl, D1.c 3 rfl, D1.c 4 rfl]) rfl ?_
    exact ⟨rfl, D.out.2⟩
theorem rHRead (s : ByteArray) (w : World) (hs : s.size ≤ 9223372036854775807) :
    Calls Tryd.prog 10 #[.string s] w fun e w' => e = .returned (retHE (rdHd s)) ∧ Since w w' := by
  have h := rHRead_this s _ _ _ _ _ _ _ _ _ _ _ _ _ _ _ _ w hs (Lib.hid (rd_text s 0)) (Lib.hid (rd_num _ _)) (Lib.hid (rd_num _ _)) (Lib.hid (rd_text _ _)) (Lib.hid (rd_text _ _)) (Lib.hid (fun t k W => rd_done _ _ t k W))
  exact h
end Go.Proofs.YtjohkimjdkginaaDoor.W
