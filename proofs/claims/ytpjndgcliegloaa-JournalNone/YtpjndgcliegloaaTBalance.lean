/-
  Package pairs: balance.
-/
import Derived.Test.YtpjndgcliegloaaTBal
namespace Go.Proofs.Ytpjndgcliegloaa.W
open Go.RowKit

theorem wrap_sub {A C : Nat} (h : A < 4611686018427387904) (k : C < 4611686018427387904) : wrap64 ((A : Int) - C) = (A : Int) - C := by simp only [wrap64]; omega
theorem makes_join {l r : BT} {x : KV} {w : World} {e : Ending} {w' : World} (h : ∃ b, e = .returned (.pointer (some ⟨b, 0, none⟩)) ∧ IsTree w' (some ⟨b, 0, none⟩) (.node l x r) ∧ Since w w') : Makes (BT.node l x r).list w e w' :=
  let ⟨_, he, ht, hs⟩ := h; ⟨_, _, he, ht, rfl, hs.below⟩
/-- a call that makes a tree of the pairs L, seen since w0 -/
def MakesS (L : List KV) (w0 : World) (e : Ending) (w' : World) : Prop := ∃ p t, e = .returned (.pointer p) ∧ IsTree w' p t ∧ t.list = L ∧ Since w0 w'
theorem makesS {f : FuncId} {args : Array Value} {L : List KV} {w0 W : World} (hs : Since w0 W) (h : Calls Try.prog f args W (Makes L W)) : Calls Try.prog f args W (MakesS L w0) :=
  h.mono fun _ _ ⟨p, t, he, ht, hl, hb⟩ => ⟨p, t, he, ht, hl, since_of (step_below hs.below hb)⟩
theorem makes_of {L : List KV} {w0 w1 : World} {e : Ending} {w' : World} (hs : Since w0 w1) (h : MakesS L w1 e w') : Makes L w0 e w' :=
  let ⟨p, t, he, ht, hl, hb⟩ := h; ⟨p, t, he, ht, hl, hb.after hs⟩
theorem nodeS {f : FuncId} {args : Array Value} {t : BT} {w0 W : World} (hs : Since w0 W) (h : Calls Try.prog f args W fun e w' => ∃ b, e = .returned (.pointer (some ⟨b, 0, none⟩)) ∧ IsTree w' (some ⟨b, 0, none⟩) t ∧ Below W.heap.size W w') :
    Calls Try.prog f args W fun e w' => ∃ b, e = .returned (.pointer (some ⟨b, 0, none⟩)) ∧ IsTree w' (some ⟨b, 0, none⟩) t ∧ Since w0 w' ∧ ∀ a v, W.cell? a = some v → w'.cell? a = some v :=
  h.mono fun _ _ ⟨b, he, ht, hb⟩ => ⟨b, he, ht, since_of (step_below hs.below hb), fun _ _ hc => (since_of hb).cell hc⟩

set_option maxHeartbeats 2000000 in
theorem balanceJoin (l r : BT) (x : KV) (pl pr : Option Addr) (w : World) (hl : IsTree w pl l) (hr : IsTree w pr r) (hz : (BT.node l x r).list.length < 4611686018427387904)
    (h2 : (l.ht : Int) - r.ht ≠ 2) (h3 : (l.ht : Int) - r.ht ≠ -2) :
    Calls Try.prog 48 #[.pointer pl, .agg #[.string x.1, .string x.2], .pointer pr] w (Makes (BT.node l x r).list w) := by
  have a1 := l.ht_le
  have a2 := r.ht_le
  have hz' := hz
  simp only [BT.list, List.length_append, List.length_cons] at hz'
  obtain ⟨D, hD⟩ : ∃ D, D = (l.ht : Int) - r.ht := ⟨_, rfl⟩
  rw [← hD] at h2 h3
  have hw := (wrap_sub (A := l.ht) (C := r.ht) (by omega) (by omega)).trans hD.symm
  have e2 : (D == 2) = false := by simpa using h2
  have e3 : (D == -2) = false := by simpa using h3
  have H1 := Lib.hid (fun W (h : Since w W) => tall l pl W (hl.below h.below))
  have H2 := Lib.hid (fun W (h : Since w W) => tall r pr W (hr.below h.below))
  have H3 := Lib.hid (fun W (h : Since w W) => (joinS w l r x pl pr W h (hl.below h.below) (hr.below h.below) hz).mono fun _ _ h => makes_join h)
  clear hz hz' h2 h3 a1 a2 hl hr hD
  obtain ⟨xk, xv⟩ := x
  simp only at *
  generalize (BT.node l (xk, xv) r).list = L at *
  generalize (l.ht : Int) = A at *
  generalize (r.ht : Int) = C at *
  go_enter Try.func48, Try.ntmps48
  go_wp2_with fail
  have bk : Blk (w.alloc (.cells #[.string xk, .string xv] 51)) w.heap.size 51 #[.string xk, .string xv] := Blk.new _ _ _
  have s1 : Since w (w.alloc (.cells #[.string xk, .string xv] 51)) := since_of ((Below.refl _ _).alloc (Nat.le_refl _) _)
  generalize w.alloc (.cells #[.string xk, .string xv] 51) = w1 at *
  have k0 : w1.cell? ⟨w.heap.size, 0, none⟩ = some (.string xk) := bk.cell 0
  have k1 : w1.cell? ⟨w.heap.size, 1, none⟩ = some (.string xv) := bk.cell 1
  clear bk
  refine (H1.out _ s1).mono ?_
  rintro e w' ⟨rfl, rfl⟩
  go_wp2_with fail
  refine (H2.out _ s1).mono ?_
  rintro e w' ⟨rfl, rfl⟩
  go_wp2_with fail
  refine (H3.out _ s1).mono ?_
  rintro e w2 hM
  obtain ⟨p, t, rfl, h1, h2, h3⟩ := hM
  go_wp2
  go_ret
  exact ⟨_, _, rfl, h1, h2, h3⟩

set_option maxHeartbeats 2000000 in
theorem balanceL1 (ll lr r : BT) (y x : KV) (b : Nat) (pr : Option Addr) (w : World) (hl : IsTree w (some ⟨b, 0, none⟩) (.node ll y lr)) (hr : IsTree w pr r) (hz : (BT.node (.node ll y lr) x r).list.length < 4611686018427387904)
    (h2 : ((BT.node ll y lr).ht : Int) - r.ht = 2) (ht : ¬ ll.ht < lr.ht) :
    Calls Try.prog 48 #[.pointer (some ⟨b, 0, none⟩), .agg #[.string x.1, .string x.2], .pointer pr] w (Makes (BT.node (.node ll y lr) x r).list w) := by
  have a1 := (BT.node ll y lr).ht_le
  have a2 := r.ht_le
  have hz' := hz
  simp only [BT.list, List.length_append, List.length_cons] at hz' a1 a2
  have hw := (wrap_sub (A := (BT.node ll y lr).ht) (C := r.ht) (by omega) (by omega)).trans h2
  have H1 := Lib.hid (fun W (h : Since w W) => tall (BT.node ll y lr) (some ⟨b, 0, none⟩) W (hl.below h.below))
  have H2 := Lib.hid (fun W (h : Since w W) => tall r pr W (hr.below h.below))
  have hl0 := hl
  obtain ⟨b0, p1, p3, e0, hb, h11, h33⟩ := hl0
  cases e0
  have HB := Lib.hid (node_cells hb)
  have HA := Lib.hid (fun W (h : Since w W) => tall ll p1 W (h11.below h.below))
  have HC := Lib.hid (fun W (h : Since w W) => tall lr p3 W (h33.below h.below))
  have et : ((ll.ht : Int) < (lr.ht : Int)) ↔ False := by rw [Int.ofNat_lt]; simp only [ht]
  have H3 := Lib.hid (fun W (h : Since w W) => nodeS h (turnRight ll lr r y x b pr W (hl.below h.below) (hr.below h.below) hz))
  have HL := Lib.hid (show ∀ w' p t, IsTree w' p t → t.list = (BT.node (.node ll y lr) x r).list → Below w.heap.size w w' → Makes _ w (.returned (.pointer p)) w' from fun w' p t h1 h2 h3 => ⟨_, t, rfl, h1, h2, h3⟩)
  clear hz hz' h2 a1 a2 ht hl hr hb h11 h33
  obtain ⟨xk, xv⟩ := x
  obtain ⟨yk, yv⟩ := y
  simp only at *
  generalize ((BT.node ll (yk, yv) lr).ht : Int) = A at *
  generalize (r.ht : Int) = C at *
  generalize (ll.ht : Int) = A1 at *
  generalize (lr.ht : Int) = A3 at *
  go_enter Try.func48, Try.ntmps48
  go_wp2_with fail
  have bk : Blk (w.alloc (.cells #[.string xk, .string xv] 51)) w.heap.size 51 #[.string xk, .string xv] := Blk.new _ _ _
  have s1 : Since w (w.alloc (.cells #[.string xk, .string xv] 51)) := since_of ((Below.refl _ _).alloc (Nat.le_refl _) _)
  generalize w.alloc (.cells #[.string xk, .string xv] 51) = w1 at *
  have k0 : w1.cell? ⟨w.heap.size, 0, none⟩ = some (.string xk) := bk.cell 0
  have k1 : w1.cell? ⟨w.heap.size, 1, none⟩ = some (.string xv) := bk.cell 1
  clear bk
  refine (H1.out _ s1).mono ?_
  rintro e w' ⟨rfl, rfl⟩
  go_wp2_with fail
  refine (H2.out _ s1).mono ?_
  rintro e w' ⟨rfl, rfl⟩
  go_wp2_with fail
  obtain ⟨c0, c1, c2, c3, _⟩ := HB.out
  have d0 := s1.cell c0
  have d1 := s1.cell c1
  have d2 := s1.cell c2
  have d3 := s1.cell c3
  clear c0 c1 c2 c3
  go_region_held3 (fun w' => w'.cell? ⟨b, 0, none⟩ = some (.pointer p1) ∧ w'.cell? ⟨b, 3, none⟩ = some (.pointer p3))
    (go_keep)
    (first
      | (go_at_call 54; refine (HA.out _ (by exact s1)).mono ?_; clear HA; rintro en wJ ⟨rfl, rfl⟩)
      | (go_at_call 54; refine (HC.out _ (by exact s1)).mono ?_; clear HC; rintro en wJ ⟨rfl, rfl⟩))
  go_wp2_with fail
  refine (H3.out _ (by exact s1)).mono ?_
  rintro e w2 ⟨b', rfl, hT, hB, -⟩
  go_wp2
  go_ret
  exact HL.out _ _ _ hT (by simp [BT.list]) hB.below

set_option maxHeartbeats 2000000 in
theorem balanceL2 (ll lr r : BT) (y x : KV) (b : Nat) (pr : Option Addr) (w : World) (hl : IsTree w (some ⟨b, 0, none⟩) (.node ll y lr)) (hr : IsTree w pr r) (hz : (BT.node (.node ll y lr) x r).list.length < 4611686018427387904)
    (h2 : ((BT.node ll y lr).ht : Int) - r.ht = 2) (ht : ll.ht < lr.ht) :
    Calls Try.prog 48 #[.pointer (some ⟨b, 0, none⟩), .agg #[.string x.1, .string x.2], .pointer pr] w (Makes (BT.node (.node ll y lr) x r).list w) := by
  have a1 := (BT.node ll y lr).ht_le
  have a2 := r.ht_le
  have hz' := hz
  simp only [BT.list, List.length_append, List.length_cons] at hz' a1 a2
  have hw := (wrap_sub (A := (BT.node ll y lr).ht) (C := r.ht) (by omega) (by omega)).trans h2
  have H1 := Lib.hid (fun W (h : Since w W) => tall (BT.node ll y lr) (some ⟨b, 0, none⟩) W (hl.below h.below))
  have H2 := Lib.hid (fun W (h : Since w W) => tall r pr W (hr.below h.below))
  have hl0 := hl
  obtain ⟨b0, p1, p3, e0, hb, h11, h33⟩ := hl0
  cases e0
  obtain ⟨ma, z, mb, rfl⟩ : ∃ ma z mb, lr = BT.node ma z mb := by
    cases lr with
    | leaf => exact absurd ht (by simp [BT.ht])
    | node ma z mb => exact ⟨_, _, _, rfl⟩
  have hin := h33
  obtain ⟨b3, p4, p5, rfl, _, _, _⟩ := hin
  have HB := Lib.hid (node_cells hb)
  have HA := Lib.hid (fun W (h : Since w W) => tall ll p1 W (h11.below h.below))
  have HC := Lib.hid (fun W (h : Since w W) => tall (BT.node ma z mb) (some ⟨b3, 0, none⟩) W (h33.below h.below))
  have et : ((ll.ht : Int) < ((BT.node ma z mb).ht : Int)) ↔ True := by rw [Int.ofNat_lt]; simp only [ht]
  have H4 := Lib.hid (fun W (h : Since w W) => nodeS h (turnLeft ll ma mb y z b3 p1 W (h11.below h.below) (h33.below h.below) (by simp only [BT.list, List.length_append, List.length_cons] at hz' ⊢; omega)))
  have H3 := Lib.hid (fun W (h : Since w W) c (hc : IsTree W (some ⟨c, 0, none⟩) (.node (.node ll y ma) z mb)) => nodeS h (turnRight (.node ll y ma) mb r z x c pr W hc (hr.below h.below) (by simp only [BT.list, List.length_append, List.length_cons] at hz' ⊢; omega)))
  have HL := Lib.hid (show ∀ w' p t, IsTree w' p t → t.list = (BT.node (.node ll y (.node ma z mb)) x r).list → Below w.heap.size w w' → Makes _ w (.returned (.pointer p)) w' from fun w' p t h1 h2 h3 => ⟨_, t, rfl, h1, h2, h3⟩)
  clear hz hz' h2 a1 a2 ht hl hr hb h11 h33
  obtain ⟨xk, xv⟩ := x
  obtain ⟨yk, yv⟩ := y
  simp only at *
  generalize ((BT.node ll (yk, yv) (.node ma z mb)).ht : Int) = A at *
  generalize (r.ht : Int) = C at *
  generalize (ll.ht : Int) = A1 at *
  generalize ((BT.node ma z mb).ht : Int) = A3 at *
  go_enter Try.func48, Try.ntmps48
  go_wp2_with fail
  have bk : Blk (w.alloc (.cells #[.string xk, .string xv] 51)) w.heap.size 51 #[.string xk, .string xv] := Blk.new _ _ _
  have s1 : Since w (w.alloc (.cells #[.string xk, .string xv] 51)) := since_of ((Below.refl _ _).alloc (Nat.le_refl _) _)
  generalize w.alloc (.cells #[.string xk, .string xv] 51) = w1 at *
  have k0 : w1.cell? ⟨w.heap.size, 0, none⟩ = some (.string xk) := bk.cell 0
  have k1 : w1.cell? ⟨w.heap.size, 1, none⟩ = some (.string xv) := bk.cell 1
  clear bk
  refine (H1.out _ s1).mono ?_
  rintro e w' ⟨rfl, rfl⟩
  go_wp2_with fail
  refine (H2.out _ s1).mono ?_
  rintro e w' ⟨rfl, rfl⟩
  go_wp2_with fail
  obtain ⟨c0, c1, c2, c3, _⟩ := HB.out
  have d0 := s1.cell c0
  have d1 := s1.cell c1
  have d2 := s1.cell c2
  have d3 := s1.cell c3
  clear c0 c1 c2 c3
  go_region_held3 (fun w' => w'.cell? ⟨b, 0, none⟩ = some (.pointer p1) ∧ w'.cell? ⟨b, 3, none⟩ = some (.pointer (some ⟨b3, 0, none⟩)))
    (go_keep)
    (first
      | (go_at_call 54; refine (HA.out _ (by exact s1)).mono ?_; clear HA; rintro en wJ ⟨rfl, rfl⟩)
      | (go_at_call 54; refine (HC.out _ (by exact s1)).mono ?_; clear HC; rintro en wJ ⟨rfl, rfl⟩))
  go_wp2_with fail
  go_region_held3 (fun w' => w'.cell? ⟨b, 0, none⟩ = some (.pointer p1) ∧ w'.cell? ⟨b, 1, none⟩ = some (.string yk) ∧ w'.cell? ⟨b, 2, none⟩ = some (.string yv) ∧ w'.cell? ⟨b, 3, none⟩ = some (.pointer (some ⟨b3, 0, none⟩)))
    (first | go_keep | exact ⟨qJ _ _ d0, qJ _ _ d1, qJ _ _ d2, qJ _ _ d3⟩)
    (first
      | (go_at_call 55; refine (H4.out _ (by exact s1)).mono ?_; clear H4; rintro en wJ ⟨c, rfl, tJ, bJ, qJ⟩))
  have q0 := qJ _ _ k0
  have q1 := qJ _ _ k1
  go_wp2_with fail
  refine (H3.out _ (by exact bJ) _ (by exact tJ)).mono ?_
  rintro e w2 ⟨b', rfl, hT, hB, -⟩
  go_wp2
  go_ret
  exact HL.out _ _ _ hT (by simp [BT.list]) hB.below

set_option maxHeartbeats 2000000 in
theorem balanceR1 (l rl rr : BT) (x y : KV) (b : Nat) (pl : Option Addr) (w : World) (hl : IsTree w pl l) (hr : IsTree w (some ⟨b, 0, none⟩) (.node rl y rr)) (hz : (BT.node l x (.node rl y rr)).list.length < 4611686018427387904)
    (h2 : (l.ht : Int) - (BT.node rl y rr).ht = -2) (ht : ¬ rr.ht < rl.ht) :
    Calls Try.prog 48 #[.pointer pl, .agg #[.string x.1, .string x.2], .pointer (some ⟨b, 0, none⟩)] w (Makes (BT.node l x (.node rl y rr)).list w) := by
  have a1 := l.ht_le
  have a2 := (BT.node rl y rr).ht_le
  have hz' := hz
  simp only [BT.list, List.length_append, List.length_cons] at hz' a1 a2
  have hw := (wrap_sub (A := l.ht) (C := (BT.node rl y rr).ht) (by omega) (by omega)).trans h2
  have H1 := Lib.hid (fun W (h : Since w W) => tall l pl W (hl.below h.below))
  have H2 := Lib.hid (fun W (h : Since w W) => tall (BT.node rl y rr) (some ⟨b, 0, none⟩) W (hr.below h.below))
  have hl0 := hr
  obtain ⟨b0, p1, p3, e0, hb, h11, h33⟩ := hl0
  cases e0
  have HB := Lib.hid (node_cells hb)
  have HA := Lib.hid (fun W (h : Since w W) => tall rr p3 W (h33.below h.below))
  have HC := Lib.hid (fun W (h : Since w W) => tall rl p1 W (h11.below h.below))
  have et : ((rr.ht : Int) < (rl.ht : Int)) ↔ False := by rw [Int.ofNat_lt]; simp only [ht]
  have H3 := Lib.hid (fun W (h : Since w W) => nodeS h (turnLeft l rl rr x y b pl W (hl.below h.below) (hr.below h.below) hz))
  have HL := Lib.hid (show ∀ w' p t, IsTree w' p t → t.list = (BT.node l x (.node rl y rr)).list → Below w.heap.size w w' → Makes _ w (.returned (.pointer p)) w' from fun w' p t h1 h2 h3 => ⟨_, t, rfl, h1, h2, h3⟩)
  clear hz hz' h2 a1 a2 ht hl hr hb h11 h33
  obtain ⟨xk, xv⟩ := x
  obtain ⟨yk, yv⟩ := y
  simp only at *
  generalize (l.ht : Int) = A at *
  generalize ((BT.node rl (yk, yv) rr).ht : Int) = C at *
  generalize (rr.ht : Int) = A1 at *
  generalize (rl.ht : Int) = A3 at *
  go_enter Try.func48, Try.ntmps48
  go_wp2_with fail
  have bk : Blk (w.alloc (.cells #[.string xk, .string xv] 51)) w.heap.size 51 #[.string xk, .string xv] := Blk.new _ _ _
  have s1 : Since w (w.alloc (.cells #[.string xk, .string xv] 51)) := since_of ((Below.refl _ _).alloc (Nat.le_refl _) _)
  generalize w.alloc (.cells #[.string xk, .string xv] 51) = w1 at *
  have k0 : w1.cell? ⟨w.heap.size, 0, none⟩ = some (.string xk) := bk.cell 0
  have k1 : w1.cell? ⟨w.heap.size, 1, none⟩ = some (.string xv) := bk.cell 1
  clear bk
  refine (H1.out _ s1).mono ?_
  rintro e w' ⟨rfl, rfl⟩
  go_wp2_with fail
  refine (H2.out _ s1).mono ?_
  rintro e w' ⟨rfl, rfl⟩
  go_wp2_with fail
  obtain ⟨c0, c1, c2, c3, _⟩ := HB.out
  have d0 := s1.cell c0
  have d1 := s1.cell c1
  have d2 := s1.cell c2
  have d3 := s1.cell c3
  clear c0 c1 c2 c3
  go_region_held3 (fun w' => w'.cell? ⟨b, 0, none⟩ = some (.pointer p1) ∧ w'.cell? ⟨b, 3, none⟩ = some (.pointer p3))
    (go_keep)
    (first
      | (go_at_call 54; refine (HA.out _ (by exact s1)).mono ?_; clear HA; rintro en wJ ⟨rfl, rfl⟩)
      | (go_at_call 54; refine (HC.out _ (by exact s1)).mono ?_; clear HC; rintro en wJ ⟨rfl, rfl⟩))
  go_wp2_with fail
  refine (H3.out _ (by exact s1)).mono ?_
  rintro e w2 ⟨b', rfl, hT, hB, -⟩
  go_wp2
  go_ret
  exact HL.out _ _ _ hT (by simp [BT.list]) hB.below

set_option maxHeartbeats 2000000 in
theorem balanceR2 (l rl rr : BT) (x y : KV) (b : Nat) (pl : Option Addr) (w : World) (hl : IsTree w pl l) (hr : IsTree w (some ⟨b, 0, none⟩) (.node rl y rr)) (hz : (BT.node l x (.node rl y rr)).list.length < 4611686018427387904)
    (h2 : (l.ht : Int) - (BT.node rl y rr).ht = -2) (ht : rr.ht < rl.ht) :
    Calls Try.prog 48 #[.pointer pl, .agg #[.string x.1, .string x.2], .pointer (some ⟨b, 0, none⟩)] w (Makes (BT.node l x (.node rl y rr)).list w) := by
  have a1 := l.ht_le
  have a2 := (BT.node rl y rr).ht_le
  have hz' := hz
  simp only [BT.list, List.length_append, List.length_cons] at hz' a1 a2
  have hw := (wrap_sub (A := l.ht) (C := (BT.node rl y rr).ht) (by omega) (by omega)).trans h2
  have H1 := Lib.hid (fun W (h : Since w W) => tall l pl W (hl.below h.below))
  have H2 := Lib.hid (fun W (h : Since w W) => tall (BT.node rl y rr) (some ⟨b, 0, none⟩) W (hr.below h.below))
  have hl0 := hr
  obtain ⟨b0, p1, p3, e0, hb, h11, h33⟩ := hl0
  cases e0
  obtain ⟨ma, z, mb, rfl⟩ : ∃ ma z mb, rl = BT.node ma z mb := by
    cases rl with
    | leaf => exact absurd ht (by simp [BT.ht])
    | node ma z mb => exact ⟨_, _, _, rfl⟩
  have hin := h11
  obtain ⟨b3, p4, p5, rfl, _, _, _⟩ := hin
  have HB := Lib.hid (node_cells hb)
  have HA := Lib.hid (fun W (h : Since w W) => tall rr p3 W (h33.below h.below))
  have HC := Lib.hid (fun W (h : Since w W) => tall (BT.node ma z mb) (some ⟨b3, 0, none⟩) W (h11.below h.below))
  have et : ((rr.ht : Int) < ((BT.node ma z mb).ht : Int)) ↔ True := by rw [Int.ofNat_lt]; simp only [ht]
  have H4 := Lib.hid (fun W (h : Since w W) => nodeS h (turnRight ma mb rr z y b3 p3 W (h11.below h.below) (h33.below h.below) (by simp only [BT.list, List.length_append, List.length_cons] at hz' ⊢; omega)))
  have H3 := Lib.hid (fun W (h : Since w W) c (hc : IsTree W (some ⟨c, 0, none⟩) (.node ma z (.node mb y rr))) => nodeS h (turnLeft l ma (.node mb y rr) x z c pl W (hl.below h.below) hc (by simp only [BT.list, List.length_append, List.length_cons] at hz' ⊢; omega)))
  have HL := Lib.hid (show ∀ w' p t, IsTree w' p t → t.list = (BT.node l x (.node (.node ma z mb) y rr)).list → Below w.heap.size w w' → Makes _ w (.returned (.pointer p)) w' from fun w' p t h1 h2 h3 => ⟨_, t, rfl, h1, h2, h3⟩)
  clear hz hz' h2 a1 a2 ht hl hr hb h11 h33
  obtain ⟨xk, xv⟩ := x
  obtain ⟨yk, yv⟩ := y
  simp only at *
  generalize (l.ht : Int) = A at *
  generalize ((BT.node (.node ma z mb) (yk, yv) rr).ht : Int) = C at *
  generalize (rr.ht : Int) = A1 at *
  generalize ((BT.node ma z mb).ht : Int) = A3 at *
  go_enter Try.func48, Try.ntmps48
  go_wp2_with fail
  have bk : Blk (w.alloc (.cells #[.string xk, .string xv] 51)) w.heap.size 51 #[.string xk, .string xv] := Blk.new _ _ _
  have s1 : Since w (w.alloc (.cells #[.string xk, .string xv] 51)) := since_of ((Below.refl _ _).alloc (Nat.le_refl _) _)
  generalize w.alloc (.cells #[.string xk, .string xv] 51) = w1 at *
  have k0 : w1.cell? ⟨w.heap.size, 0, none⟩ = some (.string xk) := bk.cell 0
  have k1 : w1.cell? ⟨w.heap.size, 1, none⟩ = some (.string xv) := bk.cell 1
  clear bk
  refine (H1.out _ s1).mono ?_
  rintro e w' ⟨rfl, rfl⟩
  go_wp2_with fail
  refine (H2.out _ s1).mono ?_
  rintro e w' ⟨rfl, rfl⟩
  go_wp2_with fail
  obtain ⟨c0, c1, c2, c3, _⟩ := HB.out
  have d0 := s1.cell c0
  have d1 := s1.cell c1
  have d2 := s1.cell c2
  have d3 := s1.cell c3
  clear c0 c1 c2 c3
  go_region_held3 (fun w' => w'.cell? ⟨b, 0, none⟩ = some (.pointer (some ⟨b3, 0, none⟩)) ∧ w'.cell? ⟨b, 3, none⟩ = some (.pointer p3))
    (go_keep)
    (first
      | (go_at_call 54; refine (HA.out _ (by exact s1)).mono ?_; clear HA; rintro en wJ ⟨rfl, rfl⟩)
      | (go_at_call 54; refine (HC.out _ (by exact s1)).mono ?_; clear HC; rintro en wJ ⟨rfl, rfl⟩))
  go_wp2_with fail
  go_region_held3 (fun w' => w'.cell? ⟨b, 0, none⟩ = some (.pointer (some ⟨b3, 0, none⟩)) ∧ w'.cell? ⟨b, 1, none⟩ = some (.string yk) ∧ w'.cell? ⟨b, 2, none⟩ = some (.string yv) ∧ w'.cell? ⟨b, 3, none⟩ = some (.pointer p3))
    (first | go_keep | exact ⟨qJ _ _ d0, qJ _ _ d1, qJ _ _ d2, qJ _ _ d3⟩)
    (first
      | (go_at_call 56; refine (H4.out _ (by exact s1)).mono ?_; clear H4; rintro en wJ ⟨c, rfl, tJ, bJ, qJ⟩))
  have q0 := qJ _ _ k0
  have q1 := qJ _ _ k1
  go_wp2_with fail
  refine (H3.out _ (by exact bJ) _ (by exact tJ)).mono ?_
  rintro e w2 ⟨b', rfl, hT, hB, -⟩
  go_wp2
  go_ret
  exact HL.out _ _ _ hT (by simp [BT.list]) hB.below

theorem balance (l r : BT) (x : KV) (pl pr : Option Addr) (w : World) (hl : IsTree w pl l) (hr : IsTree w pr r) (hz : (BT.node l x r).list.length < 4611686018427387904) :
    Calls Try.prog 48 #[.pointer pl, .agg #[.string x.1, .string x.2], .pointer pr] w (Makes (BT.node l x r).list w) := by
  by_cases h2 : (l.ht : Int) - r.ht = 2
  · cases l with
    | leaf => exact absurd h2 (by simp only [BT.ht]; omega)
    | node ll y lr =>
      have hl' := hl
      obtain ⟨b, _, _, rfl, _⟩ := hl'
      by_cases ht : ll.ht < lr.ht
      · exact balanceL2 ll lr r y x b pr w hl hr hz h2 ht
      · exact balanceL1 ll lr r y x b pr w hl hr hz h2 ht
  · by_cases h3 : (l.ht : Int) - r.ht = -2
    · cases r with
      | leaf => exact absurd h3 (by simp only [BT.ht]; omega)
      | node rl y rr =>
        have hr' := hr
        obtain ⟨b, _, _, rfl, _⟩ := hr'
        by_cases ht : rr.ht < rl.ht
        · exact balanceR2 l rl rr x y b pl w hl hr hz h3 ht
        · exact balanceR1 l rl rr x y b pl w hl hr hz h3 ht
    · exact balanceJoin l r x pl pr w hl hr hz h2 h3
end Go.Proofs.Ytpjndgcliegloaa.W
