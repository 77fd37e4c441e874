import Derived.Deep.LoopGhost
import Derived.RangeFuncNested
import Derived.RangeFuncBound
import Derived.RangeFuncCalls
import Derived.RangeFuncLeaves
import Derived.Shelf.Abstract
import Derived.Shelf.RegionOpen
import Derived.WalkKit
import Derived.OwnWalkIn
import Derived.TacticsInMore
import Derived.LoopNIn
import Derived.LoopIn
import Derived.Test.YtkejaepmoabikaaGreatDoorZ0b
import Derived.Test.YtkejaepmoabikaaGreatDoorZ0a
namespace Go.Proofs.YtkejaepmoabikaaGreatDoor.W
open Go.RowKit
open Lib renaming hid → qH
open _root_.Go.Proofs.Tryz renaming prog → qP
set_option maxHeartbeats 2000000
theorem wrap_sub {A C : Nat} (h : A < 4611686018427387904) (k : C < 4611686018427387904) : wrap64 ((A : Int) - C) = (A : Int) - C := by simp only [wrap64]; omega
theorem makes_join {l r : BT} {x : KV} {w : World} {e : Ending} {w' : World} (h : ∃ b, e = .returned (.pointer (some ⟨b, 0, none⟩)) ∧ IsTree w' (some ⟨b, 0, none⟩) (.node l x r) ∧ Since w w') : Makes (BT.node l x r).list w e w' :=
 let ⟨_, he, ht, hs⟩ := h; ⟨_, _, he, ht, rfl, hs.below⟩
theorem nodeS {f : FuncId} {args : Array Value} {t : BT} {w0 W : World} (hs : Since w0 W) (h : Calls qP f args W fun e w' => ∃ b, e = .returned (.pointer (some ⟨b, 0, none⟩)) ∧ IsTree w' (some ⟨b, 0, none⟩) t ∧ Below W.heap.size W w') :
  Calls qP f args W fun e w' => ∃ b, e = .returned (.pointer (some ⟨b, 0, none⟩)) ∧ IsTree w' (some ⟨b, 0, none⟩) t ∧ Since w0 w' ∧ ∀ a v, W.cell? a = some v → w'.cell? a = some v :=
 h.mono fun _ _ ⟨b, he, ht, hb⟩ => ⟨b, he, ht, since_of (step_below hs.below hb), fun _ _ hc => (since_of hb).cell hc⟩
theorem balanceJoin (l r : BT) (x : KV) (pl pr : Option Addr) (w : World) (hl : IsTree w pl l) (hr : IsTree w pr r) (hz : (BT.node l x r).list.length < 4611686018427387904)
  (h2 : (l.ht : Int) - r.ht ≠ 2) (h3 : (l.ht : Int) - r.ht ≠ -2) :
  Calls qP 228 #[.pointer pl, .agg #[.string x.1, .string x.2], .pointer pr] w (Makes (BT.node l x r).list w) := by
 have a1 := l.ht_le
 have a2 := r.ht_le
 have hz' := hz
 simp only [BT.list, List.length_append, List.length_cons] at hz'
 obtain ⟨D, hD⟩ : ∃ D, D = (l.ht : Int) - r.ht := ⟨_, rfl⟩
 rw [← hD] at h2 h3
 have hw := (wrap_sub (A := l.ht) (C := r.ht) (by omega) (by omega)).trans hD.symm
 have e2 : (D == 2) = false := by simpa using h2
 have e3 : (D == -2) = false := by simpa using h3
 have H1 := qH (fun W (h : Since w W) => tall l pl W (hl.below h.below))
 have H2 := qH (fun W (h : Since w W) => tall r pr W (hr.below h.below))
 have H3 := qH (fun W (h : Since w W) => (joinS w l r x pl pr W h (hl.below h.below) (hr.below h.below) hz).mono fun _ _ h => makes_join h)
 clear hz hz' h2 h3 a1 a2 hl hr hD
 obtain ⟨xk, xv⟩ := x
 simp only at *
 generalize (BT.node l (xk, xv) r).list = L at *
 generalize (l.ht : Int) = A at *
 generalize (r.ht : Int) = C at *
 go_enter Tryz.func228, Tryz.ntmps228
 go_wp2_with fail
 have bk : Blk (w.alloc (.cells #[.string xk, .string xv] 36)) w.heap.size 36 #[.string xk, .string xv] := Blk.new _ _ _
 have s1 : Since w (w.alloc (.cells #[.string xk, .string xv] 36)) := since_of ((Below.refl _ _).alloc (Nat.le_refl _) _)
 generalize w.alloc (.cells #[.string xk, .string xv] 36) = w1 at *
 have k0 : w1.cell? ⟨w.heap.size, 0, none⟩ = some (.string xk) := bk.cell 0
 have k1 : w1.cell? ⟨w.heap.size, 1, none⟩ = some (.string xv) := bk.cell 1
 clear bk
 refine (H1.out _ s1).mono ?_
 rintro e w' ⟨rfl, rfl⟩
 go_wp2_with fail
 refine (H2.out _ s1).mono ?_
 rintro e w' ⟨rfl, rfl⟩
 go_wp2_with fail
 refine (H3.out _ s1).mono ?_
 rintro e w2 hM
 obtain ⟨p, t, rfl, h1, h2, h3⟩ := hM
 go_wp2
 go_ret
 exact ⟨_, _, rfl, h1, h2, h3⟩
theorem balanceL1 (ll lr r : BT) (y x : KV) (b : Nat) (pr : Option Addr) (w : World) (hl : IsTree w (some ⟨b, 0, none⟩) (.node ll y lr)) (hr : IsTree w pr r) (hz : (BT.node (.node ll y lr) x r).list.length < 4611686018427387904)
  (h2 : ((BT.node ll y lr).ht : Int) - r.ht = 2) (ht : ¬ ll.ht < lr.ht) :
  Calls qP 228 #[.pointer (some ⟨b, 0, none⟩), .agg #[.string x.1, .string x.2], .pointer pr] w (Makes (BT.node (.node ll y lr) x r).list w) := by
 have a1 := (BT.node ll y lr).ht_le
 have a2 := r.ht_le
 have hz' := hz
 simp only [BT.list, List.length_append, List.length_cons] at hz' a1 a2
 have hw := (wrap_sub (A := (BT.node ll y lr).ht) (C := r.ht) (by omega) (by omega)).trans h2
 have H1 := qH (fun W (h : Since w W) => tall (BT.node ll y lr) (some ⟨b, 0, none⟩) W (hl.below h.below))
 have H2 := qH (fun W (h : Since w W) => tall r pr W (hr.below h.below))
 have hl0 := hl
 obtain ⟨b0, p1, p3, e0, hb, h11, h33⟩ := hl0
 cases e0
 have HB := qH (node_cells hb)
 have HA := qH (fun W (h : Since w W) => tall ll p1 W (h11.below h.below))
 have HC := qH (fun W (h : Since w W) => tall lr p3 W (h33.below h.below))
 have et : ((ll.ht : Int) < (lr.ht : Int)) ↔ False := by rw [Int.ofNat_lt]; simp only [ht]
 have H3 := qH (fun W (h : Since w W) => nodeS h (turnRight ll lr r y x b pr W (hl.below h.below) (hr.below h.below) hz))
 have HL := qH (show ∀ w' p t, IsTree w' p t → t.list = (BT.node (.node ll y lr) x r).list → Below w.heap.size w w' → Makes _ w (.returned (.pointer p)) w' from fun w' p t h1 h2 h3 => ⟨_, t, rfl, h1, h2, h3⟩)
 clear hz hz' h2 a1 a2 ht hl hr hb h11 h33
 obtain ⟨xk, xv⟩ := x
 obtain ⟨yk, yv⟩ := y
 simp only at *
 generalize ((BT.node ll (yk, yv) lr).ht : Int) = A at *
 generalize (r.ht : Int) = C at *
 generalize (ll.ht : Int) = A1 at *
 generalize (lr.ht : Int) = A3 at *
 go_enter Tryz.func228, Tryz.ntmps228
 go_wp2_with fail
 have bk : Blk (w.alloc (.cells #[.string xk, .string xv] 36)) w.heap.size 36 #[.string xk, .string xv] := Blk.new _ _ _
 have s1 : Since w (w.alloc (.cells #[.string xk, .string xv] 36)) := since_of ((Below.refl _ _).alloc (Nat.le_refl _) _)
 generalize w.alloc (.cells #[.string xk, .string xv] 36) = w1 at *
 have k0 : w1.cell? ⟨w.heap.size, 0, none⟩ = some (.string xk) := bk.cell 0
 have k1 : w1.cell? ⟨w.heap.size, 1, none⟩ = some (.string xv) := bk.cell 1
 clear bk
 refine (H1.out _ s1).mono ?_
 rintro e w' ⟨rfl, rfl⟩
 go_wp2_with fail
 refine (H2.out _ s1).mono ?_
 rintro e w' ⟨rfl, rfl⟩
 go_wp2_with fail
 obtain ⟨c0, c1, c2, c3, _⟩ := HB.out
 have d0 := s1.cell c0
 have d1 := s1.cell c1
 have d2 := s1.cell c2
 have d3 := s1.cell c3
 clear c0 c1 c2 c3
 go_region_held3 (fun w' => w'.cell? ⟨b, 0, none⟩ = some (.pointer p1) ∧ w'.cell? ⟨b, 3, none⟩ = some (.pointer p3))
  (go_keep)
  (first
    | (go_at_call 244; refine (HA.out _ (by exact s1)).mono ?_; clear HA; rintro en wJ ⟨rfl, rfl⟩)
    | (go_at_call 244; refine (HC.out _ (by exact s1)).mono ?_; clear HC; rintro en wJ ⟨rfl, rfl⟩))
 go_wp2_with fail
 refine (H3.out _ (by exact s1)).mono ?_
 rintro e w2 ⟨b', rfl, hT, hB, -⟩
 go_wp2
 go_ret
 exact HL.out _ _ _ hT (by simp [BT.list]) hB.below
theorem balanceL2 (ll lr r : BT) (y x : KV) (b : Nat) (pr : Option Addr) (w : World) (hl : IsTree w (some ⟨b, 0, none⟩) (.node ll y lr)) (hr : IsTree w pr r) (hz : (BT.node (.node ll y lr) x r).list.length < 4611686018427387904)
  (h2 : ((BT.node ll y lr).ht : Int) - r.ht = 2) (ht : ll.ht < lr.ht) :
  Calls qP 228 #[.pointer (some ⟨b, 0, none⟩), .agg #[.string x.1, .string x.2], .pointer pr] w (Makes (BT.node (.node ll y lr) x r).list w) := by
 have a1 := (BT.node ll y lr).ht_le
 have a2 := r.ht_le
 have hz' := hz
 simp only [BT.list, List.length_append, List.length_cons] at hz' a1 a2
 have hw := (wrap_sub (A := (BT.node ll y lr).ht) (C := r.ht) (by omega) (by omega)).trans h2
 have H1 := qH (fun W (h : Since w W) => tall (BT.node ll y lr) (some ⟨b, 0, none⟩) W (hl.below h.below))
 have H2 := qH (fun W (h : Since w W) => tall r pr W (hr.below h.below))
 have hl0 := hl
 obtain ⟨b0, p1, p3, e0, hb, h11, h33⟩ := hl0
 cases e0
 obtain ⟨ma, z, mb, rfl⟩ : ∃ ma z mb, lr = BT.node ma z mb := by
  cases lr with
  | leaf => exact absurd ht (by simp [BT.ht])
  | node ma z mb => exact ⟨_, _, _, rfl⟩
 have hin := h33
 obtain ⟨b3, p4, p5, rfl, _, _, _⟩ := hin
 have HB := qH (node_cells hb)
 have HA := qH (fun W (h : Since w W) => tall ll p1 W (h11.below h.below))
 have HC := qH (fun W (h : Since w W) => tall (BT.node ma z mb) (some ⟨b3, 0, none⟩) W (h33.below h.below))
 have et : ((ll.ht : Int) < ((BT.node ma z mb).ht : Int)) ↔ True := by rw [Int.ofNat_lt]; simp only [ht]
 have H4 := qH (fun W (h : Since w W) => nodeS h (turnLeft ll ma mb y z b3 p1 W (h11.below h.below) (h33.below h.below) (by simp only [BT.list, List.length_append, List.length_cons] at hz' ⊢; omega)))
 have H3 := qH (fun W (h : Since w W) c (hc : IsTree W (some ⟨c, 0, none⟩) (.node (.node ll y ma) z mb)) => nodeS h (turnRight (.node ll y ma) mb r z x c pr W hc (hr.below h.below) (by simp only [BT.list, List.length_append, List.length_cons] at hz' ⊢; omega)))
 have HL := qH (show ∀ w' p t, IsTree w' p t → t.list = (BT.node (.node ll y (.node ma z mb)) x r).list → Below w.heap.size w w' → Makes _ w (.returned (.pointer p)) w' from fun w' p t h1 h2 h3 => ⟨_, t, rfl, h1, h2, h3⟩)
 clear hz hz' h2 a1 a2 ht hl hr hb h11 h33
 obtain ⟨xk, xv⟩ := x
 obtain ⟨yk, yv⟩ := y
 simp only at *
 generalize ((BT.node ll (yk, yv) (.node ma z mb)).ht : Int) = A at *
 generalize (r.ht : Int) = C at *
 generalize (ll.ht : Int) = A1 at *
 generalize ((BT.node ma z mb).ht : Int) = A3 at *
 go_enter Tryz.func228, Tryz.ntmps228
 go_wp2_with fail
 have bk : Blk (w.alloc (.cells #[.string xk, .string xv] 36)) w.heap.size 36 #[.string xk, .string xv] := Blk.new _ _ _
 have s1 : Since w (w.alloc (.cells #[.string xk, .string xv] 36)) := since_of ((Below.refl _ _).alloc (Nat.le_refl _) _)
 generalize w.alloc (.cells #[.string xk, .string xv] 36) = w1 at *
 have k0 : w1.cell? ⟨w.heap.size, 0, none⟩ = some (.string xk) := bk.cell 0
 have k1 : w1.cell? ⟨w.heap.size, 1, none⟩ = some (.string xv) := bk.cell 1
 clear bk
 refine (H1.out _ s1).mono ?_
 rintro e w' ⟨rfl, rfl⟩
 go_wp2_with fail
 refine (H2.out _ s1).mono ?_
 rintro e w' ⟨rfl, rfl⟩
 go_wp2_with fail
 obtain ⟨c0, c1, c2, c3, _⟩ := HB.out
 have d0 := s1.cell c0
 have d1 := s1.cell c1
 have d2 := s1.cell c2
 have d3 := s1.cell c3
 clear c0 c1 c2 c3
 go_region_held3 (fun w' => w'.cell? ⟨b, 0, none⟩ = some (.pointer p1) ∧ w'.cell? ⟨b, 3, none⟩ = some (.pointer (some ⟨b3, 0, none⟩)))
  (go_keep)
  (first
    | (go_at_call 244; refine (HA.out _ (by exact s1)).mono ?_; clear HA; rintro en wJ ⟨rfl, rfl⟩)
    | (go_at_call 244; refine (HC.out _ (by exact s1)).mono ?_; clear HC; rintro en wJ ⟨rfl, rfl⟩))
 go_wp2_with fail
 go_region_held3 (fun w' => w'.cell? ⟨b, 0, none⟩ = some (.pointer p1) ∧ w'.cell? ⟨b, 1, none⟩ = some (.string yk) ∧ w'.cell? ⟨b, 2, none⟩ = some (.string yv) ∧ w'.cell? ⟨b, 3, none⟩ = some (.pointer (some ⟨b3, 0, none⟩)))
  (first | go_keep | exact ⟨qJ _ _ d0, qJ _ _ d1, qJ _ _ d2, qJ _ _ d3⟩)
  (first
    | (go_at_call 245; refine (H4.out _ (by exact s1)).mono ?_; clear H4; rintro en wJ ⟨c, rfl, tJ, bJ, qJ⟩))
 have q0 := qJ _ _ k0
 have q1 := qJ _ _ k1
 go_wp2_with fail
 refine (H3.out _ (by exact bJ) _ (by exact tJ)).mono ?_
 rintro e w2 ⟨b', rfl, hT, hB, -⟩
 go_wp2
 go_ret
 exact HL.out _ _ _ hT (by simp [BT.list]) hB.below
theorem balanceR1 (l rl rr : BT) (x y : KV) (b : Nat) (pl : Option Addr) (w : World) (hl : IsTree w pl l) (hr : IsTree w (some ⟨b, 0, none⟩) (.node rl y rr)) (hz : (BT.node l x (.node rl y rr)).list.length < 4611686018427387904)
  (h2 : (l.ht : Int) - (BT.node rl y rr).ht = -2) (ht : ¬ rr.ht < rl.ht) :
  Calls qP 228 #[.pointer pl, .agg #[.string x.1, .string x.2], .pointer (some ⟨b, 0, none⟩)] w (Makes (BT.node l x (.node rl y rr)).list w) := by
 have a1 := l.ht_le
 have a2 := (BT.node rl y rr).ht_le
 have hz' := hz
 simp only [BT.list, List.length_append, List.length_cons] at hz' a1 a2
 have hw := (wrap_sub (A := l.ht) (C := (BT.node rl y rr).ht) (by omega) (by omega)).trans h2
 have H1 := qH (fun W (h : Since w W) => tall l pl W (hl.below h.below))
 have H2 := qH (fun W (h : Since w W) => tall (BT.node rl y rr) (some ⟨b, 0, none⟩) W (hr.below h.below))
 have hl0 := hr
 obtain ⟨b0, p1, p3, e0, hb, h11, h33⟩ := hl0
 cases e0
 have HB := qH (node_cells hb)
 have HA := qH (fun W (h : Since w W) => tall rr p3 W (h33.below h.below))
 have HC := qH (fun W (h : Since w W) => tall rl p1 W (h11.below h.below))
 have et : ((rr.ht : Int) < (rl.ht : Int)) ↔ False := by rw [Int.ofNat_lt]; simp only [ht]
 have H3 := qH (fun W (h : Since w W) => nodeS h (turnLeft l rl rr x y b pl W (hl.below h.below) (hr.below h.below) hz))
 have HL := qH (show ∀ w' p t, IsTree w' p t → t.list = (BT.node l x (.node rl y rr)).list → Below w.heap.size w w' → Makes _ w (.returned (.pointer p)) w' from fun w' p t h1 h2 h3 => ⟨_, t, rfl, h1, h2, h3⟩)
 clear hz hz' h2 a1 a2 ht hl hr hb h11 h33
 obtain ⟨xk, xv⟩ := x
 obtain ⟨yk, yv⟩ := y
 simp only at *
 generalize (l.ht : Int) = A at *
 generalize ((BT.node rl (yk, yv) rr).ht : Int) = C at *
 generalize (rr.ht : Int) = A1 at *
 generalize (rl.ht : Int) = A3 at *
 go_enter Tryz.func228, Tryz.ntmps228
 go_wp2_with fail
 have bk : Blk (w.alloc (.cells #[.string xk, .string xv] 36)) w.heap.size 36 #[.string xk, .string xv] := Blk.new _ _ _
 have s1 : Since w (w.alloc (.cells #[.string xk, .string xv] 36)) := since_of ((Below.refl _ _).alloc (Nat.le_refl _) _)
 generalize w.alloc (.cells #[.string xk, .string xv] 36) = w1 at *
 have k0 : w1.cell? ⟨w.heap.size, 0, none⟩ = some (.string xk) := bk.cell 0
 have k1 : w1.cell? ⟨w.heap.size, 1, none⟩ = some (.string xv) := bk.cell 1
 clear bk
 refine (H1.out _ s1).mono ?_
 rintro e w' ⟨rfl, rfl⟩
 go_wp2_with fail
 refine (H2.out _ s1).mono ?_
 rintro e w' ⟨rfl, rfl⟩
 go_wp2_with fail
 obtain ⟨c0, c1, c2, c3, _⟩ := HB.out
 have d0 := s1.cell c0
 have d1 := s1.cell c1
 have d2 := s1.cell c2
 have d3 := s1.cell c3
 clear c0 c1 c2 c3
 go_region_held3 (fun w' => w'.cell? ⟨b, 0, none⟩ = some (.pointer p1) ∧ w'.cell? ⟨b, 3, none⟩ = some (.pointer p3))
  (go_keep)
  (first
    | (go_at_call 244; refine (HA.out _ (by exact s1)).mono ?_; clear HA; rintro en wJ ⟨rfl, rfl⟩)
    | (go_at_call 244; refine (HC.out _ (by exact s1)).mono ?_; clear HC; rintro en wJ ⟨rfl, rfl⟩))
 go_wp2_with fail
 refine (H3.out _ (by exact s1)).mono ?_
 rintro e w2 ⟨b', rfl, hT, hB, -⟩
 go_wp2
 go_ret
 exact HL.out _ _ _ hT (by simp [BT.list]) hB.below
theorem balanceR2 (l rl rr : BT) (x y : KV) (b : Nat) (pl : Option Addr) (w : World) (hl : IsTree w pl l) (hr : IsTree w (some ⟨b, 0, none⟩) (.node rl y rr)) (hz : (BT.node l x (.node rl y rr)).list.length < 4611686018427387904)
  (h2 : (l.ht : Int) - (BT.node rl y rr).ht = -2) (ht : rr.ht < rl.ht) :
  Calls qP 228 #[.pointer pl, .agg #[.string x.1, .string x.2], .pointer (some ⟨b, 0, none⟩)] w (Makes (BT.node l x (.node rl y rr)).list w) := by
 have a1 := l.ht_le
 have a2 := (BT.node rl y rr).ht_le
 have hz' := hz
 simp only [BT.list, List.length_append, List.length_cons] at hz' a1 a2
 have hw := (wrap_sub (A := l.ht) (C := (BT.node rl y rr).ht) (by omega) (by omega)).trans h2
 have H1 := qH (fun W (h : Since w W) => tall l pl W (hl.below h.below))
 have H2 := qH (fun W (h : Since w W) => tall (BT.node rl y rr) (some ⟨b, 0, none⟩) W (hr.below h.below))
 have hl0 := hr
 obtain ⟨b0, p1, p3, e0, hb, h11, h33⟩ := hl0
 cases e0
 obtain ⟨ma, z, mb, rfl⟩ : ∃ ma z mb, rl = BT.node ma z mb := by
  cases rl with
  | leaf => exact absurd ht (by simp [BT.ht])
  | node ma z mb => exact ⟨_, _, _, rfl⟩
 have hin := h11
 obtain ⟨b3, p4, p5, rfl, _, _, _⟩ := hin
 have HB := qH (node_cells hb)
 have HA := qH (fun W (h : Since w W) => tall rr p3 W (h33.below h.below))
 have HC := qH (fun W (h : Since w W) => tall (BT.node ma z mb) (some ⟨b3, 0, none⟩) W (h11.below h.below))
 have et : ((rr.ht : Int) < ((BT.node ma z mb).ht : Int)) ↔ True := by rw [Int.ofNat_lt]; simp only [ht]
 have H4 := qH (fun W (h : Since w W) => nodeS h (turnRight ma mb rr z y b3 p3 W (h11.below h.below) (h33.below h.below) (by simp only [BT.list, List.length_append, List.length_cons] at hz' ⊢; omega)))
 have H3 := qH (fun W (h : Since w W) c (hc : IsTree W (some ⟨c, 0, none⟩) (.node ma z (.node mb y rr))) => nodeS h (turnLeft l ma (.node mb y rr) x z c pl W (hl.below h.below) hc (by simp only [BT.list, List.length_append, List.length_cons] at hz' ⊢; omega)))
 have HL := qH (show ∀ w' p t, IsTree w' p t → t.list = (BT.node l x (.node (.node ma z mb) y rr)).list → Below w.heap.size w w' → Makes _ w (.returned (.pointer p)) w' from fun w' p t h1 h2 h3 => ⟨_, t, rfl, h1, h2, h3⟩)
 clear hz hz' h2 a1 a2 ht hl hr hb h11 h33
 obtain ⟨xk, xv⟩ := x
 obtain ⟨yk, yv⟩ := y
 simp only at *
 generalize (l.ht : Int) = A at *
 generalize ((BT.node (.node ma z mb) (yk, yv) rr).ht : Int) = C at *
 generalize (rr.ht : Int) = A1 at *
 generalize ((BT.node ma z mb).ht : Int) = A3 at *
 go_enter Tryz.func228, Tryz.ntmps228
 go_wp2_with fail
 have bk : Blk (w.alloc (.cells #[.string xk, .string xv] 36)) w.heap.size 36 #[.string xk, .string xv] := Blk.new _ _ _
 have s1 : Since w (w.alloc (.cells #[.string xk, .string xv] 36)) := since_of ((Below.refl _ _).alloc (Nat.le_refl _) _)
 generalize w.alloc (.cells #[.string xk, .string xv] 36) = w1 at *
 have k0 : w1.cell? ⟨w.heap.size, 0, none⟩ = some (.string xk) := bk.cell 0
 have k1 : w1.cell? ⟨w.heap.size, 1, none⟩ = some (.string xv) := bk.cell 1
 clear bk
 refine (H1.out _ s1).mono ?_
 rintro e w' ⟨rfl, rfl⟩
 go_wp2_with fail
 refine (H2.out _ s1).mono ?_
 rintro e w' ⟨rfl, rfl⟩
 go_wp2_with fail
 obtain ⟨c0, c1, c2, c3, _⟩ := HB.out
 have d0 := s1.cell c0
 have d1 := s1.cell c1
 have d2 := s1.cell c2
 have d3 := s1.cell c3
 clear c0 c1 c2 c3
 go_region_held3 (fun w' => w'.cell? ⟨b, 0, none⟩ = some (.pointer (some ⟨b3, 0, none⟩)) ∧ w'.cell? ⟨b, 3, none⟩ = some (.pointer p3))
  (go_keep)
  (first
    | (go_at_call 244; refine (HA.out _ (by exact s1)).mono ?_; clear HA; rintro en wJ ⟨rfl, rfl⟩)
    | (go_at_call 244; refine (HC.out _ (by exact s1)).mono ?_; clear HC; rintro en wJ ⟨rfl, rfl⟩))
 go_wp2_with fail
 go_region_held3 (fun w' => w'.cell? ⟨b, 0, none⟩ = some (.pointer (some ⟨b3, 0, none⟩)) ∧ w'.cell? ⟨b, 1, none⟩ = some (.string yk) ∧ w'.cell? ⟨b, 2, none⟩ = some (.string yv) ∧ w'.cell? ⟨b, 3, none⟩ = some (.pointer p3))
  (first | go_keep | exact ⟨qJ _ _ d0, qJ _ _ d1, qJ _ _ d2, qJ _ _ d3⟩)
  (first
    | (go_at_call 246; refine (H4.out _ (by exact s1)).mono ?_; clear H4; rintro en wJ ⟨c, rfl, tJ, bJ, qJ⟩))
 have q0 := qJ _ _ k0
 have q1 := qJ _ _ k1
 go_wp2_with fail
 refine (H3.out _ (by exact bJ) _ (by exact tJ)).mono ?_
 rintro e w2 ⟨b', rfl, hT, hB, -⟩
 go_wp2
 go_ret
 exact HL.out _ _ _ hT (by simp [BT.list]) hB.below
theorem balance (l r : BT) (x : KV) (pl pr : Option Addr) (w : World) (hl : IsTree w pl l) (hr : IsTree w pr r) (hz : (BT.node l x r).list.length < 4611686018427387904) :
  Calls qP 228 #[.pointer pl, .agg #[.string x.1, .string x.2], .pointer pr] w (Makes (BT.node l x r).list w) := by
 by_cases h2 : (l.ht : Int) - r.ht = 2
 ·cases l with
  | leaf => exact absurd h2 (by simp only [BT.ht]; omega)
  | node ll y lr =>
   have hl' := hl
   obtain ⟨b, _, _, rfl, _⟩ := hl'
   by_cases ht : ll.ht < lr.ht
   ·exact balanceL2 ll lr r y x b pr w hl hr hz h2 ht
   ·exact balanceL1 ll lr r y x b pr w hl hr hz h2 ht
 ·by_cases h3 : (l.ht : Int) - r.ht = -2
  ·cases r with
   | leaf => exact absurd h3 (by simp only [BT.ht]; omega)
   | node rl y rr =>
    have hr' := hr
    obtain ⟨b, _, _, rfl, _⟩ := hr'
    by_cases ht : rr.ht < rl.ht
    ·exact balanceR2 l rl rr x y b pl w hl hr hz h3 ht
    ·exact balanceR1 l rl rr x y b pl w hl hr hz h3 ht
  ·exact balanceJoin l r x pl pr w hl hr hz h2 h3
def MakesQ (L : List KV) (w0 W : World) (e : Ending) (w' : World) : Prop := ∃ p t, e = .returned (.pointer p) ∧ IsTree w' p t ∧ t.list = L ∧ Since w0 w' ∧ ∀ a v, W.cell? a = some v → w'.cell? a = some v
theorem makesQ {f : FuncId} {args : Array Value} {L : List KV} {w0 W : World} (hs : Since w0 W) (h : Calls qP f args W (Makes L W)) : Calls qP f args W (MakesQ L w0 W) :=
 h.mono fun _ _ ⟨p, t, he, ht, hl, hb⟩ => ⟨p, t, he, ht, hl, since_of (step_below hs.below hb), fun _ _ hc => (since_of hb).cell hc⟩
theorem compareAs {a b : ByteArray} {n : Int} (h : kc a b = n) (w : World) : Calls qP 166 #[.string a, .string b] w fun e w' => e = .returned (.int .i64 n) ∧ w' = w := h ▸ compare a b w
theorem withNil (x : KV) (w : World) : Calls qP 204 #[.pointer none, .agg #[.string x.1, .string x.2]] w (Makes [x] w) := by
 have H := qH (fun W (h : Since w W) => joinS w .leaf .leaf x none none W h rfl rfl (by simp [BT.list]))
 obtain ⟨xk, xv⟩ := x
 simp only at *
 go_enter Tryz.func204, Tryz.ntmps204
 go_wp2_with fail
 have bk : Blk (w.alloc (.cells #[.string xk, .string xv] 36)) w.heap.size 36 #[.string xk, .string xv] := Blk.new _ _ _
 have s1 : Since w (w.alloc (.cells #[.string xk, .string xv] 36)) := since_of ((Below.refl _ _).alloc (Nat.le_refl _) _)
 generalize w.alloc (.cells #[.string xk, .string xv] 36) = w1 at *
 have k0 : w1.cell? ⟨w.heap.size, 0, none⟩ = some (.string xk) := bk.cell 0
 have k1 : w1.cell? ⟨w.heap.size, 1, none⟩ = some (.string xv) := bk.cell 1
 clear bk
 refine (H.out _ (by exact s1)).mono ?_
 rintro e w2 ⟨b', rfl, hT, hB⟩
 go_wp2
 go_ret
 exact ⟨_, _, rfl, hT, rfl, hB.below⟩
theorem withLeft (l r : BT) (x y : KV) (b : Nat) (w : World) (hT : IsTree w (some ⟨b, 0, none⟩) (.node l y r)) (hu : Up (BT.node l y r).list) (hz : (BT.node l y r).list.length + 1 < 4611686018427387904) (hk : kc x.1 y.1 = -1)
  (ih : ∀ p w, IsTree w p l → Up l.list → l.list.length + 1 < 4611686018427387904 → Calls qP 204 #[.pointer p, .agg #[.string x.1, .string x.2]] w (Makes (lset l.list x.1 x.2) w)) :
  Calls qP 204 #[.pointer (some ⟨b, 0, none⟩), .agg #[.string x.1, .string x.2]] w (Makes (lset (BT.node l y r).list x.1 x.2) w) := by
 obtain ⟨b0, pl, pr, e0, hb, hl, hr⟩ := hT
 cases e0
 have HN := qH (node_cells hb)
 have hu' := up_mid hu
 simp only [BT.list, List.length_append, List.length_cons] at hz
 have H1 := qH (fun W (h : Since w W) => makesQ h (ih pl W (hl.below h.below) hu'.1 (by omega)))
 have H2 := qH (fun W (h : Since w W) p' t' (h1 : IsTree W p' t') (h2 : t'.list = lset l.list x.1 x.2) => makesQ h (balance t' r y p' pr W h1 (hr.below h.below) (by
  have := lset_len (k := x.1) (v := x.2) l.list
  simp only [BT.list, List.length_append, List.length_cons, h2]; omega)))
 have HL := qH (show ∀ t' : BT, t'.list = lset l.list x.1 x.2 → (BT.node t' y r).list = lset (BT.node l y r).list x.1 x.2 from fun t' h => by simp only [BT.list, h]; rw [lset_left hk])
 have HC := qH (fun W => compareAs hk W)
 clear hb hu' hu hz ih hl hr hk
 obtain ⟨xk, xv⟩ := x
 obtain ⟨yk, yv⟩ := y
 simp only at *
 go_enter Tryz.func204, Tryz.ntmps204
 go_wp2_with fail
 have bk : Blk (w.alloc (.cells #[.string xk, .string xv] 36)) w.heap.size 36 #[.string xk, .string xv] := Blk.new _ _ _
 have s1 : Since w (w.alloc (.cells #[.string xk, .string xv] 36)) := since_of ((Below.refl _ _).alloc (Nat.le_refl _) _)
 generalize w.alloc (.cells #[.string xk, .string xv] 36) = w1 at *
 have k0 : w1.cell? ⟨w.heap.size, 0, none⟩ = some (.string xk) := bk.cell 0
 have k1 : w1.cell? ⟨w.heap.size, 1, none⟩ = some (.string xv) := bk.cell 1
 clear bk
 obtain ⟨c0, c1, c2, c3, _⟩ := HN.out
 have d0 := s1.cell c0
 have d1 := s1.cell c1
 have d2 := s1.cell c2
 have d3 := s1.cell c3
 clear c0 c1 c2 c3
 go_region_held3 (fun w' => w'.cell? ⟨w.heap.size, 0, none⟩ = some (.string xk) ∧ w'.cell? ⟨w.heap.size, 1, none⟩ = some (.string xv) ∧ w'.cell? ⟨b, 0, none⟩ = some (.pointer pl) ∧ w'.cell? ⟨b, 1, none⟩ = some (.string yk) ∧ w'.cell? ⟨b, 2, none⟩ = some (.string yv) ∧ w'.cell? ⟨b, 3, none⟩ = some (.pointer pr))
  (go_keep)
  (first
    | (go_at_call 166; refine (HC.out _).mono ?_; rintro en wJ ⟨rfl, rfl⟩))
 go_wp2_with fail
 go_region_held3 (fun w' => w'.cell? ⟨w.heap.size, 0, none⟩ = some (.string xk) ∧ w'.cell? ⟨w.heap.size, 1, none⟩ = some (.string xv) ∧ w'.cell? ⟨b, 0, none⟩ = some (.pointer pl) ∧ w'.cell? ⟨b, 1, none⟩ = some (.string yk) ∧ w'.cell? ⟨b, 2, none⟩ = some (.string yv) ∧ w'.cell? ⟨b, 3, none⟩ = some (.pointer pr))
  (first | go_keep | exact ⟨qJ _ _ k0, qJ _ _ k1, qJ _ _ d0, qJ _ _ d1, qJ _ _ d2, qJ _ _ d3⟩ | exact ⟨qK _ _ (qJ _ _ k0), qK _ _ (qJ _ _ k1), qK _ _ (qJ _ _ d0), qK _ _ (qJ _ _ d1), qK _ _ (qJ _ _ d2), qK _ _ (qJ _ _ d3)⟩)
  (first
    | (go_at_call 204; refine (H1.out _ (by exact s1)).mono ?_; clear H1; rintro en wJ ⟨p', t', rfl, tJ, lJ, bJ, qJ⟩)
    | (go_at_call 228; refine (H2.out _ (by exact bJ) _ _ (by exact tJ) (by exact lJ)).mono ?_; clear H2; rintro en wK ⟨p'', t'', rfl, tK, lK, bK, qK⟩))
 go_wp2
 go_ret
 exact ⟨_, _, rfl, tK, lK.trans (HL.out _ lJ), bK.below⟩
theorem withRight (l r : BT) (x y : KV) (b : Nat) (w : World) (hT : IsTree w (some ⟨b, 0, none⟩) (.node l y r)) (hu : Up (BT.node l y r).list) (hz : (BT.node l y r).list.length + 1 < 4611686018427387904) (hk : kc x.1 y.1 = 1)
  (ih : ∀ p w, IsTree w p r → Up r.list → r.list.length + 1 < 4611686018427387904 → Calls qP 204 #[.pointer p, .agg #[.string x.1, .string x.2]] w (Makes (lset r.list x.1 x.2) w)) :
  Calls qP 204 #[.pointer (some ⟨b, 0, none⟩), .agg #[.string x.1, .string x.2]] w (Makes (lset (BT.node l y r).list x.1 x.2) w) := by
 obtain ⟨b0, pl, pr, e0, hb, hl, hr⟩ := hT
 cases e0
 have HN := qH (node_cells hb)
 have hu' := up_mid hu
 simp only [BT.list, List.length_append, List.length_cons] at hz
 have H1 := qH (fun W (h : Since w W) => makesQ h (ih pr W (hr.below h.below) hu'.2.1 (by omega)))
 have H2 := qH (fun W (h : Since w W) p' t' (h1 : IsTree W p' t') (h2 : t'.list = lset r.list x.1 x.2) => makesQ h (balance l t' y pl p' W (hl.below h.below) h1 (by
  have := lset_len (k := x.1) (v := x.2) r.list
  simp only [BT.list, List.length_append, List.length_cons, h2]; omega)))
 have HL := qH (show ∀ t' : BT, t'.list = lset r.list x.1 x.2 → (BT.node l y t').list = lset (BT.node l y r).list x.1 x.2 from fun t' h => by simp only [BT.list, h]; rw [lset_right hu hk])
 have HC := qH (fun W => compareAs hk W)
 clear hb hu' hu hz ih hl hr hk
 obtain ⟨xk, xv⟩ := x
 obtain ⟨yk, yv⟩ := y
 simp only at *
 go_enter Tryz.func204, Tryz.ntmps204
 go_wp2_with fail
 have bk : Blk (w.alloc (.cells #[.string xk, .string xv] 36)) w.heap.size 36 #[.string xk, .string xv] := Blk.new _ _ _
 have s1 : Since w (w.alloc (.cells #[.string xk, .string xv] 36)) := since_of ((Below.refl _ _).alloc (Nat.le_refl _) _)
 generalize w.alloc (.cells #[.string xk, .string xv] 36) = w1 at *
 have k0 : w1.cell? ⟨w.heap.size, 0, none⟩ = some (.string xk) := bk.cell 0
 have k1 : w1.cell? ⟨w.heap.size, 1, none⟩ = some (.string xv) := bk.cell 1
 clear bk
 obtain ⟨c0, c1, c2, c3, _⟩ := HN.out
 have d0 := s1.cell c0
 have d1 := s1.cell c1
 have d2 := s1.cell c2
 have d3 := s1.cell c3
 clear c0 c1 c2 c3
 go_region_held3 (fun w' => w'.cell? ⟨w.heap.size, 0, none⟩ = some (.string xk) ∧ w'.cell? ⟨w.heap.size, 1, none⟩ = some (.string xv) ∧ w'.cell? ⟨b, 0, none⟩ = some (.pointer pl) ∧ w'.cell? ⟨b, 1, none⟩ = some (.string yk) ∧ w'.cell? ⟨b, 2, none⟩ = some (.string yv) ∧ w'.cell? ⟨b, 3, none⟩ = some (.pointer pr))
  (go_keep)
  (first
    | (go_at_call 166; refine (HC.out _).mono ?_; rintro en wJ ⟨rfl, rfl⟩))
 go_wp2_with fail
 go_region_held3 (fun w' => w'.cell? ⟨w.heap.size, 0, none⟩ = some (.string xk) ∧ w'.cell? ⟨w.heap.size, 1, none⟩ = some (.string xv) ∧ w'.cell? ⟨b, 0, none⟩ = some (.pointer pl) ∧ w'.cell? ⟨b, 1, none⟩ = some (.string yk) ∧ w'.cell? ⟨b, 2, none⟩ = some (.string yv) ∧ w'.cell? ⟨b, 3, none⟩ = some (.pointer pr))
  (first | go_keep | exact ⟨qJ _ _ k0, qJ _ _ k1, qJ _ _ d0, qJ _ _ d1, qJ _ _ d2, qJ _ _ d3⟩ | exact ⟨qK _ _ (qJ _ _ k0), qK _ _ (qJ _ _ k1), qK _ _ (qJ _ _ d0), qK _ _ (qJ _ _ d1), qK _ _ (qJ _ _ d2), qK _ _ (qJ _ _ d3)⟩)
  (first
    | (go_at_call 204; refine (H1.out _ (by exact s1)).mono ?_; clear H1; rintro en wJ ⟨p', t', rfl, tJ, lJ, bJ, qJ⟩)
    | (go_at_call 228; refine (H2.out _ (by exact bJ) _ _ (by exact tJ) (by exact lJ)).mono ?_; clear H2; rintro en wK ⟨p'', t'', rfl, tK, lK, bK, qK⟩))
 go_wp2
 go_ret
 exact ⟨_, _, rfl, tK, lK.trans (HL.out _ lJ), bK.below⟩
theorem withHere (l r : BT) (x y : KV) (b : Nat) (w : World) (hT : IsTree w (some ⟨b, 0, none⟩) (.node l y r)) (hu : Up (BT.node l y r).list) (hz : (BT.node l y r).list.length + 1 < 4611686018427387904) (hk : kc x.1 y.1 = 0) :
  Calls qP 204 #[.pointer (some ⟨b, 0, none⟩), .agg #[.string x.1, .string x.2]] w (Makes (lset (BT.node l y r).list x.1 x.2) w) := by
 obtain ⟨b0, pl, pr, e0, hb, hl, hr⟩ := hT
 cases e0
 have HN := qH (node_cells hb)
 have H1 := qH (fun W (h : Since w W) => nodeS h (joinT l r x pl pr W (hl.below h.below) (hr.below h.below) (by simp only [BT.list, List.length_append, List.length_cons] at hz ⊢; omega)))
 have HL := qH (show (BT.node l x r).list = lset (BT.node l y r).list x.1 x.2 by simp only [BT.list]; rw [lset_here hu hk])
 have HC := qH (fun W => compareAs hk W)
 clear hb hu hz hl hr hk
 obtain ⟨xk, xv⟩ := x
 obtain ⟨yk, yv⟩ := y
 simp only at *
 go_enter Tryz.func204, Tryz.ntmps204
 go_wp2_with fail
 have bk : Blk (w.alloc (.cells #[.string xk, .string xv] 36)) w.heap.size 36 #[.string xk, .string xv] := Blk.new _ _ _
 have s1 : Since w (w.alloc (.cells #[.string xk, .string xv] 36)) := since_of ((Below.refl _ _).alloc (Nat.le_refl _) _)
 generalize w.alloc (.cells #[.string xk, .string xv] 36) = w1 at *
 have k0 : w1.cell? ⟨w.heap.size, 0, none⟩ = some (.string xk) := bk.cell 0
 have k1 : w1.cell? ⟨w.heap.size, 1, none⟩ = some (.string xv) := bk.cell 1
 clear bk
 obtain ⟨c0, c1, c2, c3, _⟩ := HN.out
 have d0 := s1.cell c0
 have d1 := s1.cell c1
 have d2 := s1.cell c2
 have d3 := s1.cell c3
 clear c0 c1 c2 c3
 go_region_held3 (fun w' => w'.cell? ⟨w.heap.size, 0, none⟩ = some (.string xk) ∧ w'.cell? ⟨w.heap.size, 1, none⟩ = some (.string xv) ∧ w'.cell? ⟨b, 0, none⟩ = some (.pointer pl) ∧ w'.cell? ⟨b, 1, none⟩ = some (.string yk) ∧ w'.cell? ⟨b, 2, none⟩ = some (.string yv) ∧ w'.cell? ⟨b, 3, none⟩ = some (.pointer pr))
  (go_keep)
  (first
    | (go_at_call 166; refine (HC.out _).mono ?_; rintro en wJ ⟨rfl, rfl⟩))
 go_wp2_with fail
 go_region_held3 (fun w' => w'.cell? ⟨w.heap.size, 0, none⟩ = some (.string xk) ∧ w'.cell? ⟨w.heap.size, 1, none⟩ = some (.string xv) ∧ w'.cell? ⟨b, 0, none⟩ = some (.pointer pl) ∧ w'.cell? ⟨b, 1, none⟩ = some (.string yk) ∧ w'.cell? ⟨b, 2, none⟩ = some (.string yv) ∧ w'.cell? ⟨b, 3, none⟩ = some (.pointer pr))
  (first | go_keep | exact ⟨qJ _ _ k0, qJ _ _ k1, qJ _ _ d0, qJ _ _ d1, qJ _ _ d2, qJ _ _ d3⟩)
  (first
    | (go_at_call 227; refine (H1.out _ (by exact s1)).mono ?_; clear H1; rintro en wJ ⟨b', rfl, tJ, bJ, qJ⟩))
 go_wp2
 go_ret
 exact ⟨_, _, rfl, tJ, HL.out, bJ.below⟩
theorem withC (x : KV) (t : BT) : ∀ p w, IsTree w p t → Up t.list → t.list.length + 1 < 4611686018427387904 → Calls qP 204 #[.pointer p, .agg #[.string x.1, .string x.2]] w (Makes (lset t.list x.1 x.2) w) := by
 induction t with
 | leaf =>
  intro p w hT _ _
  obtain rfl : p = none := hT
  exact withNil x w
 | node l y r ihl ihr =>
  intro p w hT hu hz
  have hT' := hT
  obtain ⟨b, _, _, rfl, _⟩ := hT'
  rcases kc_cases x.1 y.1 with h | h | h
  ·exact withLeft l r x y b w hT hu hz h ihl
  ·exact withHere l r x y b w hT hu hz h
  ·exact withRight l r x y b w hT hu hz h ihr

theorem getC (k : ByteArray) (t : BT) (p : Option Addr) (w : World) (hT : IsTree w p t) (hu : Up t.list) :
  Calls qP 133 #[.pointer p, .string k] w fun e w' => e = .returned (retGet (lget t.list k)) ∧ w' = w := by
 have HC := qH (fun x n (h : kc k x = n) W => compareAs h W)
 obtain ⟨n0, hn0⟩ : ∃ n0, n0 = t.list.length := ⟨_, rfl⟩
 obtain ⟨r, hr⟩ : ∃ r, r = lget t.list k := ⟨_, rfl⟩
 rw [← hr]
 have H0 := qH (And.intro hT (And.intro hu (And.intro hn0 hr)))
 clear hT hu hn0 hr
 go_enter Tryz.func133, Tryz.ntmps133
 go_wp2
 go_loopg [0] n0 (fun g v wr => wr = w ∧ ∃ q s, v = .pointer q ∧ Hid (IsTree w q s ∧ Up s.list ∧ g = s.list.length ∧ r = lget s.list k))
 case atStart => exact ⟨rfl, _, _, rfl, H0⟩
 case round =>
  obtain ⟨rfl, q, s, rfl, HS⟩ := hrel
  cases s with
  | leaf =>
   obtain rfl : q = none := HS.out.1
   go_wp2
   go_returns
   obtain rfl : r = none := HS.out.2.2.2
   exact ⟨rfl, rfl⟩
  | node l y rr =>
   obtain ⟨hT, hu, hg, hr⟩ := HS.out
   clear HS
   obtain ⟨b, pl, pr, rfl, hb, hl, hr2⟩ := hT
   have hm := up_mid hu
   obtain ⟨c0, c1, c2, c3, _⟩ := node_cells hb
   obtain ⟨yk, yv⟩ := y
   simp only at *
   simp only [BT.list, List.length_append, List.length_cons] at hg
   rcases kc_cases k yk with h | h | h
   ·have HQ := HC.out yk _ h
    have HS2 := qH (show IsTree wr pl l ∧ Up l.list ∧ l.list.length = l.list.length ∧ r = lget l.list k from ⟨hl, hm.1, rfl, by rw [hr, BT.list, lget_left hu h]⟩)
    have HG := qH (show l.list.length < gk by omega)
    clear hb hl hr2 hm hu h hr hg
    go_wp2_with fail
    refine (HQ _).mono ?_
    rintro e w' ⟨rfl, rfl⟩
    go_wp2
    go_roundg l.list.length
    case measure => exact HG.out
    case rel => exact ⟨rfl, _, _, rfl, qH ⟨HS2.out.1, HS2.out.2.1, rfl, HS2.out.2.2.2⟩⟩
   ·have HQ := HC.out yk _ h
    have HS2 := qH (show r = some yv by rw [hr, BT.list, lget_here hu h])
    clear hb hl hr2 hm hu h hr hg
    go_wp2_with fail
    refine (HQ _).mono ?_
    rintro e w' ⟨rfl, rfl⟩
    go_wp2
    go_returns
    rw [HS2.out]
    exact ⟨rfl, rfl⟩
   ·have HQ := HC.out yk _ h
    have HS2 := qH (show IsTree wr pr rr ∧ Up rr.list ∧ rr.list.length = rr.list.length ∧ r = lget rr.list k from ⟨hr2, hm.2.1, rfl, by rw [hr, BT.list, lget_right hu h]⟩)
    have HG := qH (show rr.list.length < gk by omega)
    clear hb hl hr2 hm hu h hr hg
    go_wp2_with fail
    refine (HQ _).mono ?_
    rintro e w' ⟨rfl, rfl⟩
    go_wp2
    go_roundg rr.list.length
    case measure => exact HG.out
    case rel => exact ⟨rfl, _, _, rfl, qH ⟨HS2.out.1, HS2.out.2.1, rfl, HS2.out.2.2.2⟩⟩
structure KeepS (S : Nat → Prop) (W W' : World) : Prop where
 os : W'.os = W.os
 tape : W'.tape = W.tape
 output : W'.output = W.output
 size : W.heap.size ≤ W'.heap.size
 block : ∀ i, i < W.heap.size → ¬ S i → W'.heap[i]? = W.heap[i]?
def Grows (S S' : Nat → Prop) (W : World) : Prop := ∀ i, S' i → S i ∨ W.heap.size ≤ i
section
variable {S S' S'' : Nat → Prop} {A B C : World}
theorem KeepS.refl (S : Nat → Prop) (W : World) : KeepS S W W := ⟨rfl, rfl, rfl, Nat.le_refl _, fun _ _ _ => rfl⟩
theorem Grows.refl (S : Nat → Prop) (W : World) : Grows S S W := fun _ h => .inl h
theorem Grows.trans (h : Grows S S' A) (k : Grows S' S'' B) (hs : A.heap.size ≤ B.heap.size) : Grows S S'' A := fun i hi => (k i hi).elim (h i) (fun h2 => .inr (by omega))
theorem Grows.not (h : Grows S S' A) {i : Nat} (hi : i < A.heap.size) (hn : ¬ S i) : ¬ S' i := fun h2 => (h i h2).elim hn (fun h3 => by omega)
theorem KeepS.trans (h : KeepS S A B) (hg : Grows S S' A) (k : KeepS S' B C) : KeepS S A C :=
 ⟨k.os.trans h.os, k.tape.trans h.tape, k.output.trans h.output, Nat.le_trans h.size k.size, fun i hi hn => (k.block i (Nat.lt_of_lt_of_le hi h.size) (hg.not hi hn)).trans (h.block i hi hn)⟩
theorem KeepS.step (h : KeepS S A B) (k : KeepS S B C) : KeepS S A C := h.trans (Grows.refl S A) k
theorem KeepS.of_below (S : Nat → Prop) (h : Below A.heap.size A B) : KeepS S A B := ⟨h.os, h.tape, h.output, h.size, fun i hi _ => h.block i hi⟩
theorem KeepS.of_grown {row : Option Nat} (h : A.grownBy B row) (hr : ∀ r, row = some r → S r ∨ A.heap.size ≤ r) : KeepS S A B :=
 ⟨h.os, h.tape, h.output, h.size, fun i hi hn => h.block i hi (fun e => (hr i e.symm).elim hn (fun h => by omega))⟩
theorem KeepS.cell (h : KeepS S A B) {p : Addr} {v : Value} (hc : A.cell? p = some v) (hn : ¬ S p.block) : B.cell? p = some v := (World.cell?_of_block (h.block _ (World.block_lt_of_cell? A _ hc) hn)).trans hc
theorem KeepS.blk (h : KeepS S A B) {g : Nat} {t : TypeId} {cs : Array Value} (hb : Blk A g t cs) (hn : ¬ S g) : Blk B g t cs := (h.block _ hb.lt hn).trans hb
theorem KeepS.below {n : Nat} (h : KeepS S A B) (hn : n ≤ A.heap.size) (hS : ∀ i, S i → n ≤ i) : Below n A B := ⟨h.os, h.tape, h.output, h.size, fun i hi => h.block i (by omega) (fun e => by have := hS i e; omega)⟩
theorem KeepS.more (h : KeepS S A B) (hS : ∀ i, i < A.heap.size → S i → S' i) : KeepS S' A B := ⟨h.os, h.tape, h.output, h.size, fun i hi hn => h.block i hi (fun e => hn (hS i hi e))⟩
end
def stopAt (go : List KV → Bool) : List KV → List KV → Option (List KV)
 | _, [] => none
 | pre, y :: ys => if go (pre ++ [y]) then stopAt go (pre ++ [y]) ys else some (pre ++ [y])
theorem stopAt_append (go : List KV → Bool) : ∀ (a pre b : List KV), stopAt go pre (a ++ b) = (stopAt go pre a).or (stopAt go (pre ++ a) b)
 | [], pre, b => by simp [stopAt]
 | y :: a, pre, b => by
  simp only [List.cons_append, stopAt]
  split
  ·rw [stopAt_append go a]; simp
  ·rfl
abbrev Inv := List KV → (Nat → Prop) → World → Prop
def AbidesS (B : Nat) (J : Inv) : Prop := ∀ pre S W W' row, J pre S W → W.grownBy W' row → (∀ r, row = some r → B ≤ r ∧ ¬ S r) → J pre S W'
def Bounded (J : Inv) : Prop := ∀ pre S W, J pre S W → ∀ i, S i → i < W.heap.size
theorem AbidesS.mono {B B' : Nat} {J : Inv} (h : AbidesS B J) (hB : B ≤ B') : AbidesS B' J := fun pre S W W' row hs hg hr => h pre S W W' row hs hg (fun r e => ⟨by have := (hr r e).1; omega, (hr r e).2⟩)
theorem AbidesS.alloc {B : Nat} {J : Inv} (h : AbidesS B J) {pre : List KV} {S : Nat → Prop} {W : World} (hs : J pre S W) (ob : Obj) : J pre S (W.alloc ob) := h pre S W _ none hs (World.grownBy_alloc W ob none) (fun r e => by cases e)
theorem AbidesS.drew {B : Nat} {J : Inv} (h : AbidesS B J) {pre : List KV} {S : Nat → Prop} {W : World} (hs : J pre S W) : J pre S W.drew := h pre S W _ none hs ⟨rfl, rfl, rfl, Nat.le_refl _, fun _ _ _ => rfl⟩ (fun r e => by cases e)
theorem AbidesS.below {B : Nat} {J : Inv} (h : AbidesS B J) {pre : List KV} {S : Nat → Prop} {W W' : World} (hs : J pre S W) (hb : Below W.heap.size W W') : J pre S W' := h pre S W W' none hs ⟨hb.os, hb.tape, hb.output, hb.size, fun k hk _ => hb.block k hk⟩ (fun r e => by cases e)
def After (go : List KV → Bool) (J Jx : Inv) (pre ys : List KV) (S : Nat → Prop) (W : World) : Prop := match stopAt go pre ys with
 | none => J (pre ++ ys) S W
 | some q => Jx q S W
section
variable {go : List KV → Bool} {J Jx : Inv} {pre ys q : List KV} {S : Nat → Prop} {W : World}
theorem After.all (h : After go J Jx pre ys S W) (hs : stopAt go pre ys = none) : J (pre ++ ys) S W := by unfold After at h; rw [hs] at h; exact h
theorem After.stop (h : After go J Jx pre ys S W) (hs : stopAt go pre ys = some q) : Jx q S W := by unfold After at h; rw [hs] at h; exact h
theorem after_all (hs : stopAt go pre ys = none) (h : J (pre ++ ys) S W) : After go J Jx pre ys S W := by unfold After; rw [hs]; exact h
theorem after_stop (hs : stopAt go pre ys = some q) (h : Jx q S W) : After go J Jx pre ys S W := by unfold After; rw [hs]; exact h
end
def Round (go : List KV → Bool) (J Jx : Inv) (q : List KV) (S : Nat → Prop) (W1 : World) (e : Ending) (W' : World) : Prop :=
 e = .returned (.bool (go q)) ∧ KeepS S W1 W' ∧ ∃ S', Grows S S' W1 ∧ (go q = true → J q S' W') ∧ (go q = false → Jx q S' W')
def SeqOf (P : Program) (g : Nat) (lb : Array Value) (xs : List KV) (o : Nat → Prop) (w : World) : Prop :=
 ∀ (n l : Nat) (go : List KV → Bool) (J Jx : Inv) (S : Nat → Prop) (W : World), Below w.heap.size w W → AbidesS W.heap.size J → AbidesS W.heap.size Jx → Bounded J →
  (∀ k pre x S W1, J pre S W1 → (pre ++ [x]) <+: xs → YieldAt Fence.wide k P l #[.string x.1, .string x.2] W1 (Round go J Jx (pre ++ [x]) S W1)) →
  J [] S W → (∀ i, i < w.heap.size → S i → o i) →
  CallsIn Fence.wide n P g (#[.func (.yield l) #[] #[]] ++ lb) W fun e W' => (∃ v, e = .returned v) ∧ KeepS S W W' ∧ ∃ S', Grows S S' W ∧ After go J Jx [] xs S' W'
theorem SeqOf.later {P : Program} {g : Nat} {lb : Array Value} {xs : List KV} {o : Nat → Prop} {w w' : World} (h : SeqOf P g lb xs o w) (hb : Below w.heap.size w w') : SeqOf P g lb xs o w' :=
 fun n l go J Jx S W hW h1 h2 h3 h4 h5 h6 => h n l go J Jx S W (hb.trans (hW.mono hb.size)) h1 h2 h3 h4 h5 (fun i hi => h6 i (Nat.lt_of_lt_of_le hi hb.size))
def bodyS (go : List KV → Bool) (I : Inv) (Ix : Code → Inv) (q : List KV) (S : Nat → Prop) (W : World) : Exit → Act → World → Prop
 | .normal, _, W' => go q = true ∧ KeepS S W W' ∧ ∃ S', Grows S S' W ∧ I q S' W'
 | .ret, _, W' => go q = false ∧ KeepS S W W' ∧ ∃ S', Grows S S' W ∧ Ix .ret q S' W'
 | .exit id, _, W' => go q = false ∧ KeepS S W W' ∧ ∃ S', Grows S S' W ∧ Ix (.exit id) q S' W'
 | .goto t, _, W' => go q = false ∧ KeepS S W W' ∧ ∃ S', Grows S S' W ∧ Ix (.goto t) q S' W'
 | .panic _, _, _ => False
 | .outgrown, _, _ => False
structure Books (R : LoopState → Option Code → Loop) (D : Nat) (st : LoopState) (pe : Option Code) (W : World) : Prop where
 loop : W.heap[D + 1]? = some (.loop (R st pe))
 off : W.heap[D]? = some (.deferred (some []))
section
variable {R : LoopState → Option Code → Loop} {D : Nat} {st : LoopState} {pe : Option Code} {W W' : World}
theorem Books.lt (h : Books R D st pe W) : D + 1 < W.heap.size := (Array.getElem?_eq_some_iff.1 h.loop).1
theorem Books.keep {S : Nat → Prop} (h : Books R D st pe W) (k : KeepS S W W') (h0 : ¬ S D) (h1 : ¬ S (D + 1)) : Books R D st pe W' := ⟨(k.block _ h.lt h1).trans h.loop, (k.block _ (by have := h.lt; omega) h0).trans h.off⟩
theorem Books.turn (h : Books R D st pe W) (st' : LoopState) (pe' : Option Code) : Books R D st' pe' (W.putObj (D + 1) (.loop (R st' pe'))) :=
 ⟨World.putObj_heap_same h.lt, (World.putObj_heap_other (by omega)).trans h.off⟩
theorem Books.grown {row : Option Nat} (h : Books R D st pe W) (hg : W.grownBy W' row) (hr : ∀ r, row = some r → D + 1 < r) : Books R D st pe W' := by
 have h1 := h.lt
 exact ⟨(hg.block _ h1 (fun e => by have := hr _ e.symm; omega)).trans h.loop, (hg.block _ (by omega) (fun e => by have := hr _ e.symm; omega)).trans h.off⟩
end
def plus (S : Nat → Prop) (D : Nat) : Nat → Prop := fun i => S i ∨ i = D ∨ i = D + 1
def seen (R : LoopState → Option Code → Loop) (D : Nat) (I : Inv) (st : LoopState) (pe : Option Code) : Inv := fun pre S W => ∃ S₁, S = plus S₁ D ∧ ¬ S₁ D ∧ ¬ S₁ (D + 1) ∧ I pre S₁ W ∧ Books R D st pe W
theorem seen_abides {R : LoopState → Option Code → Loop} {D B : Nat} {I : Inv} (hI : AbidesS D I) (hB : D + 1 < B) (st : LoopState) (pe : Option Code) : AbidesS B (seen R D I st pe) := fun pre S W W' row hs hg hr => by
 obtain ⟨S₁, rfl, n0, n1, hi, hk⟩ := hs
 exact ⟨S₁, rfl, n0, n1, hI _ _ _ _ _ hi hg (fun r e => ⟨by have := (hr r e).1; omega, fun h => (hr r e).2 (.inl h)⟩), hk.grown hg (fun r e => by have := (hr r e).1; omega)⟩
section
variable {P : Program} {n : Nat}
theorem range_seq {g : Operand} {ps : Array Tmp} {assign body : Code} {Q : Exit → Act → World → Prop} {a : Act} {w w0 : World} {gf : Nat} {lb : Array Value} {xs : List KV} {o : Nat → Prop}
  (hg : a.eval g = .func (.func gf) #[] lb) (eg : ∀ args w, (callFunc gf args).run P w = .ok (.enter gf args) w)
  (hseq : SeqOf P gf lb xs o w0) (hb0 : Below w0.heap.size w0 w) (hps : ps.size = 2)
  (go : List KV → Bool) (I : Inv) (Ix : Code → Inv) (hI : AbidesS w.heap.size I) (hIx : ∀ c, AbidesS w.heap.size (Ix c)) (hIb : Bounded I) (S : Nat → Prop) (h0 : I [] S w) (hS : ∀ i, i < w0.heap.size → S i → o i) (a₁ : KV → Act)
  (hassign : ∀ (l k : Nat) (x : KV) (W : World) (K : Act → World → Prop), K (a₁ x) W →
    assign.wpIn (Fence.wide.inRound l) k P (Exit.then K (fun _ _ _ => False)) { tmps := (ps.zip #[.string x.1, .string x.2]).foldl (fun t (p, v) => t.setIfInBounds p v) a.tmps, defers := [] } W)
  (hbody : ∀ (l k : Nat) (pre : List KV) (x : KV) (S : Nat → Prop) (W : World), I pre S W → (pre ++ [x]) <+: xs → body.wpIn (Fence.wide.inRound l) k P (bodyS go I Ix (pre ++ [x]) S W) (a₁ x) W)
  (hdone : ∀ (D : Nat) (S' : Nat → Prop) (W : World), w.heap.size ≤ D → stopAt go [] xs = none → KeepS S w W → Grows S S' w → ¬ S' D → I xs S' W → W.heap[D]? = some (.deferred (some [])) → Q .normal { a with defers := { target := .collected D, args := #[] } :: a.defers } W)
  (hstop : ∀ (D : Nat) (c : Code) (q : List KV) (S' : Nat → Prop) (W : World), w.heap.size ≤ D → stopAt go [] xs = some q → KeepS S w W → Grows S S' w → ¬ S' D → Ix c q S' W → W.heap[D]? = some (.deferred (some [])) → c.wpIn Fence.wide n P Q { a with defers := { target := .collected D, args := #[] } :: a.defers } W) :
  (Code.rangeFunc g ps assign body).wpIn Fence.wide n P Q a w := by
 refine wpIn_rangeFunc fun fn hfn => ?_
 obtain ⟨R, hR⟩ : ∃ R : LoopState → Option Code → Loop, R = fun st pe => { state := st, pending := pe, fn, tmps := a.tmps, params := ps, assign, body, defers := w.heap.size } := ⟨_, rfl⟩
 obtain ⟨W1, hW1⟩ : ∃ W1, W1 = (w.alloc (.deferred (some []))).alloc (.loop (R .ready none)) := ⟨_, rfl⟩
 have hz : W1.heap.size = w.heap.size + 1 + 1 := by rw [hW1]; simp
 have hbel : Below w.heap.size w W1 := by rw [hW1]; exact ((Below.refl _ w).alloc (Nat.le_refl _) _).alloc (by simp) _
 have books1 : Books R w.heap.size .ready none W1 := by
  rw [hW1]
  refine ⟨?_, (Below.heap_alloc _ _ _ (by simp)).trans (World.alloc_heap_new w _)⟩
  have := World.alloc_heap_new (w.alloc (.deferred (some []))) (.loop (R .ready none))
  rwa [World.size_alloc] at this
 have hI1 : I [] S W1 := hI.below h0 hbel
 have nS : ∀ i, w.heap.size ≤ i → ¬ S i := fun i hi h => by have := hIb _ _ _ h0 i h; omega
 refine ⟨w.heap.size + 1, [{ target := .collected w.heap.size, args := #[] }], W1, { target := .fn (.func gf) lb, args := #[.func (.yield (w.heap.size + 1)) #[] #[]] }, W1, gf,
  #[.func (.yield (w.heap.size + 1)) #[] #[]] ++ lb, W1, ?_, ?_, fun _ _ => trivial, ?_, fun hd => (by cases hd), ?_⟩
 ·rw [hW1, hR]; exact run_enterLoop_outer _ _ _ _ _
 ·simp only [resolve, hg]
  simp [go_sem]
 ·simp [invoke, go_sem, eg]
 refine (hseq (n - 1) (w.heap.size + 1) go (seen R w.heap.size I .ready none) (fun q S W => ∃ c, seen R w.heap.size (Ix c) .done (some c) q S W) (plus S w.heap.size) W1
  (hb0.trans (hbel.mono hb0.size)) (seen_abides hI (by omega) _ _)
  (fun pre S W W' row hs hg hr => by obtain ⟨c, hc⟩ := hs; exact ⟨c, seen_abides (hIx c) (by omega) _ _ pre S W W' row hc hg hr⟩)
  (fun pre S W hs i hi => by
    obtain ⟨S₁, rfl, _, _, h1, hk⟩ := hs
    have := hk.lt
    rcases hi with hi | rfl | rfl
    ·exact hIb _ _ _ h1 i hi
    ·omega
    ·omega)
  ?_ ⟨S, rfl, nS _ (Nat.le_refl _), nS _ (by omega), hI1, books1⟩
  (fun i hi hs => by
    have := hb0.size
    rcases hs with hs | rfl | rfl
    ·exact hS i hi hs
    ·omega
    ·omega)).mono ?_
 ·rintro k pre x _ W ⟨S₁, rfl, n0, n1, hi, hk⟩ hpre
  have hy := run_yield (P := P) (args := #[.string x.1, .string x.2]) hk.loop (by rw [hR]; simp [hps])
  have hbeg := run_beginRound (P := P) hk.loop (by rw [hR])
  rw [show ({ R .ready none with state := .busy } : Loop) = R .busy none by rw [hR]] at hbeg
  have hk2 := hk.turn .busy none
  have hi2 : I pre S₁ (W.putObj (w.heap.size + 1) (.loop (R .busy none))) := hI _ _ _ _ _ hi (grownBy_putObj' W _ _) (fun r e => by cases e; exact ⟨by omega, n1⟩)
  have keepPut : ∀ (U : World) (ob : Obj), KeepS (plus S₁ w.heap.size) U (U.putObj (w.heap.size + 1) ob) := fun U ob => KeepS.of_grown (grownBy_putObj' _ _ _) (fun r e => by cases e; exact .inl (.inr (.inr rfl)))
  have hlt := hk.lt
  rw [hR] at hy
  refine ⟨fn, _, assign, body, hy, roundIn_of_wpIn hfn (hassign _ _ x W _ ⟨_, hbeg, ?_⟩)⟩
  refine wpIn_mono (hbody _ _ pre x S₁ _ hi2 hpre) ?_
  have fin : ∀ (jump : Option Code) (W3 : World) (S₂ : Nat → Prop), KeepS S₁ (W.putObj (w.heap.size + 1) (.loop (R .busy none))) W3 → Grows S₁ S₂ (W.putObj (w.heap.size + 1) (.loop (R .busy none))) →
    (Instr.endRound (w.heap.size + 1) jump).run P W3 = .ok (.bool jump.isNone) (W3.putObj (w.heap.size + 1) (.loop (R (if jump.isNone then .ready else .done) jump))) ∧ Books R w.heap.size .busy none W3 ∧
    KeepS (plus S₁ w.heap.size) W (W3.putObj (w.heap.size + 1) (.loop (R (if jump.isNone then .ready else .done) jump))) ∧ Grows (plus S₁ w.heap.size) (plus S₂ w.heap.size) W ∧ ¬ S₂ w.heap.size ∧ ¬ S₂ (w.heap.size + 1) := fun jump W3 S₂ hk3 hg3 => by
   have hb3 := hk2.keep hk3 n0 n1
   have he := run_endRound (P := P) jump hb3.loop
   rw [show ({ R .busy none with state := if jump.isNone then .ready else .done, pending := jump } : Loop) = R (if jump.isNone then .ready else .done) jump by rw [hR]] at he
   have g2 : Grows S₁ S₂ W := by intro i hi; have := hg3 i hi; simpa using this
   exact ⟨he, hb3, ((keepPut _ _).step (hk3.more (fun _ _ h => .inl h))).step (keepPut _ _), fun i hi => hi.elim (fun h => (g2 i h).elim (fun h => .inl (.inl h)) .inr) (fun h => .inl (.inr h)), g2.not (by omega) n0, g2.not (by omega) n1⟩
  have leave : ∀ (c : Code) (W3 : World), (go (pre ++ [x]) = false ∧ KeepS S₁ (W.putObj (w.heap.size + 1) (.loop (R .busy none))) W3 ∧ ∃ S₂, Grows S₁ S₂ (W.putObj (w.heap.size + 1) (.loop (R .busy none))) ∧ Ix c (pre ++ [x]) S₂ W3) →
    ∃ v w', (Instr.endRound (w.heap.size + 1) (some c)).run P W3 = .ok v w' ∧ Round go (seen R w.heap.size I .ready none) (fun q S W => ∃ c, seen R w.heap.size (Ix c) .done (some c) q S W) (pre ++ [x]) (plus S₁ w.heap.size) W (.returned v) w' := fun c W3 h => by
   obtain ⟨hgo, hk3, S₂, hg3, hi3⟩ := h
   obtain ⟨hr, hb3, hf, hg4, m0, m1⟩ := fin (some c) W3 S₂ hk3 hg3
   exact ⟨_, _, hr, by rw [hgo]; rfl, hf, _, hg4, (fun h => by rw [hgo] at h; cases h), fun _ => ⟨c, S₂, rfl, m0, m1, hIx c _ _ _ _ _ hi3 (grownBy_putObj' W3 _ _) (fun r e => by cases e; exact ⟨by omega, m1⟩), hb3.turn _ _⟩⟩
  rintro e a3 W3 hp
  cases e with
  | normal =>
   obtain ⟨hgo, hk3, S₂, hg3, hi3⟩ := hp
   obtain ⟨hr, hb3, hf, hg4, m0, m1⟩ := fin none W3 S₂ hk3 hg3
   exact ⟨_, _, hr, by rw [hgo]; rfl, hf, _, hg4, (fun _ => ⟨S₂, rfl, m0, m1, hI _ _ _ _ _ hi3 (grownBy_putObj' W3 _ _) (fun r e => by cases e; exact ⟨by omega, m1⟩), hb3.turn _ _⟩), fun h => by rw [hgo] at h; cases h⟩
  | ret => exact leave _ _ hp
  | exit id => exact leave _ _ hp
  | goto t => exact leave _ _ hp
  | panic ch => exact hp.elim
  | outgrown => exact hp.elim
 ·rintro e W2 ⟨⟨v, rfl⟩, hkeep, S', hg', ha⟩
  have kp : ∀ {ob : Obj}, KeepS S w (W2.putObj (w.heap.size + 1) ob) := fun {ob} => by
   refine (KeepS.of_below S hbel).trans (S' := plus S w.heap.size) (fun i hi => hi.elim .inl (fun h => .inr (by omega))) (hkeep.trans hg' (KeepS.of_grown (grownBy_putObj' W2 _ _) (fun r e => ?_)))
   cases e
   cases hs : stopAt go [] xs with
   | none => obtain ⟨S₁, rfl, _⟩ := ha.all hs; exact .inl (.inr (.inr rfl))
   | some q => obtain ⟨c, S₁, rfl, _⟩ := ha.stop hs; exact .inl (.inr (.inr rfl))
  have gr : ∀ S₁, S' = plus S₁ w.heap.size → Grows S S₁ w := fun S₁ e i hi => by
   have := hg' i (by rw [e]; exact .inl hi)
   rcases this with (h | h | h) | h
   ·exact .inl h
   ·exact .inr (by omega)
   ·exact .inr (by omega)
   ·exact .inr (by omega)
  cases hs : stopAt go [] xs with
  | none =>
   obtain ⟨S₁, e1, m0, m1, hi, hk⟩ := ha.all hs
   have he := run_endLoop (P := P) hk.loop (by rw [hR]; simp)
   exact ⟨_, _, he, by
    simp only [show (R .ready none).pending = none by rw [hR]]
    exact hdone _ S₁ _ (Nat.le_refl _) hs kp (gr S₁ e1) m0 (hI _ _ _ _ _ hi (grownBy_putObj' W2 _ _) (fun r e => by cases e; exact ⟨by omega, m1⟩)) ((World.putObj_heap_other (by omega)).trans hk.off)⟩
  | some q =>
   obtain ⟨c, S₁, e1, m0, m1, hi, hk⟩ := ha.stop hs
   have he := run_endLoop (P := P) hk.loop (by rw [hR]; simp)
   exact ⟨_, _, he, by
    simp only [show (R .done (some c)).pending = some c by rw [hR]]
    exact hstop _ c q S₁ _ (Nat.le_refl _) hs kp (gr S₁ e1) m0 (hIx c _ _ _ _ _ hi (grownBy_putObj' W2 _ _) (fun r e => by cases e; exact ⟨by omega, m1⟩)) ((World.putObj_heap_other (by omega)).trans hk.off)⟩
end
end Go.Proofs.YtkejaepmoabikaaGreatDoor.W
namespace Go.Proofs.YtkejaepmoabikaaGreatDoor.W
open Go.RowKit Go.Shelf
open List renaming getElem_toArray → qA, getElem_cons_succ → qB, getElem_cons_zero → qC, setIfInBounds_toArray → qD, set_cons_zero → qE, set_cons_succ → qF
open _root_.Go.Proofs.Tryz renaming prog → qP
set_option maxHeartbeats 2000000
theorem wide_fn (f : FuncId) : Fence.wide.fn f = True := rfl
theorem wide_depth : Fence.wide.depth = none := rfl
attribute [local go_sem] Oper.semAt_some wide_fn wide_depth
def TreeS (S : Nat → Prop) (w : World) : Option Addr → BT → Prop
 | p, .leaf => p = none
 | p, .node l x r => ∃ b pl pr, p = some ⟨b, 0, none⟩ ∧ Blk w b 238 (nodeCells pl x pr (BT.node l x r).ht) ∧ ¬ S b ∧ TreeS S w pl l ∧ TreeS S w pr r
theorem TreeS.keep {S S' : Nat → Prop} {w w' : World} (h : KeepS S w w') (hg : Grows S S' w) : ∀ {p : Option Addr} {t : BT}, TreeS S w p t → TreeS S' w' p t
 | _, .leaf, ht => ht
 | _, .node _ _ _, ⟨b, pl, pr, hp, hb, h1, hl, hr⟩ => ⟨b, pl, pr, hp, h.blk hb h1, hg.not hb.lt h1, hl.keep h hg, hr.keep h hg⟩
theorem IsTree.off {S : Nat → Prop} {w : World} (h : ∀ g cs, Blk w g 238 cs → ¬ S g) : ∀ {p : Option Addr} {t : BT}, IsTree w p t → TreeS S w p t
 | _, .leaf, ht => ht
 | _, .node _ _ _, ⟨b, pl, pr, hp, hb, hl, hr⟩ => ⟨b, pl, pr, hp, hb, h b _ hb, hl.off h, hr.off h⟩
theorem TreeS.off {S S' : Nat → Prop} {w : World} (h : ∀ i, i < w.heap.size → S' i → S i) : ∀ {p : Option Addr} {t : BT}, TreeS S w p t → TreeS S' w p t
 | _, .leaf, ht => ht
 | _, .node _ _ _, ⟨b, pl, pr, hp, hb, h1, hl, hr⟩ => ⟨b, pl, pr, hp, hb, fun h2 => h1 (h b hb.lt h2), hl.off h, hr.off h⟩
def WalkPost (go : List KV → Bool) (J Jx : Inv) (pre ys : List KV) (S : Nat → Prop) (W : World) (e : Ending) (W' : World) : Prop :=
 e = .returned (.bool (stopAt go pre ys).isNone) ∧ KeepS S W W' ∧ ∃ S', Grows S S' W ∧ After go J Jx pre ys S' W'
abbrev WalkAt (go : List KV → Bool) (J Jx : Inv) (low : ByteArray) (l n : Nat) (p : Option Addr) (pre ys : List KV) (S : Nat → Prop) (W : World) : Prop :=
 CallsIn Fence.wide n qP 199 #[.pointer p, .string low, .func (.yield l) #[] #[]] W (WalkPost go J Jx pre ys S W)
theorem walkNil (go : List KV → Bool) (J Jx : Inv) (low : ByteArray) (l n : Nat) (pre : List KV) (S : Nat → Prop) (W : World) (hj : J pre S W) : WalkAt go J Jx low l n none pre [] S W := by
 refine callsIn_of_wp Tryz.func199 rfl trivial ?_ rfl
 simp only [Tryz.ntmps199, List.size_toArray, List.length_cons, List.length_nil, Nat.reduceAdd, Nat.reduceSub, Array.replicate_succ, Array.replicate_zero, List.push_toArray, List.append_toArray, List.nil_append, List.cons_append]
 gi_wp2
 go_ret
 exact ⟨rfl, KeepS.refl _ _, S, Grows.refl _ _, after_all rfl (by simpa using hj)⟩
theorem walkLow (low yk yv : ByteArray) (l n b ht : Nat) (pl pr : Option Addr) (W : World) (R : Ending → World → Prop) (hk : kc yk low = -1)
  (hb : Blk W b 238 (nodeCells pl (yk, yv) pr ht))
  (H1 : CallsIn Fence.wide (n - 1) qP 199 #[.pointer pr, .string low, .func (.yield l) #[] #[]] W fun e W' => ∃ c, e = .returned (.bool c) ∧ R e W') :
  CallsIn Fence.wide n qP 199 #[.pointer (some ⟨b, 0, none⟩), .string low, .func (.yield l) #[] #[]] W R := by
 have hls : Op.bytesLess yk.toList low.toList = true := by rw [less_str]; simpa using hk
 obtain ⟨c0, c1, c2, c3, _⟩ := node_cells hb
 clear hb
 simp only at *
 refine callsIn_of_wp Tryz.func199 rfl trivial ?_ rfl
 simp only [Tryz.ntmps199, List.size_toArray, List.length_cons, List.length_nil, Nat.reduceAdd, Nat.reduceSub, Array.replicate_succ, Array.replicate_zero, List.push_toArray, List.append_toArray, List.nil_append, List.cons_append]
 gi_wp2_with (first
  | (gi_at_call 199; refine H1.mono ?_; clear H1; rintro e W1 ⟨c, rfl, hR⟩))
 exact hR
attribute [local go_sem] Oper.semAt_some wide_fn wide_depth
theorem walkLeft (low yk yv : ByteArray) (l n b ht : Nat) (pl pr : Option Addr) (W : World) (R : Ending → World → Prop) (hk : kc yk low ≠ -1)
  (hb : Blk W b 238 (nodeCells pl (yk, yv) pr ht))
  (H1 : CallsIn Fence.wide (n - 1) qP 199 #[.pointer pl, .string low, .func (.yield l) #[] #[]] W.drew fun e W1 => e = .returned (.bool false) ∧ R e W1) :
  CallsIn Fence.wide n qP 199 #[.pointer (some ⟨b, 0, none⟩), .string low, .func (.yield l) #[] #[]] W R := by
 have hls : Op.bytesLess yk.toList low.toList = false := by rw [less_str]; simpa using hk
 obtain ⟨c0, c1, c2, c3, _⟩ := node_cells hb
 clear hb
 simp only at *
 refine callsIn_of_wp Tryz.func199 rfl trivial ?_ rfl
 simp only [Tryz.ntmps199, List.size_toArray, List.length_cons, List.length_nil, Nat.reduceAdd, Nat.reduceSub, Array.replicate_succ, Array.replicate_zero, List.push_toArray, List.append_toArray, List.nil_append, List.cons_append]
 gi_wp2
 refine wpIn_region_any (by kernel_rfl) ?_
 change wpAnyIn _ _ _ _ _ _ _ _ _ (World.drew _)
 simp only [List.size_toArray, List.length_cons, List.length_nil, Nat.reduceAdd, Array.replicate_succ, Array.replicate_zero, List.push_toArray, List.nil_append, List.cons_append]
 refine' wpAnyIn_take (i := 0) (v := _) rfl rfl (by kernel_rfl) (by kernel_rfl) (by kernel_rfl) (fun _ _ _ h => h) ⟨Or.inl ⟨by rfl, fun w => by go_simp; rfl⟩, fun _ => rfl⟩ ?_
 simp only [qA, qC, Act.put, qD, qE, qF]
 refine' wpAnyIn_take (i := 1) (v := _) rfl rfl (by kernel_rfl) (by kernel_rfl) (by kernel_rfl) (fun _ _ _ h => h) ⟨Or.inl ⟨by rfl, fun w => by go_simp; rfl⟩, fun _ => rfl⟩ ?_
 simp only [qA, qB, qC, Act.put, qD, qE, qF]
 refine' wpAnyIn_take (i := 2) (v := _) rfl rfl (by kernel_rfl) (by kernel_rfl) (by kernel_rfl) (fun _ _ _ h => h) ⟨Or.inl ⟨by rfl, fun w => by go_simp; rfl⟩, fun _ => rfl⟩ ?_
 simp only [qA, qB, qC, Act.put, qD, qE, qF]
 refine' wpAnyIn_take (i := 4) (v := _) rfl rfl (by kernel_rfl) (by kernel_rfl) (by kernel_rfl) (fun _ _ _ h => h) ⟨Or.inl ⟨by rfl, fun w => by go_simp; rfl⟩, fun _ => rfl⟩ ?_
 simp only [qA, qB, qC, Act.put, qD, qE, qF]
 refine' wpAnyIn_take (i := 5) (v := _) rfl rfl (by kernel_rfl) (by kernel_rfl) (by kernel_rfl) (fun _ _ _ h => h) ⟨Or.inl ⟨by rfl, fun w => by go_simp; rfl⟩, fun _ => rfl⟩ ?_
 simp only [qA, qB, qC, Act.put, qD, qE, qF]
 refine wpAnyIn_ready (rs := [3]) (by kernel_rfl) (by simp) (AllReadyIn.cons rfl (fun K hK => ?_) AllReadyIn.nil)
 go_simp
 refine hK _ _ ?_
 clear hK K
 simp only [qD, qE, qF]
 refine wpAnyIn_ready (rs := [6]) (by kernel_rfl) (by simp) (AllReadyIn.cons rfl (fun K hK => ?_) AllReadyIn.nil)
 go_simp
 refine H1.mono ?_
 rintro e W1 ⟨rfl, hR⟩
 refine hK _ _ ?_
 clear hK K
 simp only [qD, qE, qF]
 refine' wpAnyIn_take (i := 7) (v := _) rfl rfl (by kernel_rfl) (by kernel_rfl) (by kernel_rfl) (fun _ _ _ h => h) ⟨Or.inl ⟨by rfl, fun w => by go_simp; rfl⟩, fun _ => rfl⟩ ?_
 simp only [qA, qB, qC, Act.put, qD, qE, qF]
 refine wpAnyIn_take (i := 8) (v := undef) rfl rfl (by kernel_rfl) (by kernel_rfl) (by kernel_rfl) (fun _ _ _ h => h) ⟨Or.inr ⟨by rfl, rfl⟩, fun _ => rfl⟩ ?_
 simp only [qA, qB, qC, Act.put, qD, qE, qF]
 refine wpAnyIn_take (i := 9) (v := undef) rfl rfl (by kernel_rfl) (by kernel_rfl) (by kernel_rfl) (fun _ _ _ h => h) ⟨Or.inr ⟨by rfl, rfl⟩, fun _ => rfl⟩ ?_
 simp only [qA, qB, qC, Act.put, qD, qE, qF]
 refine wpAnyIn_take (i := 10) (v := undef) rfl rfl (by kernel_rfl) (by kernel_rfl) (by kernel_rfl) (fun _ _ _ h => h) ⟨Or.inr ⟨by rfl, rfl⟩, fun _ => rfl⟩ ?_
 simp only [qA, qB, qC, Act.put, qD, qE, qF]
 refine wpAnyIn_take (i := 11) (v := undef) rfl rfl (by kernel_rfl) (by kernel_rfl) (by kernel_rfl) (fun _ _ _ h => h) ⟨Or.inr ⟨by rfl, rfl⟩, fun _ => rfl⟩ ?_
 simp only [qA, qB, qC, Act.put, qD, qE, qF]
 refine wpAnyIn_take (i := 12) (v := undef) rfl rfl (by kernel_rfl) (by kernel_rfl) (by kernel_rfl) (fun _ _ _ h => h) ⟨Or.inr ⟨by rfl, rfl⟩, fun _ => rfl⟩ ?_
 simp only [qA, qB, qC, Act.put, qD, qE, qF]
 refine wpAnyIn_take (i := 13) (v := undef) rfl rfl (by kernel_rfl) (by kernel_rfl) (by kernel_rfl) (fun _ _ _ h => h) ⟨Or.inr ⟨by rfl, rfl⟩, fun _ => rfl⟩ ?_
 simp only [qA, qB, qC, Act.put, qD, qE, qF]
 refine wpAnyIn_take (i := 14) (v := undef) rfl rfl (by kernel_rfl) (by kernel_rfl) (by kernel_rfl) (fun _ _ _ h => h) ⟨Or.inr ⟨by rfl, rfl⟩, fun _ => rfl⟩ ?_
 simp only [qA, qB, qC, Act.put, qD, qE, qF]
 refine wpAnyIn_take (i := 15) (v := undef) rfl rfl (by kernel_rfl) (by kernel_rfl) (by kernel_rfl) (fun _ _ _ h => h) ⟨Or.inr ⟨by rfl, rfl⟩, fun _ => rfl⟩ ?_
 simp only [qA, qB, qC, Act.put, qD, qE, qF]
 refine wpAnyIn_take (i := 16) (v := undef) rfl rfl (by kernel_rfl) (by kernel_rfl) (by kernel_rfl) (fun _ _ _ h => h) ⟨Or.inr ⟨by rfl, rfl⟩, fun _ => rfl⟩ ?_
 simp only [qA, qB, qC, Act.put, qD, qE, qF]
 refine wpAnyIn_take (i := 17) (v := undef) rfl rfl (by kernel_rfl) (by kernel_rfl) (by kernel_rfl) (fun _ _ _ h => h) ⟨Or.inr ⟨by rfl, rfl⟩, fun _ => rfl⟩ ?_
 simp only [qA, qB, qC, Act.put, qD, qE, qF]
 refine wpAnyIn_take (i := 18) (v := undef) rfl rfl (by kernel_rfl) (by kernel_rfl) (by kernel_rfl) (fun _ _ _ h => h) ⟨Or.inr ⟨by rfl, rfl⟩, fun _ => rfl⟩ ?_
 simp only [qA, qB, qC, Act.put, qD, qE, qF]
 refine wpAnyIn_ready (rs := [19]) (by kernel_rfl) (by simp) (AllReadyIn.cons rfl (fun K hK => ?_) AllReadyIn.nil)
 go_simp
 refine hK _ _ ?_
 clear hK K
 simp only [qD, qE, qF]
 refine' wpAnyIn_take (i := 20) (v := _) rfl rfl (by kernel_rfl) (by kernel_rfl) (by kernel_rfl) (fun _ _ _ h => h) ⟨Or.inl ⟨by rfl, fun w => by go_simp; rfl⟩, fun _ => rfl⟩ ?_
 simp only [qA, qB, qC, Act.put, qD, qE, qF]
 refine' wpAnyIn_take (i := 21) (v := _) rfl rfl (by kernel_rfl) (by kernel_rfl) (by kernel_rfl) (fun _ _ _ h => h) ⟨Or.inl ⟨by rfl, fun w => by go_simp; rfl⟩, fun _ => rfl⟩ ?_
 simp only [qA, qB, qC, Act.put, qD, qE, qF]
 refine wpAnyIn_take (i := 22) (v := undef) rfl rfl (by kernel_rfl) (by kernel_rfl) (by kernel_rfl) (fun _ _ _ h => h) ⟨Or.inr ⟨by rfl, rfl⟩, fun _ => rfl⟩ ?_
 simp only [qA, qB, qC, Act.put, qD, qE, qF]
 refine wpAnyIn_take (i := 23) (v := undef) rfl rfl (by kernel_rfl) (by kernel_rfl) (by kernel_rfl) (fun _ _ _ h => h) ⟨Or.inr ⟨by rfl, rfl⟩, fun _ => rfl⟩ ?_
 simp only [qA, qB, qC, Act.put, qD, qE, qF]
 refine wpAnyIn_take (i := 24) (v := undef) rfl rfl (by kernel_rfl) (by kernel_rfl) (by kernel_rfl) (fun _ _ _ h => h) ⟨Or.inr ⟨by rfl, rfl⟩, fun _ => rfl⟩ ?_
 simp only [qA, qB, qC, Act.put, qD, qE, qF]
 refine wpAnyIn_take (i := 25) (v := undef) rfl rfl (by kernel_rfl) (by kernel_rfl) (by kernel_rfl) (fun _ _ _ h => h) ⟨Or.inr ⟨by rfl, rfl⟩, fun _ => rfl⟩ ?_
 simp only [qA, qB, qC, Act.put, qD, qE, qF]
 refine wpAnyIn_take (i := 26) (v := undef) rfl rfl (by kernel_rfl) (by kernel_rfl) (by kernel_rfl) (fun _ _ _ h => h) ⟨Or.inr ⟨by rfl, rfl⟩, fun _ => rfl⟩ ?_
 simp only [qA, qB, qC, Act.put, qD, qE, qF]
 refine wpAnyIn_take (i := 27) (v := undef) rfl rfl (by kernel_rfl) (by kernel_rfl) (by kernel_rfl) (fun _ _ _ h => h) ⟨Or.inr ⟨by rfl, rfl⟩, fun _ => rfl⟩ ?_
 simp only [qA, qB, qC, Act.put, qD, qE, qF]
 refine wpAnyIn_ready (rs := [28]) (by kernel_rfl) (by simp) (AllReadyIn.cons rfl (fun K hK => ?_) AllReadyIn.nil)
 go_simp
 refine hK _ _ ?_
 clear hK K
 simp only [qD, qE, qF]
 refine' wpAnyIn_take (i := 29) (v := _) rfl rfl (by kernel_rfl) (by kernel_rfl) (by kernel_rfl) (fun _ _ _ h => h) ⟨Or.inl ⟨by rfl, fun w => by go_simp; rfl⟩, fun _ => rfl⟩ ?_
 simp only [qA, qB, qC, Act.put, qD, qE, qF]
 refine' wpAnyIn_take (i := 30) (v := _) rfl rfl (by kernel_rfl) (by kernel_rfl) (by kernel_rfl) (fun _ _ _ h => h) ⟨Or.inl ⟨by rfl, fun w => by go_simp; rfl⟩, fun _ => rfl⟩ ?_
 simp only [qA, qB, qC, Act.put, qD, qE, qF]
 refine wpAnyIn_done (by kernel_rfl) ?_ _
 gi_wp2
 exact hR
theorem walkHere (low yk yv : ByteArray) (l n b ht : Nat) (pl pr : Option Addr) (W : World) (R : Ending → World → Prop) (hk : kc yk low ≠ -1)
  (hb : Blk W b 238 (nodeCells pl (yk, yv) pr ht))
  (H1 : CallsIn Fence.wide (n - 1) qP 199 #[.pointer pl, .string low, .func (.yield l) #[] #[]] W.drew fun e W1 => e = .returned (.bool true) ∧ W1.cell? ⟨b, 1, none⟩ = some (.string yk) ∧ W1.cell? ⟨b, 2, none⟩ = some (.string yv) ∧ YieldAt Fence.wide (n - 1) qP l #[.string yk, .string yv] W1 fun e W2 => e = .returned (.bool false) ∧ R e W2) :
  CallsIn Fence.wide n qP 199 #[.pointer (some ⟨b, 0, none⟩), .string low, .func (.yield l) #[] #[]] W R := by
 have hls : Op.bytesLess yk.toList low.toList = false := by rw [less_str]; simpa using hk
 obtain ⟨c0, c1, c2, c3, _⟩ := node_cells hb
 clear hb
 simp only at *
 refine callsIn_of_wp Tryz.func199 rfl trivial ?_ rfl
 simp only [Tryz.ntmps199, List.size_toArray, List.length_cons, List.length_nil, Nat.reduceAdd, Nat.reduceSub, Array.replicate_succ, Array.replicate_zero, List.push_toArray, List.append_toArray, List.nil_append, List.cons_append]
 gi_wp2
 refine wpIn_region_any (by kernel_rfl) ?_
 change wpAnyIn _ _ _ _ _ _ _ _ _ (World.drew _)
 simp only [List.size_toArray, List.length_cons, List.length_nil, Nat.reduceAdd, Array.replicate_succ, Array.replicate_zero, List.push_toArray, List.nil_append, List.cons_append]
 refine' wpAnyIn_take (i := 0) (v := _) rfl rfl (by kernel_rfl) (by kernel_rfl) (by kernel_rfl) (fun _ _ _ h => h) ⟨Or.inl ⟨by rfl, fun w => by go_simp; rfl⟩, fun _ => rfl⟩ ?_
 simp only [qA, qC, Act.put, qD, qE, qF]
 refine' wpAnyIn_take (i := 1) (v := _) rfl rfl (by kernel_rfl) (by kernel_rfl) (by kernel_rfl) (fun _ _ _ h => h) ⟨Or.inl ⟨by rfl, fun w => by go_simp; rfl⟩, fun _ => rfl⟩ ?_
 simp only [qA, qB, qC, Act.put, qD, qE, qF]
 refine' wpAnyIn_take (i := 2) (v := _) rfl rfl (by kernel_rfl) (by kernel_rfl) (by kernel_rfl) (fun _ _ _ h => h) ⟨Or.inl ⟨by rfl, fun w => by go_simp; rfl⟩, fun _ => rfl⟩ ?_
 simp only [qA, qB, qC, Act.put, qD, qE, qF]
 refine' wpAnyIn_take (i := 4) (v := _) rfl rfl (by kernel_rfl) (by kernel_rfl) (by kernel_rfl) (fun _ _ _ h => h) ⟨Or.inl ⟨by rfl, fun w => by go_simp; rfl⟩, fun _ => rfl⟩ ?_
 simp only [qA, qB, qC, Act.put, qD, qE, qF]
 refine' wpAnyIn_take (i := 5) (v := _) rfl rfl (by kernel_rfl) (by kernel_rfl) (by kernel_rfl) (fun _ _ _ h => h) ⟨Or.inl ⟨by rfl, fun w => by go_simp; rfl⟩, fun _ => rfl⟩ ?_
 simp only [qA, qB, qC, Act.put, qD, qE, qF]
 refine wpAnyIn_ready (rs := [3]) (by kernel_rfl) (by simp) (AllReadyIn.cons rfl (fun K hK => ?_) AllReadyIn.nil)
 go_simp
 refine hK _ _ ?_
 clear hK K
 simp only [qD, qE, qF]
 refine wpAnyIn_ready (rs := [6]) (by kernel_rfl) (by simp) (AllReadyIn.cons rfl (fun K hK => ?_) AllReadyIn.nil)
 go_simp
 refine H1.mono ?_
 rintro e W1 ⟨rfl, d1, d2, fn, tmps, assign, body, hy, hr⟩
 refine hK _ _ ?_
 clear hK K
 simp only [qD, qE, qF]
 refine' wpAnyIn_take (i := 7) (v := _) rfl rfl (by kernel_rfl) (by kernel_rfl) (by kernel_rfl) (fun _ _ _ h => h) ⟨Or.inl ⟨by rfl, fun w => by go_simp; rfl⟩, fun _ => rfl⟩ ?_
 simp only [qA, qB, qC, Act.put, qD, qE, qF]
 refine' wpAnyIn_take (i := 8) (v := _) rfl rfl (by kernel_rfl) (by kernel_rfl) (by kernel_rfl) (fun _ _ _ h => h) ⟨Or.inl ⟨by rfl, fun w => by go_simp; rfl⟩, fun _ => rfl⟩ ?_
 simp only [qA, qB, qC, Act.put, qD, qE, qF]
 refine' wpAnyIn_take (i := 9) (v := _) rfl rfl (by kernel_rfl) (by kernel_rfl) (by kernel_rfl) (fun _ _ _ h => h) ⟨Or.inl ⟨by rfl, fun w => by go_simp; rfl⟩, fun _ => rfl⟩ ?_
 simp only [qA, qB, qC, Act.put, qD, qE, qF]
 refine' wpAnyIn_take (i := 10) (v := _) rfl rfl (by kernel_rfl) (by kernel_rfl) (by kernel_rfl) (fun _ _ _ h => h) ⟨Or.inl ⟨by rfl, fun w => by go_simp; rfl⟩, fun _ => rfl⟩ ?_
 simp only [qA, qB, qC, Act.put, qD, qE, qF]
 refine' wpAnyIn_take (i := 11) (v := _) rfl rfl (by kernel_rfl) (by kernel_rfl) (by kernel_rfl) (fun _ _ _ h => h) ⟨Or.inl ⟨by rfl, fun w => by go_simp; rfl⟩, fun _ => rfl⟩ ?_
 simp only [qA, qB, qC, Act.put, qD, qE, qF]
 refine' wpAnyIn_take (i := 12) (v := _) rfl rfl (by kernel_rfl) (by kernel_rfl) (by kernel_rfl) (fun _ _ _ h => h) ⟨Or.inl ⟨by rfl, fun w => by go_simp; rfl⟩, fun _ => rfl⟩ ?_
 simp only [qA, qB, qC, Act.put, qD, qE, qF]
 refine' wpAnyIn_take (i := 14) (v := _) rfl rfl (by kernel_rfl) (by kernel_rfl) (by kernel_rfl) (fun _ _ _ h => h) ⟨Or.inl ⟨by rfl, fun w => by go_simp; rfl⟩, fun _ => rfl⟩ ?_
 simp only [qA, qB, qC, Act.put, qD, qE, qF]
 refine' wpAnyIn_take (i := 15) (v := _) rfl rfl (by kernel_rfl) (by kernel_rfl) (by kernel_rfl) (fun _ _ _ h => h) ⟨Or.inl ⟨by rfl, fun w => by go_simp; rfl⟩, fun _ => rfl⟩ ?_
 simp only [qA, qB, qC, Act.put, qD, qE, qF]
 refine' wpAnyIn_take (i := 16) (v := _) rfl rfl (by kernel_rfl) (by kernel_rfl) (by kernel_rfl) (fun _ _ _ h => h) ⟨Or.inl ⟨by rfl, fun w => by go_simp; rfl⟩, fun _ => rfl⟩ ?_
 simp only [qA, qB, qC, Act.put, qD, qE, qF]
 refine' wpAnyIn_take (i := 17) (v := _) rfl rfl (by kernel_rfl) (by kernel_rfl) (by kernel_rfl) (fun _ _ _ h => h) ⟨Or.inl ⟨by rfl, fun w => by go_simp; rfl⟩, fun _ => rfl⟩ ?_
 simp only [qA, qB, qC, Act.put, qD, qE, qF]
 refine wpAnyIn_ready (rs := [13, 18]) (by kernel_rfl) (by simp) (AllReadyIn.cons rfl (fun K hK => ?_) (AllReadyIn.cons rfl (fun K hK => ?_) AllReadyIn.nil))
 ·go_simp
  refine hK _ _ ?_
  clear hK K
  simp only [qD, qE, qF]
  refine wpAnyIn_ready (rs := [18]) (by kernel_rfl) (by simp) (AllReadyIn.cons rfl (fun K hK => ?_) AllReadyIn.nil)
  go_simp
  refine hK _ _ ?_
  clear hK K
  simp only [qD, qE, qF]
  refine wpAnyIn_ready (rs := [19]) (by kernel_rfl) (by simp) (AllReadyIn.cons rfl (fun K hK => ?_) AllReadyIn.nil)
  go_simp
  refine hr.mono ?_
  rintro e W2 ⟨rfl, hR⟩
  refine hK _ _ ?_
  clear hK K
  simp only [qD, qE, qF]
  refine' wpAnyIn_take (i := 20) (v := _) rfl rfl (by kernel_rfl) (by kernel_rfl) (by kernel_rfl) (fun _ _ _ h => h) ⟨Or.inl ⟨by rfl, fun w => by go_simp; rfl⟩, fun _ => rfl⟩ ?_
  simp only [qA, qB, qC, Act.put, qD, qE, qF]
  refine' wpAnyIn_take (i := 21) (v := _) rfl rfl (by kernel_rfl) (by kernel_rfl) (by kernel_rfl) (fun _ _ _ h => h) ⟨Or.inl ⟨by rfl, fun w => by go_simp; rfl⟩, fun _ => rfl⟩ ?_
  simp only [qA, qB, qC, Act.put, qD, qE, qF]
  refine wpAnyIn_take (i := 22) (v := undef) rfl rfl (by kernel_rfl) (by kernel_rfl) (by kernel_rfl) (fun _ _ _ h => h) ⟨Or.inr ⟨by rfl, rfl⟩, fun _ => rfl⟩ ?_
  simp only [qA, qB, qC, Act.put, qD, qE, qF]
  refine wpAnyIn_take (i := 23) (v := undef) rfl rfl (by kernel_rfl) (by kernel_rfl) (by kernel_rfl) (fun _ _ _ h => h) ⟨Or.inr ⟨by rfl, rfl⟩, fun _ => rfl⟩ ?_
  simp only [qA, qB, qC, Act.put, qD, qE, qF]
  refine wpAnyIn_take (i := 24) (v := undef) rfl rfl (by kernel_rfl) (by kernel_rfl) (by kernel_rfl) (fun _ _ _ h => h) ⟨Or.inr ⟨by rfl, rfl⟩, fun _ => rfl⟩ ?_
  simp only [qA, qB, qC, Act.put, qD, qE, qF]
  refine wpAnyIn_take (i := 25) (v := undef) rfl rfl (by kernel_rfl) (by kernel_rfl) (by kernel_rfl) (fun _ _ _ h => h) ⟨Or.inr ⟨by rfl, rfl⟩, fun _ => rfl⟩ ?_
  simp only [qA, qB, qC, Act.put, qD, qE, qF]
  refine wpAnyIn_take (i := 26) (v := undef) rfl rfl (by kernel_rfl) (by kernel_rfl) (by kernel_rfl) (fun _ _ _ h => h) ⟨Or.inr ⟨by rfl, rfl⟩, fun _ => rfl⟩ ?_
  simp only [qA, qB, qC, Act.put, qD, qE, qF]
  refine wpAnyIn_take (i := 27) (v := undef) rfl rfl (by kernel_rfl) (by kernel_rfl) (by kernel_rfl) (fun _ _ _ h => h) ⟨Or.inr ⟨by rfl, rfl⟩, fun _ => rfl⟩ ?_
  simp only [qA, qB, qC, Act.put, qD, qE, qF]
  refine wpAnyIn_ready (rs := [28]) (by kernel_rfl) (by simp) (AllReadyIn.cons rfl (fun K hK => ?_) AllReadyIn.nil)
  go_simp
  refine hK _ _ ?_
  clear hK K
  simp only [qD, qE, qF]
  refine' wpAnyIn_take (i := 29) (v := _) rfl rfl (by kernel_rfl) (by kernel_rfl) (by kernel_rfl) (fun _ _ _ h => h) ⟨Or.inl ⟨by rfl, fun w => by go_simp; rfl⟩, fun _ => rfl⟩ ?_
  simp only [qA, qB, qC, Act.put, qD, qE, qF]
  refine' wpAnyIn_take (i := 30) (v := _) rfl rfl (by kernel_rfl) (by kernel_rfl) (by kernel_rfl) (fun _ _ _ h => h) ⟨Or.inl ⟨by rfl, fun w => by go_simp; rfl⟩, fun _ => rfl⟩ ?_
  simp only [qA, qB, qC, Act.put, qD, qE, qF]
  refine wpAnyIn_done (by kernel_rfl) ?_ _
  gi_wp2
  exact hR
 ·go_simp
  refine hK _ _ ?_
  clear hK K
  simp only [qD, qE, qF]
  refine wpAnyIn_ready (rs := [13]) (by kernel_rfl) (by simp) (AllReadyIn.cons rfl (fun K hK => ?_) AllReadyIn.nil)
  go_simp
  refine hK _ _ ?_
  clear hK K
  simp only [qD, qE, qF]
  refine wpAnyIn_ready (rs := [19]) (by kernel_rfl) (by simp) (AllReadyIn.cons rfl (fun K hK => ?_) AllReadyIn.nil)
  go_simp
  refine hr.mono ?_
  rintro e W2 ⟨rfl, hR⟩
  refine hK _ _ ?_
  clear hK K
  simp only [qD, qE, qF]
  refine' wpAnyIn_take (i := 20) (v := _) rfl rfl (by kernel_rfl) (by kernel_rfl) (by kernel_rfl) (fun _ _ _ h => h) ⟨Or.inl ⟨by rfl, fun w => by go_simp; rfl⟩, fun _ => rfl⟩ ?_
  simp only [qA, qB, qC, Act.put, qD, qE, qF]
  refine' wpAnyIn_take (i := 21) (v := _) rfl rfl (by kernel_rfl) (by kernel_rfl) (by kernel_rfl) (fun _ _ _ h => h) ⟨Or.inl ⟨by rfl, fun w => by go_simp; rfl⟩, fun _ => rfl⟩ ?_
  simp only [qA, qB, qC, Act.put, qD, qE, qF]
  refine wpAnyIn_take (i := 22) (v := undef) rfl rfl (by kernel_rfl) (by kernel_rfl) (by kernel_rfl) (fun _ _ _ h => h) ⟨Or.inr ⟨by rfl, rfl⟩, fun _ => rfl⟩ ?_
  simp only [qA, qB, qC, Act.put, qD, qE, qF]
  refine wpAnyIn_take (i := 23) (v := undef) rfl rfl (by kernel_rfl) (by kernel_rfl) (by kernel_rfl) (fun _ _ _ h => h) ⟨Or.inr ⟨by rfl, rfl⟩, fun _ => rfl⟩ ?_
  simp only [qA, qB, qC, Act.put, qD, qE, qF]
  refine wpAnyIn_take (i := 24) (v := undef) rfl rfl (by kernel_rfl) (by kernel_rfl) (by kernel_rfl) (fun _ _ _ h => h) ⟨Or.inr ⟨by rfl, rfl⟩, fun _ => rfl⟩ ?_
  simp only [qA, qB, qC, Act.put, qD, qE, qF]
  refine wpAnyIn_take (i := 25) (v := undef) rfl rfl (by kernel_rfl) (by kernel_rfl) (by kernel_rfl) (fun _ _ _ h => h) ⟨Or.inr ⟨by rfl, rfl⟩, fun _ => rfl⟩ ?_
  simp only [qA, qB, qC, Act.put, qD, qE, qF]
  refine wpAnyIn_take (i := 26) (v := undef) rfl rfl (by kernel_rfl) (by kernel_rfl) (by kernel_rfl) (fun _ _ _ h => h) ⟨Or.inr ⟨by rfl, rfl⟩, fun _ => rfl⟩ ?_
  simp only [qA, qB, qC, Act.put, qD, qE, qF]
  refine wpAnyIn_take (i := 27) (v := undef) rfl rfl (by kernel_rfl) (by kernel_rfl) (by kernel_rfl) (fun _ _ _ h => h) ⟨Or.inr ⟨by rfl, rfl⟩, fun _ => rfl⟩ ?_
  simp only [qA, qB, qC, Act.put, qD, qE, qF]
  refine wpAnyIn_ready (rs := [28]) (by kernel_rfl) (by simp) (AllReadyIn.cons rfl (fun K hK => ?_) AllReadyIn.nil)
  go_simp
  refine hK _ _ ?_
  clear hK K
  simp only [qD, qE, qF]
  refine' wpAnyIn_take (i := 29) (v := _) rfl rfl (by kernel_rfl) (by kernel_rfl) (by kernel_rfl) (fun _ _ _ h => h) ⟨Or.inl ⟨by rfl, fun w => by go_simp; rfl⟩, fun _ => rfl⟩ ?_
  simp only [qA, qB, qC, Act.put, qD, qE, qF]
  refine' wpAnyIn_take (i := 30) (v := _) rfl rfl (by kernel_rfl) (by kernel_rfl) (by kernel_rfl) (fun _ _ _ h => h) ⟨Or.inl ⟨by rfl, fun w => by go_simp; rfl⟩, fun _ => rfl⟩ ?_
  simp only [qA, qB, qC, Act.put, qD, qE, qF]
  refine wpAnyIn_done (by kernel_rfl) ?_ _
  gi_wp2
  exact hR
attribute [local go_sem] Oper.semAt_some wide_fn wide_depth
theorem walkAll (low yk yv : ByteArray) (l n b ht : Nat) (pl pr : Option Addr) (W : World) (R : Ending → World → Prop) (hk : kc yk low ≠ -1)
  (hb : Blk W b 238 (nodeCells pl (yk, yv) pr ht))
  (H1 : CallsIn Fence.wide (n - 1) qP 199 #[.pointer pl, .string low, .func (.yield l) #[] #[]] W.drew fun e W1 => e = .returned (.bool true) ∧ W1.cell? ⟨b, 1, none⟩ = some (.string yk) ∧ W1.cell? ⟨b, 2, none⟩ = some (.string yv) ∧ YieldAt Fence.wide (n - 1) qP l #[.string yk, .string yv] W1 fun e W2 => e = .returned (.bool true) ∧ W2.cell? ⟨b, 3, none⟩ = some (.pointer pr) ∧ CallsIn Fence.wide (n - 1) qP 199 #[.pointer pr, .string low, .func (.yield l) #[] #[]] W2 fun e W3 => ∃ c, e = .returned (.bool c) ∧ R e W3) :
  CallsIn Fence.wide n qP 199 #[.pointer (some ⟨b, 0, none⟩), .string low, .func (.yield l) #[] #[]] W R := by
 have hls : Op.bytesLess yk.toList low.toList = false := by rw [less_str]; simpa using hk
 obtain ⟨c0, c1, c2, c3, _⟩ := node_cells hb
 clear hb
 simp only at *
 refine callsIn_of_wp Tryz.func199 rfl trivial ?_ rfl
 simp only [Tryz.ntmps199, List.size_toArray, List.length_cons, List.length_nil, Nat.reduceAdd, Nat.reduceSub, Array.replicate_succ, Array.replicate_zero, List.push_toArray, List.append_toArray, List.nil_append, List.cons_append]
 gi_wp2
 refine wpIn_region_any (by kernel_rfl) ?_
 change wpAnyIn _ _ _ _ _ _ _ _ _ (World.drew _)
 simp only [List.size_toArray, List.length_cons, List.length_nil, Nat.reduceAdd, Array.replicate_succ, Array.replicate_zero, List.push_toArray, List.nil_append, List.cons_append]
 refine' wpAnyIn_take (i := 0) (v := _) rfl rfl (by kernel_rfl) (by kernel_rfl) (by kernel_rfl) (fun _ _ _ h => h) ⟨Or.inl ⟨by rfl, fun w => by go_simp; rfl⟩, fun _ => rfl⟩ ?_
 simp only [qA, qC, Act.put, qD, qE, qF]
 refine' wpAnyIn_take (i := 1) (v := _) rfl rfl (by kernel_rfl) (by kernel_rfl) (by kernel_rfl) (fun _ _ _ h => h) ⟨Or.inl ⟨by rfl, fun w => by go_simp; rfl⟩, fun _ => rfl⟩ ?_
 simp only [qA, qB, qC, Act.put, qD, qE, qF]
 refine' wpAnyIn_take (i := 2) (v := _) rfl rfl (by kernel_rfl) (by kernel_rfl) (by kernel_rfl) (fun _ _ _ h => h) ⟨Or.inl ⟨by rfl, fun w => by go_simp; rfl⟩, fun _ => rfl⟩ ?_
 simp only [qA, qB, qC, Act.put, qD, qE, qF]
 refine' wpAnyIn_take (i := 4) (v := _) rfl rfl (by kernel_rfl) (by kernel_rfl) (by kernel_rfl) (fun _ _ _ h => h) ⟨Or.inl ⟨by rfl, fun w => by go_simp; rfl⟩, fun _ => rfl⟩ ?_
 simp only [qA, qB, qC, Act.put, qD, qE, qF]
 refine' wpAnyIn_take (i := 5) (v := _) rfl rfl (by kernel_rfl) (by kernel_rfl) (by kernel_rfl) (fun _ _ _ h => h) ⟨Or.inl ⟨by rfl, fun w => by go_simp; rfl⟩, fun _ => rfl⟩ ?_
 simp only [qA, qB, qC, Act.put, qD, qE, qF]
 refine wpAnyIn_ready (rs := [3]) (by kernel_rfl) (by simp) (AllReadyIn.cons rfl (fun K hK => ?_) AllReadyIn.nil)
 go_simp
 refine hK _ _ ?_
 clear hK K
 simp only [qD, qE, qF]
 refine wpAnyIn_ready (rs := [6]) (by kernel_rfl) (by simp) (AllReadyIn.cons rfl (fun K hK => ?_) AllReadyIn.nil)
 go_simp
 refine H1.mono ?_
 rintro e W1 ⟨rfl, d1, d2, fn, tmps, assign, body, hy, hr⟩
 refine hK _ _ ?_
 clear hK K
 simp only [qD, qE, qF]
 refine' wpAnyIn_take (i := 7) (v := _) rfl rfl (by kernel_rfl) (by kernel_rfl) (by kernel_rfl) (fun _ _ _ h => h) ⟨Or.inl ⟨by rfl, fun w => by go_simp; rfl⟩, fun _ => rfl⟩ ?_
 simp only [qA, qB, qC, Act.put, qD, qE, qF]
 refine' wpAnyIn_take (i := 8) (v := _) rfl rfl (by kernel_rfl) (by kernel_rfl) (by kernel_rfl) (fun _ _ _ h => h) ⟨Or.inl ⟨by rfl, fun w => by go_simp; rfl⟩, fun _ => rfl⟩ ?_
 simp only [qA, qB, qC, Act.put, qD, qE, qF]
 refine' wpAnyIn_take (i := 9) (v := _) rfl rfl (by kernel_rfl) (by kernel_rfl) (by kernel_rfl) (fun _ _ _ h => h) ⟨Or.inl ⟨by rfl, fun w => by go_simp; rfl⟩, fun _ => rfl⟩ ?_
 simp only [qA, qB, qC, Act.put, qD, qE, qF]
 refine' wpAnyIn_take (i := 10) (v := _) rfl rfl (by kernel_rfl) (by kernel_rfl) (by kernel_rfl) (fun _ _ _ h => h) ⟨Or.inl ⟨by rfl, fun w => by go_simp; rfl⟩, fun _ => rfl⟩ ?_
 simp only [qA, qB, qC, Act.put, qD, qE, qF]
 refine' wpAnyIn_take (i := 11) (v := _) rfl rfl (by kernel_rfl) (by kernel_rfl) (by kernel_rfl) (fun _ _ _ h => h) ⟨Or.inl ⟨by rfl, fun w => by go_simp; rfl⟩, fun _ => rfl⟩ ?_
 simp only [qA, qB, qC, Act.put, qD, qE, qF]
 refine' wpAnyIn_take (i := 12) (v := _) rfl rfl (by kernel_rfl) (by kernel_rfl) (by kernel_rfl) (fun _ _ _ h => h) ⟨Or.inl ⟨by rfl, fun w => by go_simp; rfl⟩, fun _ => rfl⟩ ?_
 simp only [qA, qB, qC, Act.put, qD, qE, qF]
 refine' wpAnyIn_take (i := 14) (v := _) rfl rfl (by kernel_rfl) (by kernel_rfl) (by kernel_rfl) (fun _ _ _ h => h) ⟨Or.inl ⟨by rfl, fun w => by go_simp; rfl⟩, fun _ => rfl⟩ ?_
 simp only [qA, qB, qC, Act.put, qD, qE, qF]
 refine' wpAnyIn_take (i := 15) (v := _) rfl rfl (by kernel_rfl) (by kernel_rfl) (by kernel_rfl) (fun _ _ _ h => h) ⟨Or.inl ⟨by rfl, fun w => by go_simp; rfl⟩, fun _ => rfl⟩ ?_
 simp only [qA, qB, qC, Act.put, qD, qE, qF]
 refine' wpAnyIn_take (i := 16) (v := _) rfl rfl (by kernel_rfl) (by kernel_rfl) (by kernel_rfl) (fun _ _ _ h => h) ⟨Or.inl ⟨by rfl, fun w => by go_simp; rfl⟩, fun _ => rfl⟩ ?_
 simp only [qA, qB, qC, Act.put, qD, qE, qF]
 refine' wpAnyIn_take (i := 17) (v := _) rfl rfl (by kernel_rfl) (by kernel_rfl) (by kernel_rfl) (fun _ _ _ h => h) ⟨Or.inl ⟨by rfl, fun w => by go_simp; rfl⟩, fun _ => rfl⟩ ?_
 simp only [qA, qB, qC, Act.put, qD, qE, qF]
 refine wpAnyIn_ready (rs := [13, 18]) (by kernel_rfl) (by simp) (AllReadyIn.cons rfl (fun K hK => ?_) (AllReadyIn.cons rfl (fun K hK => ?_) AllReadyIn.nil))
 ·go_simp
  refine hK _ _ ?_
  clear hK K
  simp only [qD, qE, qF]
  refine wpAnyIn_ready (rs := [18]) (by kernel_rfl) (by simp) (AllReadyIn.cons rfl (fun K hK => ?_) AllReadyIn.nil)
  go_simp
  refine hK _ _ ?_
  clear hK K
  simp only [qD, qE, qF]
  refine wpAnyIn_ready (rs := [19]) (by kernel_rfl) (by simp) (AllReadyIn.cons rfl (fun K hK => ?_) AllReadyIn.nil)
  go_simp
  refine hr.mono ?_
  rintro e W2 ⟨rfl, d3, H3⟩
  refine hK _ _ ?_
  clear hK K
  simp only [qD, qE, qF]
  refine' wpAnyIn_take (i := 20) (v := _) rfl rfl (by kernel_rfl) (by kernel_rfl) (by kernel_rfl) (fun _ _ _ h => h) ⟨Or.inl ⟨by rfl, fun w => by go_simp; rfl⟩, fun _ => rfl⟩ ?_
  simp only [qA, qB, qC, Act.put, qD, qE, qF]
  refine' wpAnyIn_take (i := 21) (v := _) rfl rfl (by kernel_rfl) (by kernel_rfl) (by kernel_rfl) (fun _ _ _ h => h) ⟨Or.inl ⟨by rfl, fun w => by go_simp; rfl⟩, fun _ => rfl⟩ ?_
  simp only [qA, qB, qC, Act.put, qD, qE, qF]
  refine' wpAnyIn_take (i := 22) (v := _) rfl rfl (by kernel_rfl) (by kernel_rfl) (by kernel_rfl) (fun _ _ _ h => h) ⟨Or.inl ⟨by rfl, fun w => by go_simp; rfl⟩, fun _ => rfl⟩ ?_
  simp only [qA, qB, qC, Act.put, qD, qE, qF]
  refine' wpAnyIn_take (i := 23) (v := _) rfl rfl (by kernel_rfl) (by kernel_rfl) (by kernel_rfl) (fun _ _ _ h => h) ⟨Or.inl ⟨by rfl, fun w => by go_simp; rfl⟩, fun _ => rfl⟩ ?_
  simp only [qA, qB, qC, Act.put, qD, qE, qF]
  refine' wpAnyIn_take (i := 24) (v := _) rfl rfl (by kernel_rfl) (by kernel_rfl) (by kernel_rfl) (fun _ _ _ h => h) ⟨Or.inl ⟨by rfl, fun w => by go_simp; rfl⟩, fun _ => rfl⟩ ?_
  simp only [qA, qB, qC, Act.put, qD, qE, qF]
  refine' wpAnyIn_take (i := 26) (v := _) rfl rfl (by kernel_rfl) (by kernel_rfl) (by kernel_rfl) (fun _ _ _ h => h) ⟨Or.inl ⟨by rfl, fun w => by go_simp; rfl⟩, fun _ => rfl⟩ ?_
  simp only [qA, qB, qC, Act.put, qD, qE, qF]
  refine' wpAnyIn_take (i := 27) (v := _) rfl rfl (by kernel_rfl) (by kernel_rfl) (by kernel_rfl) (fun _ _ _ h => h) ⟨Or.inl ⟨by rfl, fun w => by go_simp; rfl⟩, fun _ => rfl⟩ ?_
  simp only [qA, qB, qC, Act.put, qD, qE, qF]
  refine wpAnyIn_ready (rs := [25]) (by kernel_rfl) (by simp) (AllReadyIn.cons rfl (fun K hK => ?_) AllReadyIn.nil)
  go_simp
  refine hK _ _ ?_
  clear hK K
  simp only [qD, qE, qF]
  refine wpAnyIn_ready (rs := [28]) (by kernel_rfl) (by simp) (AllReadyIn.cons rfl (fun K hK => ?_) AllReadyIn.nil)
  go_simp
  refine H3.mono ?_
  rintro e W3 ⟨c, rfl, hR⟩
  refine hK _ _ ?_
  clear hK K
  simp only [qD, qE, qF]
  refine' wpAnyIn_take (i := 29) (v := _) rfl rfl (by kernel_rfl) (by kernel_rfl) (by kernel_rfl) (fun _ _ _ h => h) ⟨Or.inl ⟨by rfl, fun w => by go_simp; rfl⟩, fun _ => rfl⟩ ?_
  simp only [qA, qB, qC, Act.put, qD, qE, qF]
  refine' wpAnyIn_take (i := 30) (v := _) rfl rfl (by kernel_rfl) (by kernel_rfl) (by kernel_rfl) (fun _ _ _ h => h) ⟨Or.inl ⟨by rfl, fun w => by go_simp; rfl⟩, fun _ => rfl⟩ ?_
  simp only [qA, qB, qC, Act.put, qD, qE, qF]
  refine wpAnyIn_done (by kernel_rfl) ?_ _
  gi_wp2
  exact hR
 ·go_simp
  refine hK _ _ ?_
  clear hK K
  simp only [qD, qE, qF]
  refine wpAnyIn_ready (rs := [13]) (by kernel_rfl) (by simp) (AllReadyIn.cons rfl (fun K hK => ?_) AllReadyIn.nil)
  go_simp
  refine hK _ _ ?_
  clear hK K
  simp only [qD, qE, qF]
  refine wpAnyIn_ready (rs := [19]) (by kernel_rfl) (by simp) (AllReadyIn.cons rfl (fun K hK => ?_) AllReadyIn.nil)
  go_simp
  refine hr.mono ?_
  rintro e W2 ⟨rfl, d3, H3⟩
  refine hK _ _ ?_
  clear hK K
  simp only [qD, qE, qF]
  refine' wpAnyIn_take (i := 20) (v := _) rfl rfl (by kernel_rfl) (by kernel_rfl) (by kernel_rfl) (fun _ _ _ h => h) ⟨Or.inl ⟨by rfl, fun w => by go_simp; rfl⟩, fun _ => rfl⟩ ?_
  simp only [qA, qB, qC, Act.put, qD, qE, qF]
  refine' wpAnyIn_take (i := 21) (v := _) rfl rfl (by kernel_rfl) (by kernel_rfl) (by kernel_rfl) (fun _ _ _ h => h) ⟨Or.inl ⟨by rfl, fun w => by go_simp; rfl⟩, fun _ => rfl⟩ ?_
  simp only [qA, qB, qC, Act.put, qD, qE, qF]
  refine' wpAnyIn_take (i := 22) (v := _) rfl rfl (by kernel_rfl) (by kernel_rfl) (by kernel_rfl) (fun _ _ _ h => h) ⟨Or.inl ⟨by rfl, fun w => by go_simp; rfl⟩, fun _ => rfl⟩ ?_
  simp only [qA, qB, qC, Act.put, qD, qE, qF]
  refine' wpAnyIn_take (i := 23) (v := _) rfl rfl (by kernel_rfl) (by kernel_rfl) (by kernel_rfl) (fun _ _ _ h => h) ⟨Or.inl ⟨by rfl, fun w => by go_simp; rfl⟩, fun _ => rfl⟩ ?_
  simp only [qA, qB, qC, Act.put, qD, qE, qF]
  refine' wpAnyIn_take (i := 24) (v := _) rfl rfl (by kernel_rfl) (by kernel_rfl) (by kernel_rfl) (fun _ _ _ h => h) ⟨Or.inl ⟨by rfl, fun w => by go_simp; rfl⟩, fun _ => rfl⟩ ?_
  simp only [qA, qB, qC, Act.put, qD, qE, qF]
  refine' wpAnyIn_take (i := 26) (v := _) rfl rfl (by kernel_rfl) (by kernel_rfl) (by kernel_rfl) (fun _ _ _ h => h) ⟨Or.inl ⟨by rfl, fun w => by go_simp; rfl⟩, fun _ => rfl⟩ ?_
  simp only [qA, qB, qC, Act.put, qD, qE, qF]
  refine' wpAnyIn_take (i := 27) (v := _) rfl rfl (by kernel_rfl) (by kernel_rfl) (by kernel_rfl) (fun _ _ _ h => h) ⟨Or.inl ⟨by rfl, fun w => by go_simp; rfl⟩, fun _ => rfl⟩ ?_
  simp only [qA, qB, qC, Act.put, qD, qE, qF]
  refine wpAnyIn_ready (rs := [25]) (by kernel_rfl) (by simp) (AllReadyIn.cons rfl (fun K hK => ?_) AllReadyIn.nil)
  go_simp
  refine hK _ _ ?_
  clear hK K
  simp only [qD, qE, qF]
  refine wpAnyIn_ready (rs := [28]) (by kernel_rfl) (by simp) (AllReadyIn.cons rfl (fun K hK => ?_) AllReadyIn.nil)
  go_simp
  refine H3.mono ?_
  rintro e W3 ⟨c, rfl, hR⟩
  refine hK _ _ ?_
  clear hK K
  simp only [qD, qE, qF]
  refine' wpAnyIn_take (i := 29) (v := _) rfl rfl (by kernel_rfl) (by kernel_rfl) (by kernel_rfl) (fun _ _ _ h => h) ⟨Or.inl ⟨by rfl, fun w => by go_simp; rfl⟩, fun _ => rfl⟩ ?_
  simp only [qA, qB, qC, Act.put, qD, qE, qF]
  refine' wpAnyIn_take (i := 30) (v := _) rfl rfl (by kernel_rfl) (by kernel_rfl) (by kernel_rfl) (fun _ _ _ h => h) ⟨Or.inl ⟨by rfl, fun w => by go_simp; rfl⟩, fun _ => rfl⟩ ?_
  simp only [qA, qB, qC, Act.put, qD, qE, qF]
  refine wpAnyIn_done (by kernel_rfl) ?_ _
  gi_wp2
  exact hR
attribute [local go_sem] Oper.semAt_some wide_fn wide_depth
theorem keep_drew (S : Nat → Prop) (W : World) : KeepS S W W.drew := ⟨rfl, rfl, rfl, Nat.le_refl _, fun _ _ _ => rfl⟩
theorem stop_left {go : List KV → Bool} {A pre q : List KV} (h : stopAt go pre A = some q) (B : List KV) : stopAt go pre (A ++ B) = some q := by rw [stopAt_append, h]; rfl
theorem stop_here {go : List KV → Bool} {A pre : List KV} {y : KV} (h : stopAt go pre A = none) (hg : go (pre ++ A ++ [y]) = false) (B : List KV) : stopAt go pre (A ++ y :: B) = some (pre ++ A ++ [y]) := by
 rw [stopAt_append, h, stopAt, if_neg (by rw [hg]; decide)]; rfl
theorem stop_past {go : List KV → Bool} {A pre : List KV} {y : KV} (h : stopAt go pre A = none) (hg : go (pre ++ A ++ [y]) = true) (B : List KV) : stopAt go pre (A ++ y :: B) = stopAt go (pre ++ A ++ [y]) B := by
 rw [stopAt_append, h, stopAt, if_pos hg]; rfl
theorem walkIn (l B : Nat) (go : List KV → Bool) (J Jx : Inv) (hJ : AbidesS B J) (xs : List KV)
  (hY : ∀ k pre x S W, J pre S W → (pre ++ [x]) <+: xs → YieldAt Fence.wide k qP l #[.string x.1, .string x.2] W (Round go J Jx (pre ++ [x]) S W)) (low : ByteArray) (t : BT) :
  ∀ n p pre S W, TreeS S W p t → Up t.list → J pre S W → (pre ++ lfrom t.list low) <+: xs → WalkAt go J Jx low l n p pre (lfrom t.list low) S W := by
 induction t with
 | leaf =>
  intro n p pre S W hT _ hj _
  obtain rfl : p = none := hT
  exact walkNil go J Jx low l n pre S W hj
 | node tl y tr ihl ihr =>
  intro n p pre S W hT hu hj hx
  obtain ⟨b, pl, pr, rfl, hb, hbS, hl, hr⟩ := hT
  have hm := up_mid hu
  obtain ⟨yk, yv⟩ := y
  by_cases hk : kc yk low = -1
  ·have e : lfrom (BT.node tl (yk, yv) tr).list low = lfrom tr.list low := lfrom_low hu hk
   rw [e] at hx ⊢
   exact walkLow low yk yv l n b _ pl pr W _ hk hb ((ihr (n - 1) pr pre S W hr hm.2.1 hj hx).mono fun e W' h => ⟨_, h.1, h⟩)
  ·have e : lfrom (BT.node tl (yk, yv) tr).list low = lfrom tl.list low ++ (yk, yv) :: lfrom tr.list low := lfrom_high hk
   rw [e] at hx ⊢
   generalize lfrom tl.list low = L at *
   generalize lfrom tr.list low = M at *
   have kd := keep_drew S W
   have hxl : (pre ++ L) <+: xs := List.IsPrefix.trans ⟨(yk, yv) :: M, by simp⟩ hx
   have hxy : (pre ++ L ++ [(yk, yv)]) <+: xs := List.IsPrefix.trans ⟨M, by simp⟩ hx
   have H := ihl (n - 1) pl pre S W.drew (hl.keep kd (Grows.refl S W)) hm.1 (hJ.drew hj) hxl
   cases hs : stopAt go pre L with
   | some q =>
    refine walkLeft low yk yv l n b _ pl pr W _ hk hb (H.mono fun e W1 h => ?_)
    obtain ⟨rfl, k1, S1, g1, ha⟩ := h
    rw [hs]
    exact ⟨rfl, by rw [stop_left hs], kd.step k1, S1, g1, after_stop (stop_left hs _) (ha.stop hs)⟩
   | none =>
    cases hg : go (pre ++ L ++ [(yk, yv)]) with
    | false =>
     refine walkHere low yk yv l n b _ pl pr W _ hk hb (H.mono fun e W1 h => ?_)
     obtain ⟨rfl, k1, S1, g1, ha⟩ := h
     rw [hs]
     have k1 := kd.step k1
     obtain ⟨_, d1, d2, _, _⟩ := node_cells (k1.blk hb hbS)
     refine ⟨rfl, d1, d2, (hY (n - 1) _ (yk, yv) S1 W1 (ha.all hs) hxy).mono fun e W2 h => ?_⟩
     obtain ⟨rfl, k2, S2, g2, _, h2⟩ := h
     rw [hg]
     exact ⟨rfl, by rw [stop_here hs hg]; rfl, k1.trans g1 k2, S2, g1.trans g2 k1.size, after_stop (stop_here hs hg _) (h2 hg)⟩
    | true =>
     refine walkAll low yk yv l n b _ pl pr W _ hk hb (H.mono fun e W1 h => ?_)
     obtain ⟨rfl, k1, S1, g1, ha⟩ := h
     rw [hs]
     have k1 := kd.step k1
     obtain ⟨_, d1, d2, _, _⟩ := node_cells (k1.blk hb hbS)
     refine ⟨rfl, d1, d2, (hY (n - 1) _ (yk, yv) S1 W1 (ha.all hs) hxy).mono fun e W2 h => ?_⟩
     obtain ⟨rfl, k2, S2, g2, h1, _⟩ := h
     rw [hg]
     have k3 := k1.trans g1 k2
     have g3 : Grows S S2 W := g1.trans g2 k1.size
     obtain ⟨_, _, _, d3, _⟩ := node_cells (k3.blk hb hbS)
     refine ⟨rfl, d3, (ihr (n - 1) pr _ S2 W2 (hr.keep k3 g3) hm.2.1 (h1 hg) (by simpa using hx)).mono fun e W3 h => ?_⟩
     obtain ⟨rfl, k4, S4, g4, ha⟩ := h
     refine ⟨_, rfl, by rw [stop_past hs hg], k3.trans g3 k4, S4, g3.trans g4 k3.size, ?_⟩
     unfold After at ha ⊢
     rw [stop_past hs hg, show pre ++ (L ++ (yk, yv) :: M) = pre ++ L ++ [(yk, yv)] ++ M by simp]
     exact ha
theorem from1 (l n : Nat) (bn bl : Nat) (p : Option Addr) (low : ByteArray) (W : World) (R : World → Prop) (c0 : W.cell? ⟨bn, 0, none⟩ = some (.pointer p)) (c1 : W.cell? ⟨bl, 0, none⟩ = some (.string low))
  (H1 : CallsIn Fence.wide (n - 1) qP 199 #[.pointer p, .string low, .func (.yield l) #[] #[]] W fun e W' => ∃ c, e = .returned (.bool c) ∧ R W') :
  CallsIn Fence.wide n qP 198 #[.func (.yield l) #[] #[], .pointer (some ⟨bn, 0, none⟩), .pointer (some ⟨bl, 0, none⟩)] W fun e W' => (∃ v, e = .returned v) ∧ R W' := by
 refine callsIn_of_wp Tryz.func198 rfl trivial ?_ rfl
 simp only [Tryz.ntmps198, List.size_toArray, List.length_cons, List.length_nil, Nat.reduceAdd, Nat.reduceSub, Array.replicate_succ, Array.replicate_zero, List.push_toArray, List.append_toArray, List.nil_append, List.cons_append]
 gi_wp2_with (first
  | (gi_at_call 199; refine H1.mono ?_; clear H1; rintro e W1 ⟨c, rfl, hR⟩))
 go_end0
 exact ⟨⟨_, rfl⟩, hR⟩
theorem fromSeq (bn bl : Nat) (o : Nat → Prop) (p : Option Addr) (low : ByteArray) (t : BT) (w : World) (hT : TreeS o w p t) (hu : Up t.list)
  (c0 : w.cell? ⟨bn, 0, none⟩ = some (.pointer p)) (c1 : w.cell? ⟨bl, 0, none⟩ = some (.string low)) :
  SeqOf qP 198 #[.pointer (some ⟨bn, 0, none⟩), .pointer (some ⟨bl, 0, none⟩)] (lfrom t.list low) o w := fun n l go J Jx S W hW hJ _ _ hY h0 hS =>
 from1 l n bn bl p low W _ ((since_of hW).cell c0) ((since_of hW).cell c1)
  ((walkIn l W.heap.size go J Jx hJ _ hY low t (n - 1) p [] S W ((hT.off hS).keep (KeepS.of_below S hW) (Grows.refl S w)) hu h0 (List.prefix_refl _)).mono fun _ _ h => ⟨_, h.1, h.2⟩)
end Go.Proofs.YtkejaepmoabikaaGreatDoor.W
