import Derived.Scope
import Derived.Deep.AppendLies
import Derived.Deep.RegionHeld3
import Derived.Maps.AppendAt
import Derived.Laws.AppendOwn
import Derived.BigQuiet
import Derived.Deep.QuietTactic
import Derived.Test.YtkejaepmoabikaaGreatDoorZ0c
import Derived.Test.YtkejaepmoabikaaGreatDoorZ0b
import Derived.Test.YtkejaepmoabikaaGreatDoorZ0a
namespace Go.Proofs.YtkejaepmoabikaaGreatDoor.W
open Go.RowKit Go.Shelf
open Lib renaming hid → qH
open _root_.Go.Proofs.Tryz renaming prog → qP
set_option maxHeartbeats 1000000
set_option maxRecDepth 100000
attribute [local go_sem] Oper.semAt_some wide_fn wide_depth
def lastp (pf : ByteArray) (q : List KV) : Bool := match q.getLast? with
 | some x => pfx pf x.1
 | none => false
theorem lastp_snoc (pf : ByteArray) (pre : List KV) (x : KV) : lastp pf (pre ++ [x]) = pfx pf x.1 := by simp [lastp]
theorem stop_pfx (pf : ByteArray) (go : List KV → Bool) : ∀ ys pre : List KV,
  (stopAt (fun q => lastp pf q && go q) pre ys = none → ys.takeWhile (fun x => pfx pf x.1) = ys ∧ stopAt go pre ys = none) ∧
  ∀ q, stopAt (fun q => lastp pf q && go q) pre ys = some q → (lastp pf q = true ∧ stopAt go pre (ys.takeWhile (fun x => pfx pf x.1)) = some q) ∨
   (lastp pf q = false ∧ q.dropLast = pre ++ ys.takeWhile (fun x => pfx pf x.1) ∧ stopAt go pre (ys.takeWhile (fun x => pfx pf x.1)) = none)
 | [], pre => ⟨fun _ => ⟨rfl, rfl⟩, fun q h => by cases h⟩
 | y :: ys, pre => by
  have ih := stop_pfx pf go ys (pre ++ [y])
  simp only [stopAt, lastp_snoc]
  cases hp : pfx pf y.1 with
  | false =>
   simp only [Bool.false_and, List.takeWhile_cons, hp]
   exact ⟨fun h => by simp at h, fun q h => by
    simp at h
    subst h
    exact .inr ⟨by rw [lastp_snoc, hp], by simp, rfl⟩⟩
  | true =>
   simp only [Bool.true_and, List.takeWhile_cons, hp, if_true]
   cases hg : go (pre ++ [y]) with
   | false =>
    refine ⟨fun h => by simp at h, fun q h => ?_⟩
    simp at h
    subst h
    exact .inl ⟨by rw [lastp_snoc, hp], by rw [stopAt, if_neg (by rw [hg]; decide)]⟩
   | true =>
    simp only [if_true]
    refine ⟨fun h => ⟨by rw [(ih.1 h).1], (ih.1 h).2⟩, fun q h => ?_⟩
    rcases ih.2 q h with ⟨h1, h2⟩ | ⟨h1, h2, h3⟩
    ·exact .inl ⟨h1, by rw [stopAt, if_pos hg, h2]⟩
    ·exact .inr ⟨h1, by rw [h2]; simp, by rw [stopAt, if_pos hg, h3]⟩
theorem take_prefix {α : Type} {p : α → Bool} : ∀ {q xs : List α}, q <+: xs → (∀ y ∈ q, p y = true) → q <+: xs.takeWhile p
 | [], _, _, _ => ⟨_, rfl⟩
 | a :: q, [], h, _ => by cases h; contradiction
 | a :: q, b :: xs, h, hp => by
  obtain ⟨r, hr⟩ := h
  cases hr
  rw [List.takeWhile_cons, if_pos (hp a (by simp))]
  obtain ⟨u, hu⟩ := take_prefix (q := q) (xs := q ++ r) ⟨r, rfl⟩ (fun y hy => hp y (by simp [hy]))
  exact ⟨u, by rw [show q.append r = q ++ r from rfl, ← hu]; rfl⟩
theorem keepS_new {S : Nat → Prop} {W W' : World} (h : KeepS S W W') {D : Nat} (hD : W.heap.size ≤ D) (ob : Obj) : KeepS S W (W'.putObj D ob) :=
 ⟨h.os, h.tape, h.output, by simpa using h.size, fun i hi hn => (World.putObj_heap_other (by omega)).trans (h.block i hi hn)⟩
theorem roundInRound {n : Nat} {P : Program} {l : Nat} {f : FuncId} {tmps : Array Value} {assign body : Code} {w : World} {R : Ending → World → Prop} (l' : Nat) (h : RoundIn Fence.wide n P l f tmps assign body w R) : RoundIn (Fence.wide.inRound l') n P l f tmps assign body w R := h
theorem fromC (p : Option Addr) (low : ByteArray) (w : World) : Calls qP 172 #[.pointer p, .string low] w fun e w' =>
  e = .returned (.func (.func 198) #[] #[.pointer (some ⟨w.heap.size, 0, none⟩), .pointer (some ⟨w.heap.size + 1, 0, none⟩)]) ∧ w' = (w.alloc (.cells #[.pointer p] 181)).alloc (.cells #[.string low] 9) := by
 go_enter Tryz.func172, Tryz.ntmps172
 go_wp2
 go_ret
 exact ⟨rfl, rfl⟩
theorem allSeq (bn bp : Nat) (o : Nat → Prop) (p : Option Addr) (pf : ByteArray) (t : BT) (w : World) (hT : TreeS o w p t) (hu : Up t.list)
  (c0 : w.cell? ⟨bn, 0, none⟩ = some (.pointer p)) (hb : Blk w bp 9 #[.string pf]) (ho : ¬ o bp) :
  SeqOf qP 171 #[.pointer (some ⟨bn, 0, none⟩), .pointer (some ⟨bp, 0, none⟩)] (lall t.list pf) o w := fun n l go J Jx S W hW hJ hJx hJb hY h0 hS => by
 have d0 := (since_of hW).cell c0
 have hbW := hb.below hW hb.lt
 have d1 : W.cell? ⟨bp, 0, none⟩ = some (.string pf) := hbW.cell 0
 have nbp : ¬ S bp := fun h => ho (hS bp hb.lt h)
 have hTW : TreeS S W p t := (hT.off hS).keep (KeepS.of_below S hW) (Grows.refl S w)
 refine callsIn_of_wp_marks Tryz.func171 rfl trivial ?_ rfl
 simp only [Tryz.ntmps171, List.size_toArray, List.length_cons, List.length_nil, Nat.reduceAdd, Nat.reduceSub, Array.replicate_succ, Array.replicate_zero, List.push_toArray, List.append_toArray, List.nil_append, List.cons_append]
 gi_wp2
 obtain ⟨Wa, hWa⟩ : ∃ Wa, Wa = W.alloc (.cells #[.func (.yield l) #[] #[]] 69) := ⟨_, rfl⟩
 rw [← hWa]
 have za : Wa.heap.size = W.heap.size + 1 := by rw [hWa]; simp
 have ba : Below W.heap.size W Wa := by rw [hWa]; exact (Below.refl _ W).alloc (Nat.le_refl _) _
 have ea : Blk Wa W.heap.size 69 #[.func (.yield l) #[] #[]] := by rw [hWa]; exact Blk.new W _ _
 clear hWa
 have d0a := (since_of ba).cell d0
 have d1a := (since_of ba).cell d1
 refine wpIn_wide.2 (wp_scope_straight ((wpIn_wide (n := n)).1 ?_))
 gi_wp2
 refine wpIn_label ?_
 gi_wp2_with (gi_at_call 172; refine (callsIn_wide.2 (fromC _ _ _)).mono ?_; rintro e w' ⟨rfl, rfl⟩)
 obtain ⟨W3, hW3⟩ : ∃ W3, W3 = (Wa.alloc (.cells #[.pointer p] 181)).alloc (.cells #[.string pf] 9) := ⟨_, rfl⟩
 rw [← hW3]
 have z3 : W3.heap.size = W.heap.size + 1 + 1 + 1 := by rw [hW3]; simp [za]
 have b3 : Below W.heap.size W W3 := by rw [hW3]; exact (ba.alloc (by omega) _).alloc (by simp; omega) _
 have e0 : Blk W3 W.heap.size 69 #[.func (.yield l) #[] #[]] := by rw [hW3]; exact (ea.alloc _).alloc _
 have e1 : W3.cell? ⟨W.heap.size + 1, 0, none⟩ = some (.pointer p) := by
  rw [hW3, ← za]
  exact ((Blk.new Wa 181 #[.pointer p]).alloc (.cells #[.string pf] 9)).cell 0
 have e2 : W3.cell? ⟨W.heap.size + 1 + 1, 0, none⟩ = some (.string pf) := by
  have := Blk.new (Wa.alloc (.cells #[.pointer p] 181)) 9 #[.string pf]
  rw [World.size_alloc, za, ← hW3] at this
  exact this.cell 0
 have e3 : Blk W3 bp 9 #[.string pf] := hbW.below b3 hbW.lt
 have nS : ¬ S W.heap.size := fun h => by have := hJb _ _ _ h0 _ h; omega
 have lb := hbW.lt
 clear hW3
 refine range_seq (gf := 198) (lb := #[.pointer (some ⟨W.heap.size + 1, 0, none⟩), .pointer (some ⟨W.heap.size + 1 + 1, 0, none⟩)]) (xs := lfrom t.list pf) (o := S) (w0 := W3) rfl (enters_of Tryz.func198 (by kernel_rfl) rfl)
  (fromSeq (W.heap.size + 1) (W.heap.size + 1 + 1) S p pf t W3 (hTW.keep (KeepS.of_below S b3) (Grows.refl S W)) hu e1 e2) (Below.refl _ _) rfl
  (fun q => lastp pf q && go q)
  (fun pre S' W' => (∀ y ∈ pre, pfx pf y.1 = true) ∧ J pre S' W' ∧ Blk W' W.heap.size 69 #[.func (.yield l) #[] #[]] ∧ Blk W' bp 9 #[.string pf] ∧ ¬ S' W.heap.size ∧ ¬ S' bp)
  (fun c q S' W' => c = .exit 0 ∧ (lastp pf q = true → Jx q S' W') ∧ (lastp pf q = false → J q.dropLast S' W'))
  (fun pre S' A B row hs hg hr => ⟨hs.1, hJ _ _ _ _ _ hs.2.1 hg (fun r e => ⟨by have := (hr r e).1; omega, (hr r e).2⟩), hs.2.2.1.grown hg (fun e => by have := (hr _ e.symm).1; omega), hs.2.2.2.1.grown hg (fun e => by have := (hr _ e.symm).1; omega), hs.2.2.2.2⟩)
  (fun c pre S' A B row hs hg hr => ⟨hs.1, fun h => hJx _ _ _ _ _ (hs.2.1 h) hg (fun r e => ⟨by have := (hr r e).1; omega, (hr r e).2⟩), fun h => hJ _ _ _ _ _ (hs.2.2 h) hg (fun r e => ⟨by have := (hr r e).1; omega, (hr r e).2⟩)⟩)
  (fun pre S' W' hs => hJb _ _ _ hs.2.1) S
  ⟨fun y hy => (by cases hy), hJ.below h0 b3, e0, e3, nS, nbp⟩ (fun i _ h => h)
  (fun x => { tmps := #[.func (.yield l) #[] #[], .pointer (some ⟨bn, 0, none⟩), .pointer (some ⟨bp, 0, none⟩), .pointer (some ⟨W.heap.size, 0, none⟩), .string x.1, .string x.2, .pointer p, .string pf, .func (.func 198) #[] #[.pointer (some ⟨W.heap.size + 1, 0, none⟩), .pointer (some ⟨W.heap.size + 1 + 1, 0, none⟩)], .string x.1, .string x.2, undef, undef, undef, undef, undef, undef, undef, undef, undef, undef, undef], defers := [] }) ?assign ?body ?done ?stop
 case assign =>
  intro l' k x W' K hK
  gi_wp2
  exact hK
 case body =>
  rintro l' k pre x S' W' ⟨hp, hj, f0, f1, n0, n1⟩ hpre
  obtain ⟨xk, xv⟩ := x
  have g0 : W'.cell? ⟨W.heap.size, 0, none⟩ = some (.func (.yield l) #[] #[]) := f0.cell 0
  have g1 : W'.cell? ⟨bp, 0, none⟩ = some (.string pf) := f1.cell 0
  have hx : pfx pf xk = true → (pre ++ [(xk, xv)]) <+: lall t.list pf := fun h => by
   rw [← lall_is hu]
   exact take_prefix hpre (fun y hy => by
    simp at hy
    rcases hy with hy | rfl
    ·exact hp y hy
    ·exact h)
  have HP := qH (fun U => hasPrefix xk pf U)
  have HL : lastp pf (pre ++ [(xk, xv)]) = pfx pf xk := lastp_snoc pf pre (xk, xv)
  cases hpx : pfx pf xk with
  | false =>
   rw [hpx] at HP HL
   gi_wp2_with (gi_at_call 173; refine (CallsIn.inRound l' (callsIn_wide.2 (HP.out _))).mono ?_; rintro e w' ⟨rfl, rfl⟩)
   exact ⟨by simp only [HL, Bool.false_and], KeepS.refl _ _, S', Grows.refl _ _, rfl, fun h => (by rw [HL] at h; cases h), fun _ => by simpa using hj⟩
  | true =>
   rw [hpx] at HP HL
   obtain ⟨fn, tmps, assign, body, hy, hR⟩ := hY (k - 1) pre (xk, xv) S' W' hj (hx hpx)
   unfold Round at hR
   cases hg : go (pre ++ [(xk, xv)]) with
   | true =>
    rw [hg] at hR
    gi_wp2_with (gi_at_call 173; refine (CallsIn.inRound l' (callsIn_wide.2 (HP.out _))).mono ?_; rintro e w' ⟨rfl, rfl⟩)
    refine (roundInRound l' hR).mono ?_
    rintro e W4 ⟨rfl, k4, S4, g4, h4, _⟩
    gi_wp2
    exact ⟨by simp only [HL, hg, Bool.and_self], k4, S4, g4, (fun y hy => by
     simp at hy
     rcases hy with hy | rfl
     ·exact hp y hy
     ·exact hpx), h4 trivial, k4.blk f0 n0, k4.blk f1 n1, g4.not f0.lt n0, g4.not f1.lt n1⟩
   | false =>
    rw [hg] at hR
    gi_wp2_with (gi_at_call 173; refine (CallsIn.inRound l' (callsIn_wide.2 (HP.out _))).mono ?_; rintro e w' ⟨rfl, rfl⟩)
    refine (roundInRound l' hR).mono ?_
    rintro e W4 ⟨rfl, k4, S4, g4, _, h4⟩
    gi_wp2
    exact ⟨by simp only [HL, hg, Bool.and_false], k4, S4, g4, rfl, fun _ => h4 trivial, fun h => by rw [HL] at h; cases h⟩
 case done =>
  rintro D S' W' hD hs k4 g4 nD ⟨_, hj, _⟩ hK
  obtain ⟨h1, h2⟩ := (stop_pfx pf go (lfrom t.list pf) []).1 hs
  rw [lall_is hu] at h1
  gi_wp2
  refine ⟨by simp, .inl ⟨_, _, rfl, run_takeDeferred hK, ?_⟩⟩
  refine ⟨_, results_none rfl _ _ _, ⟨_, rfl⟩, keepS_new ((KeepS.of_below S b3).step k4) (by omega) _, S', fun i hi => (g4 i hi).imp_right (fun h => by omega), ?_⟩
  rw [h1]
  exact after_all h2 (hJ _ _ _ _ _ hj (grownBy_putObj' W' _ _) (fun r e => by cases e; exact ⟨by omega, nD⟩))
 case stop =>
  rintro D c q S' W' hD hs k4 g4 nD ⟨rfl, hx1, hx2⟩ hK
  have h1 := (stop_pfx pf go (lfrom t.list pf) []).2 q hs
  rw [lall_is hu] at h1
  gi_wp2
  refine ⟨by simp, .inl ⟨_, _, rfl, run_takeDeferred hK, ?_⟩⟩
  refine ⟨_, results_none rfl _ _ _, ⟨_, rfl⟩, keepS_new ((KeepS.of_below S b3).step k4) (by omega) _, S', fun i hi => (g4 i hi).imp_right (fun h => by omega), ?_⟩
  rcases h1 with ⟨h1, h2⟩ | ⟨h1, h2, h3⟩
  ·exact after_stop h2 (hJx _ _ _ _ _ (hx1 h1) (grownBy_putObj' W' _ _) (fun r e => by cases e; exact ⟨by omega, nD⟩))
  ·refine after_all h3 ?_
   rw [← h2]
   exact hJ _ _ _ _ _ (hx2 h1) (grownBy_putObj' W' _ _) (fun r e => by cases e; exact ⟨by omega, nD⟩)
end Go.Proofs.YtkejaepmoabikaaGreatDoor.W
namespace Go.Proofs.YtkejaepmoabikaaGreatDoor.W
open Go.RowKit
open Lib renaming hid → qH
open _root_.Go.Proofs.Tryz renaming prog → qP
set_option maxHeartbeats 1000000
def IsStore (w : World) (b : Nat) (L : List KV) : Prop := ∃ p t, Blk w b 183 #[.pointer p, .int .i64 L.length] ∧ IsTree w p t ∧ t.list = L ∧ Up L
def AStore (w : World) (b : Nat) : Prop := ∃ cs, Blk w b 183 cs
theorem IsStore.a {w : World} {b : Nat} {L : List KV} (h : IsStore w b L) : AStore w b := by obtain ⟨p, t, hb, _⟩ := h; exact ⟨_, hb⟩
theorem IsStore.lt {w : World} {b : Nat} {L : List KV} (h : IsStore w b L) : b < w.heap.size := by obtain ⟨p, t, hb, _⟩ := h; exact hb.lt
theorem IsStore.up {w : World} {b : Nat} {L : List KV} (h : IsStore w b L) : Up L := by obtain ⟨p, t, _, _, _, hu⟩ := h; exact hu
theorem blk_type {w : World} {b : Nat} {t u : TypeId} {cs ds : Array Value} (h : Blk w b t cs) (k : Blk w b u ds) : t = u := by
 unfold Blk at h k
 rw [h] at k
 cases k
 rfl
theorem kept_store {w w' : World} {b : Nat} (hb : AStore w b) (h : w.grownBy w' (some b)) : Kept w w' := fun g cs hg => hg.grown h (fun e => by
 cases e
 obtain ⟨ds, hd⟩ := hb
 have := blk_type hg hd
 revert this
 decide)
theorem IsStore.below {w w' : World} {b : Nat} {L : List KV} (h : IsStore w b L) (hb : Below w.heap.size w w') : IsStore w' b L := by
 obtain ⟨p, t, h1, h2, h3⟩ := h
 exact ⟨p, t, h1.below hb h1.lt, h2.below hb, h3⟩
theorem newC (w : World) : Calls qP 68 #[] w fun e w' => e = .returned (.pointer (some ⟨w.heap.size, 0, none⟩)) ∧ IsStore w' w.heap.size [] ∧ Below w.heap.size w w' := by
 go_enter Tryz.func68, Tryz.ntmps68
 go_wp2
 go_ret
 exact ⟨rfl, ⟨none, .leaf, Blk.new w _ _, rfl, rfl, List.Pairwise.nil⟩, (Below.refl _ _).alloc (Nat.le_refl _) _⟩
theorem lenC (b : Nat) (L : List KV) (w : World) (h : IsStore w b L) : Calls qP 138 #[.pointer (some ⟨b, 0, none⟩)] w fun e w' => e = .returned (.int .i64 L.length) ∧ w' = w := by
 obtain ⟨p, t, hb, _⟩ := h
 have c1 : w.cell? ⟨b, 1, none⟩ = some (.int .i64 L.length) := hb.cell 1
 go_enter Tryz.func138, Tryz.ntmps138
 go_wp2
 go_ret
 exact ⟨rfl, rfl⟩
theorem treeC (b : Nat) (p : Option Addr) (v : Value) (w : World) (hb : Blk w b 183 #[.pointer p, v]) : Calls qP 132 #[.pointer (some ⟨b, 0, none⟩)] w fun e w' => e = .returned (.pointer p) ∧ w' = w := by
 have c0 : w.cell? ⟨b, 0, none⟩ = some (.pointer p) := hb.cell 0
 go_enter Tryz.func132, Tryz.ntmps132
 go_wp2
 go_ret
 exact ⟨rfl, rfl⟩
theorem sGetAt (s p : Option Addr) (k : ByteArray) (t : BT) (w : World) (H : Calls qP 132 #[.pointer s] w fun e w' => e = .returned (.pointer p) ∧ w' = w) (hT : IsTree w p t) (hu : Up t.list) :
  Calls qP 84 #[.pointer s, .string k] w fun e w' => e = .returned (retGet (lget t.list k)) ∧ w' = w := by
 have H1 := qH H
 have H2 := qH (getC k t p w hT hu)
 clear H hT hu
 unfold retGet at *
 generalize (lget t.list k).getD ⟨#[]⟩ = v at *
 generalize (lget t.list k).isSome = c at *
 go_enter Tryz.func84, Tryz.ntmps84
 go_wp2_with fail
 refine H1.out.mono ?_
 rintro e w' ⟨rfl, rfl⟩
 go_wp2_with fail
 refine H2.out.mono ?_
 rintro e w' ⟨rfl, rfl⟩
 go_wp2
 go_returns
 exact ⟨rfl, rfl⟩
theorem sGet (b : Nat) (k : ByteArray) (L : List KV) (w : World) (h : IsStore w b L) : Calls qP 84 #[.pointer (some ⟨b, 0, none⟩), .string k] w fun e w' => e = .returned (retGet (lget L k)) ∧ w' = w := by
 obtain ⟨p, t, hb, hT, rfl, hu⟩ := h
 exact sGetAt _ p k t w (treeC b p _ w hb) hT hu
theorem sSet (b : Nat) (k v : ByteArray) (L : List KV) (w : World) (h : IsStore w b L) (hz : L.length + 1 < 4611686018427387904) :
  Calls qP 180 #[.pointer (some ⟨b, 0, none⟩), .string k, .string v] w fun e w' => e = .returned (.bool (!(lget L k).isSome)) ∧ IsStore w' b (lset L k v) ∧ w.grownBy w' (some b) := by
 obtain ⟨p, t, hb, hT, rfl, hu⟩ := h
 have H1 := qH (getC k t p w hT hu)
 have H2 := qH (withC (k, v) t p w hT hu hz)
 have HB := qH hb
 have hsz := lset_size hu k v
 have HU := qH (lset_up (k := k) (v := v) hu)
 have c0 : w.cell? ⟨b, 0, none⟩ = some (.pointer p) := hb.cell 0
 clear hb hT hu
 unfold retGet at *
 generalize (lget t.list k).getD ⟨#[]⟩ = r at *
 have hw : IntKind.i64.wrap ((t.list.length : Int) + 1) = (t.list.length : Int) + 1 := IntWalk.i64_in _ (by omega)
 cases hc : (lget t.list k).isSome with
 | true =>
  rw [hc] at H1 hsz
  simp only [if_true] at hsz
  go_enter Tryz.func180, Tryz.ntmps180
  go_wp2_with fail
  refine H1.out.mono ?_
  rintro e w' ⟨rfl, rfl⟩
  go_wp2_with fail
  refine H2.out.mono ?_
  rintro e w1 ⟨p', t', rfl, hT', hL', bel⟩
  have hb1 := HB.out.below bel HB.out.lt
  have f0 : w1.frozen? ⟨b, 0, none⟩ = false := hb1.frozen 0
  have d0 : w1.cell? ⟨b, 0, none⟩ = some (.pointer p) := hb1.cell 0
  go_wp2
  go_ret
  have g1 : w'.grownBy (w1.setCell ⟨b, 0, none⟩ (.pointer p')) (some b) := only_set (only_of_below (only_refl w' _) bel (Nat.le_refl _)) _ _
  have hb2 := hb1.set_ 0 (.pointer p')
  refine ⟨rfl, ⟨p', t', ?_, hT'.kept (kept_store ⟨_, hb1⟩ (only_set (only_refl w1 _) _ _)), hL', HU.out⟩, g1⟩
  rw [hsz]
  exact hb2
 | false =>
  rw [hc] at H1 hsz
  simp only [Bool.false_eq_true, if_false] at hsz
  go_enter Tryz.func180, Tryz.ntmps180
  go_wp2_with fail
  refine H1.out.mono ?_
  rintro e w' ⟨rfl, rfl⟩
  go_wp2_with fail
  refine H2.out.mono ?_
  rintro e w1 ⟨p', t', rfl, hT', hL', bel⟩
  have hb1 := HB.out.below bel HB.out.lt
  have f0 : w1.frozen? ⟨b, 0, none⟩ = false := hb1.frozen 0
  have d0 : w1.cell? ⟨b, 0, none⟩ = some (.pointer p) := hb1.cell 0
  have hb2 := hb1.set_ 0 (.pointer p')
  have f1 : (w1.setCell ⟨b, 0, none⟩ (.pointer p')).frozen? ⟨b, 1, none⟩ = false := hb2.frozen 1
  have d1 : (w1.setCell ⟨b, 0, none⟩ (.pointer p')).cell? ⟨b, 1, none⟩ = some (.int .i64 t.list.length) := hb2.cell 1
  go_wp2
  go_ret
  have g1 : w'.grownBy ((w1.setCell ⟨b, 0, none⟩ (.pointer p')).setCell ⟨b, 1, none⟩ (.int .i64 ((t.list.length : Int) + 1))) (some b) := only_set (only_set (only_of_below (only_refl w' _) bel (Nat.le_refl _)) _ _) _ _
  have hb3 := hb2.set_ 1 (.int .i64 ((t.list.length : Int) + 1))
  refine ⟨rfl, ⟨p', t', ?_, hT'.kept (kept_store ⟨_, hb1⟩ (only_set (only_set (only_refl w1 _) _ _) _ _)), hL', HU.out⟩, g1⟩
  rw [hsz]
  exact hb3
theorem allAt (s p : Option Addr) (pf : ByteArray) (w : World) (H : ∀ W, Since w W → Calls qP 132 #[.pointer s] W fun e w' => e = .returned (.pointer p) ∧ w' = W) :
  Calls qP 139 #[.pointer s, .string pf] w fun e w' => e = .returned (.func (.func 171) #[] #[.pointer (some ⟨w.heap.size + 1, 0, none⟩), .pointer (some ⟨w.heap.size, 0, none⟩)]) ∧ w' = (w.alloc (.cells #[.string pf] 9)).alloc (.cells #[.pointer p] 181) := by
 have H1 := qH (H (w.alloc (.cells #[.string pf] 9)) (since_of ((Below.refl _ _).alloc (Nat.le_refl _) _)))
 clear H
 go_enter Tryz.func139, Tryz.ntmps139
 go_wp2_with fail
 refine H1.out.mono ?_
 rintro e w' ⟨rfl, rfl⟩
 go_wp2
 go_ret
 exact ⟨rfl, rfl⟩
def Goes (L : List KV) (w : World) (e : Ending) (w' : World) : Prop := ∃ lb, e = .returned (.func (.func 171) #[] lb) ∧ Below w.heap.size w w' ∧
 ∀ (o : Nat → Prop), (∀ i, o i → w'.heap.size ≤ i ∨ ∃ u cs, Blk w i u cs ∧ u ≠ 238) → SeqOf qP 171 lb L o w'
theorem allGoes (s p : Option Addr) (pf : ByteArray) (t : BT) (w : World) (H : ∀ W, Since w W → Calls qP 132 #[.pointer s] W fun e w' => e = .returned (.pointer p) ∧ w' = W) (hT : IsTree w p t) (hu : Up t.list) :
  Calls qP 139 #[.pointer s, .string pf] w (Goes (lall t.list pf) w) := by
 refine (allAt s p pf w H).mono fun e w' ⟨he, hw⟩ => ⟨_, he, ?_, fun o ho => ?_⟩
 ·rw [hw]; exact ((Below.refl _ _).alloc (Nat.le_refl _) _).alloc (by simp) _
 ·have hB : Below w.heap.size w w' := by rw [hw]; exact ((Below.refl _ _).alloc (Nat.le_refl _) _).alloc (by simp) _
  have h0 : Blk w' w.heap.size 9 #[.string pf] := by rw [hw]; exact (Blk.new w _ _).alloc _
  have h1 : w'.cell? ⟨w.heap.size + 1, 0, none⟩ = some (.pointer p) := by
   have := Blk.new (w.alloc (.cells #[.string pf] 9)) 181 #[.pointer p]
   rw [World.size_alloc, ← hw] at this
   exact this.cell 0
  have n0 : ¬ o w.heap.size := fun h => by
   rcases ho _ h with h | ⟨u, cs, hb, _⟩
   ·have := h0.lt; omega
   ·have := hb.lt; omega
  refine allSeq _ _ o p pf t w' (IsTree.off (fun g cs hg h => ?_) (hT.below hB)) hu h1 h0 n0
  rcases ho _ h with h | ⟨u, ds, hb, hne⟩
  ·have := hg.lt; omega
  ·exact hne (blk_type (hb.below hB hb.lt) hg)
theorem sAll (b : Nat) (pf : ByteArray) (L : List KV) (w : World) (h : IsStore w b L) : Calls qP 139 #[.pointer (some ⟨b, 0, none⟩), .string pf] w (Goes (lall L pf) w) := by
 obtain ⟨p, t, hb, hT, rfl, hu⟩ := h
 exact allGoes _ p pf t w (fun W hs => treeC b p _ W (hb.below hs.below hb.lt)) hT hu
end Go.Proofs.YtkejaepmoabikaaGreatDoor.W
namespace Go.Proofs.YtkejaepmoabikaaGreatDoor.W
theorem lset_cons (x : KV) (l : List KV) (k v : ByteArray) : lset (x :: l) k v = if kc k x.1 = -1 then (k, v) :: x :: l else if kc k x.1 = 0 then (k, v) :: l else x :: lset l k v := by
 simp only [lset]
theorem lset_back {l : List KV} (hu : Up l) {k v o : ByteArray} (h : lget l k = some o) : lset (lset l k v) k o = l := by
 induction l with
 | nil => cases h
 | cons x l ih =>
  have hu1 : Up l := (List.pairwise_cons.1 hu).2
  have hx : ∀ y ∈ l, kc x.1 y.1 = -1 := fun y hy => (List.pairwise_cons.1 hu).1 y hy
  rcases kc_cases k x.1 with c | c | c
  ·have : lget (x :: l) k = none := lget_none (fun y hy => by
    rcases List.mem_cons.1 hy with rfl | hy
    ·exact (kc_ne c).symm
    ·exact (kc_ne (kc_trans c (hx y hy))).symm)
   rw [this] at h; cases h
  ·have e := kc_zero c
   subst e
   rw [lget_cons_eq rfl] at h
   cases h
   rw [lset_cons, if_neg (by rw [c]; decide), if_pos c, lset_cons, if_neg (by rw [kc_self]; decide), if_pos (kc_self _)]
  ·rw [lget_cons_ne (fun e => by rw [e, kc_self] at c; cases c)] at h
   rw [lset_cons, if_neg (by rw [c]; decide), if_neg (by rw [c]; decide), lset_cons, if_neg (by rw [c]; decide), if_neg (by rw [c]; decide), ih hu1 h]
theorem ldel_back {l : List KV} (hu : Up l) {k v : ByteArray} (h : lget l k = none) : ldel (lset l k v) k = l := by
 induction l with
 | nil => simp [lset, ldel]
 | cons x l ih =>
  have hu1 : Up l := (List.pairwise_cons.1 hu).2
  have hne : x.1 ≠ k := fun e => by rw [lget_cons_eq e] at h; cases h
  have h1 : lget l k = none := by rwa [lget_cons_ne hne] at h
  rcases kc_cases k x.1 with c | c | c
  ·rw [lset_cons, if_pos c, ldel_cons_eq rfl, ldel_absent h]
  ·exact absurd (kc_zero c).symm hne
  ·rw [lset_cons, if_neg (by rw [c]; decide), if_neg (by rw [c]; decide), ldel_cons_ne hne, ih hu1 h1]
structure Undo where
 k : ByteArray
 v : ByteArray
 p : Bool
def was (l : List KV) (k : ByteArray) : Undo := ⟨k, (lget l k).getD ⟨#[]⟩, (lget l k).isSome⟩
def rest (u : Undo) (l : List KV) : List KV := if u.p then lset l u.k u.v else ldel l u.k
def unwind (l : List KV) (us : List Undo) : List KV := us.foldr rest l
theorem rest_set {l : List KV} (hu : Up l) (k v : ByteArray) : rest (was l k) (lset l k v) = l := by
 unfold rest was
 cases h : lget l k with
 | none => exact ldel_back hu h
 | some o => exact lset_back hu h
theorem unwind_append (l : List KV) (a b : List Undo) : unwind l (a ++ b) = unwind (unwind l b) a := List.foldr_append
def levs (l : List KV) (us : List Undo) (ns : List Nat) : List (List KV) := ns.map fun n => unwind l (us.drop n)
def Steps (m : Nat) (ns : List Nat) : Prop := ns.Pairwise (· ≤ ·) ∧ ∀ n ∈ ns, n ≤ m
theorem levs_len (l : List KV) (us : List Undo) (ns : List Nat) : (levs l us ns).length = ns.length := by simp [levs]
theorem levs_change {l l' : List KV} {us : List Undo} {u : Undo} {ns : List Nat} (h : Steps us.length ns) (hr : rest u l' = l) : levs l' (us ++ [u]) ns = levs l us ns := by
 unfold levs
 refine List.map_congr_left fun n hn => ?_
 rw [List.drop_append_of_le_length (h.2 n hn), unwind_append]
 show unwind (rest u l') _ = _
 rw [hr]
theorem levs_begin (l : List KV) (us : List Undo) (ns : List Nat) : levs l us (ns ++ [us.length]) = levs l us ns ++ [l] := by simp [levs, unwind]
theorem steps_begin {us : List Undo} {ns : List Nat} (h : Steps us.length ns) : Steps us.length (ns ++ [us.length]) := by
 refine ⟨List.pairwise_append.2 ⟨h.1, by simp, fun a ha b hb => by simp at hb; subst hb; exact h.2 a ha⟩, fun n hn => ?_⟩
 simp at hn
 rcases hn with hn | rfl
 ·exact h.2 n hn
 ·exact Nat.le_refl _
theorem steps_more {m m' : Nat} {ns : List Nat} (h : Steps m ns) (hm : m ≤ m') : Steps m' ns := ⟨h.1, fun n hn => Nat.le_trans (h.2 n hn) hm⟩
theorem steps_init {m n : Nat} {ns : List Nat} (h : Steps m (ns ++ [n])) : Steps n ns ∧ n ≤ m :=
 ⟨⟨(List.pairwise_append.1 h.1).1, fun a ha => (List.pairwise_append.1 h.1).2.2 a ha n (by simp)⟩, h.2 n (by simp)⟩
theorem levs_last (l : List KV) (us : List Undo) (ns : List Nat) (n : Nat) : levs l us (ns ++ [n]) = levs l us ns ++ [unwind l (us.drop n)] := by simp [levs]
end Go.Proofs.YtkejaepmoabikaaGreatDoor.W
namespace Go.Proofs.YtkejaepmoabikaaGreatDoor.W
open Go.RowKit
open Lib renaming hid → qH
open _root_.Go.Proofs.Tryz renaming prog → qP
set_option maxHeartbeats 2000000
section
variable {w w' : World} {base : Nat} {e : TypeId} {size : Nat} {v : Value} {n : Nat} {xs : List Value}
theorem own_tag (h : w.ownsRow base e size v n xs) {g : Nat} (hg : v.ownBlock = some g) : ∃ cs, Blk w g e cs := by
 rcases h.2 with ⟨rfl, _⟩ | ⟨g', cap, cur, rfl, _, hb, _⟩
 ·cases hg
 ·cases hg; exact ⟨cur, hb⟩
theorem own_keep (h : w.ownsRow base e size v n xs) (hb : ∀ g, v.ownBlock = some g → w'.heap[g]? = w.heap[g]?) : w'.ownsRow base e size v n xs := by
 rcases h with ⟨h1, ⟨rfl, h2⟩ | ⟨g, cap, cur, rfl, h2, h3, h4⟩⟩
 ·exact ⟨h1, .inl ⟨rfl, h2⟩⟩
 ·exact ⟨h1, .inr ⟨g, cap, cur, rfl, h2, (hb g rfl).trans h3, h4⟩⟩
theorem own_slice (h : w.ownsRow base e size v n xs) : ∃ A cap, v = .slice A n cap ∧ n ≤ cap := by
 rcases h.2 with ⟨rfl, rfl⟩ | ⟨g, cap, cur, rfl, _, _, hc, _⟩
 ·exact ⟨none, 0, rfl, Nat.le_refl _⟩
 ·exact ⟨_, cap, rfl, hc⟩
theorem own_take (h : w.ownsRow base e 1 v n xs) {k : Nat} (hk : k ≤ n) (h0 : 0 < n) : ∃ g cap, v = .slice (some ⟨g, 0, none⟩) n cap ∧ w.ownsRow base e 1 (.slice (some ⟨g, 0, none⟩) k cap) k (xs.take k) ∧ n ≤ cap := by
 rcases h with ⟨h1, ⟨rfl, h2⟩ | ⟨g, cap, cur, rfl, h2, h3, h4, h5, h6, h7⟩⟩
 ·omega
 ·refine ⟨g, cap, rfl, ⟨by rw [List.length_take]; omega, .inr ⟨g, cap, cur, rfl, h2, h3, by omega, h5, h6, ?_⟩⟩, h4⟩
  rw [← h7, Nat.mul_one, Nat.mul_one, List.take_take, Nat.min_eq_left hk]
end
def undoV (u : Undo) : Value := .func (.func 203) #[.agg #[.string u.k, .string u.v, .bool u.p]] #[]
def undoVals (us : List Undo) : List Value := us.map undoV
def intVals (ns : List Nat) : List Value := ns.map fun n : Nat => Value.int .i64 (n : Int)
structure JAt (w : World) (j b : Nat) (u s : Value) (L : List KV) (us : List Undo) (ns : List Nat) : Prop where
 blk : Blk w j 133 #[.pointer (some ⟨b, 0, none⟩), u, s]
 store : IsStore w b L
 undos : w.ownsRow 0 263 1 u us.length (undoVals us)
 starts : w.ownsRow 0 3 1 s ns.length (intVals ns)
def jset (j b : Nat) (u s : Value) : Nat → Prop := fun i => i = j ∨ i = b ∨ u.ownBlock = some i ∨ s.ownBlock = some i
section
variable {w w' : World} {j b : Nat} {u s u' s' : Value} {L : List KV} {us : List Undo} {ns : List Nat}
theorem JAt.tag (h : JAt w j b u s L us ns) {i : Nat} (hi : jset j b u s i) : ∃ t cs, Blk w i t cs ∧ t ≠ 238 := by
 rcases hi with rfl | rfl | hi | hi
 ·exact ⟨_, _, h.blk, by decide⟩
 ·obtain ⟨cs, hc⟩ := h.store.a
  exact ⟨_, cs, hc, by decide⟩
 ·obtain ⟨cs, hc⟩ := own_tag h.undos hi
  exact ⟨_, cs, hc, by decide⟩
 ·obtain ⟨cs, hc⟩ := own_tag h.starts hi
  exact ⟨_, cs, hc, by decide⟩
theorem JAt.bound (h : JAt w j b u s L us ns) {i : Nat} (hi : jset j b u s i) : i < w.heap.size := by
 obtain ⟨t, cs, hb, _⟩ := h.tag hi
 exact hb.lt
theorem JAt.kept (h : JAt w j b u s L us ns) (k : KeepS (jset j b u s) w w') : Kept w w' := fun g cs hg => by
 refine k.blk hg fun hi => ?_
 obtain ⟨t, ds, hb, hne⟩ := h.tag hi
 exact hne (blk_type hb hg)
theorem JAt.moved (h : JAt w j b u s L us ns) (hk : Kept w w') (hb : ∀ i, jset j b u s i → w'.heap[i]? = w.heap[i]?) : JAt w' j b u s L us ns := by
 refine ⟨(hb j (.inl rfl)).trans h.blk, ?_, own_keep h.undos (fun g hg => hb g (.inr (.inr (.inl hg)))), own_keep h.starts (fun g hg => hb g (.inr (.inr (.inr hg))))⟩
 obtain ⟨p, t, h1, h2, h3⟩ := h.store
 exact ⟨p, t, (hb b (.inr (.inl rfl))).trans h1, h2.kept hk, h3⟩
theorem JAt.below (h : JAt w j b u s L us ns) (hb : Below w.heap.size w w') : JAt w' j b u s L us ns :=
 h.moved (fun _ _ hg => hg.below hb hg.lt) (fun i hi => hb.block i (h.bound hi))
theorem JAt.nj (h : JAt w j b u s L us ns) : j ≠ b ∧ u.ownBlock ≠ some j ∧ s.ownBlock ≠ some j ∧ u.ownBlock ≠ some b ∧ s.ownBlock ≠ some b := by
 obtain ⟨cs, hc⟩ := h.store.a
 refine ⟨fun e => ?_, fun e => ?_, fun e => ?_, fun e => ?_, fun e => ?_⟩
 ·subst e; have := blk_type h.blk hc; revert this; decide
 ·obtain ⟨ds, hd⟩ := own_tag h.undos e; have := blk_type h.blk hd; revert this; decide
 ·obtain ⟨ds, hd⟩ := own_tag h.starts e; have := blk_type h.blk hd; revert this; decide
 ·obtain ⟨ds, hd⟩ := own_tag h.undos e; have := blk_type hc hd; revert this; decide
 ·obtain ⟨ds, hd⟩ := own_tag h.starts e; have := blk_type hc hd; revert this; decide
theorem JAt.apart (h : JAt w j b u s L us ns) {g : Nat} (h1 : u.ownBlock = some g) (h2 : s.ownBlock = some g) : False := by
 obtain ⟨cs, hc⟩ := own_tag h.undos h1
 obtain ⟨ds, hd⟩ := own_tag h.starts h2
 have := blk_type hc hd
 revert this
 decide
end
def JStep (w : World) (j b : Nat) (u s : Value) (L : List KV) (us : List Undo) (ns : List Nat) (w' : World) : Prop :=
 ∃ u' s', JAt w' j b u' s' L us ns ∧ KeepS (jset j b u s) w w' ∧ Grows (jset j b u s) (jset j b u' s') w
section
variable {w w1 w2 : World} {j b : Nat} {u s u' s' : Value} {L L' : List KV} {us us' : List Undo} {ns ns' : List Nat}
theorem JStep.same (h : JAt w j b u s L us ns) : JStep w j b u s L us ns w := ⟨u, s, h, KeepS.refl _ _, Grows.refl _ _⟩
theorem JAt.stored (h : JAt w j b u s L us ns) (hs : IsStore w1 b L') (hg : w.grownBy w1 (some b)) : JStep w j b u s L' us ns w1 := by
 obtain ⟨n1, n2, n3, n4, n5⟩ := h.nj
 refine ⟨u, s, ⟨h.blk.grown hg (fun e => n1 (by cases e; rfl)), hs, own_keep h.undos (fun g e => ?_), own_keep h.starts (fun g e => ?_)⟩, KeepS.of_grown hg (fun r e => by cases e; exact .inl (.inr (.inl rfl))), Grows.refl _ _⟩
 ·exact hg.block g (h.bound (.inr (.inr (.inl e)))) (fun e2 => n4 (by rw [e, e2]))
 ·exact hg.block g (h.bound (.inr (.inr (.inr e)))) (fun e2 => n5 (by rw [e, e2]))
theorem JStep.next (h : KeepS (jset j b u s) w w1) (g : Grows (jset j b u s) (jset j b u' s') w) (k : JStep w1 j b u' s' L us ns w2) : JStep w j b u s L us ns w2 := by
 obtain ⟨u2, s2, a, k2, g2⟩ := k
 exact ⟨u2, s2, a, h.trans g k2, g.trans g2 h.size⟩
end
theorem add_on (b off j : Nat) : (⟨b, off, none⟩ : Addr).add j = ⟨b, off + j, none⟩ := by unfold Addr.add; split <;> simp_all
def Vls (w : World) (v : Value) (xs : List Value) : Prop :=
 ∃ A cap, v = .slice A xs.length cap ∧ xs.length ≤ cap ∧ ∀ i (h : i < xs.length), ∃ b off, A = some ⟨b, off, none⟩ ∧ w.cell? ⟨b, off + i, none⟩ = some xs[i]
section
variable {w w' : World} {v : Value} {xs : List Value}
theorem Vls.moved (h : Vls w v xs) (hb : ∀ g, v.ownBlock = some g → w'.heap[g]? = w.heap[g]?) : Vls w' v xs := by
 obtain ⟨A, cap, rfl, hl, hc⟩ := h
 refine ⟨A, cap, rfl, hl, fun i hi => ?_⟩
 obtain ⟨b, off, rfl, h1⟩ := hc i hi
 exact ⟨b, off, rfl, (World.cell?_of_block (w := w) (hb b rfl)).trans h1⟩
theorem Vls.below (h : Vls w v xs) (hb : Below w.heap.size w w') : Vls w' v xs := by
 obtain ⟨A, cap, rfl, hl, hc⟩ := h
 refine ⟨A, cap, rfl, hl, fun i hi => ?_⟩
 obtain ⟨b, off, rfl, h1⟩ := hc i hi
 exact ⟨b, off, rfl, (since_of hb).cell h1⟩
theorem Vls.nil (w : World) (A : Option Addr) (cap : Nat) : Vls w (.slice A 0 cap) [] := ⟨A, cap, rfl, Nat.zero_le _, fun i h => absurd h (by simp)⟩
theorem Vls.of_own {base : Nat} {e : TypeId} (h : w.ownsRow base e 1 v xs.length xs) : Vls w v xs := by
 rcases h.2 with ⟨rfl, hn⟩ | ⟨g, cap, cur, rfl, hb, hg, hc, _⟩
 ·obtain rfl : xs = [] := List.eq_nil_of_length_eq_zero hn
  exact Vls.nil _ _ _
 ·refine ⟨some ⟨g, 0, none⟩, cap, rfl, hc, fun i hi => ⟨g, 0, rfl, ?_⟩⟩
  have := h.cells (g := g) rfl i xs[i] (by simp [hi])
  rwa [add_on] at this
theorem Vls.cells {b off cap : Nat} (h : Vls w (.slice (some ⟨b, off, none⟩) xs.length cap) xs) : ∀ j u, xs[j]? = some u → w.cell? ((⟨b, off, none⟩ : Addr).add j) = some u := by
 intro j u hj
 obtain ⟨A, cap', e, _, hc⟩ := h
 cases e
 obtain ⟨hlt, rfl⟩ := List.getElem?_eq_some_iff.1 hj
 obtain ⟨b', off', e, h1⟩ := hc j hlt
 cases e
 rw [add_on]
 exact h1
end
section
variable {P : Program} {w : World} {A : Option Addr} {cap : Nat} {xs : List Value} {T e : TypeId} {i0 : TypeInfo}
theorem vls_upto (hT : P.underlying T = some (.slice (P.elem T))) (hE : P.elem T = e) (hi0 : P.info? e = some i0) (hC : P.cellsOf e = 1) (A : Option Addr) (n cap i : Nat) (hi : i ≤ cap) :
  ∀ W, (Instr.slice T (.slice A n cap) none (some (.int .i64 i)) none).run P W = .ok (.slice A i cap) W := fun W => by
 have hr := run_slice_h (P := P) (w := W) T A n cap hT .i64 i (by omega) (by omega)
 rw [hE, run_sizeOf W hi0, hC] at hr
 rw [hr]
 cases A <;> simp [Result.andThen, sliced]
 rename_i a
 rcases a with ⟨b, off, x⟩
 cases x <;> simp [Addr.add]
end
theorem Blk.adg {W w1 : World} {g : Nat} {t : TypeId} {cs : Array Value} {ob : Obj} {row : Option Nat} (h : Blk W g t cs) (hg : ((W.alloc ob).drew).grownBy w1 row) (hn : some g ≠ row) : Blk w1 g t cs := Blk.grown (w := (W.alloc ob).drew) (h.alloc ob) hg hn
theorem infoFn : (qP.info? 263).map (fun i => (i.zero, i.size, i.bytes)) = some (some .nilFunc, 1, 8) := by kernel_rfl
theorem infoInt : (qP.info? 3).map (fun i => (i.zero, i.size, i.bytes)) = some (some (.int .i64 0), 1, 8) := by kernel_rfl
theorem keepNo (j b : Nat) (u s : Value) (L : List KV) (us : List Undo) (k : ByteArray) (w : World) (h : JAt w j b u s L us []) :
  Calls qP 179 #[.pointer (some ⟨j, 0, none⟩), .string k] w fun e w' => (∃ x, e = .returned x) ∧ w' = w := by
 obtain ⟨A, cap, rfl, hcap⟩ := own_slice h.starts
 have c2 : w.cell? ⟨j, 2, none⟩ = some (.slice A 0 cap) := h.blk.cell 2
 go_enter Tryz.func179, Tryz.ntmps179
 go_wp2
 go_returns
 exact ⟨⟨_, rfl⟩, rfl⟩
theorem jset_undos (j b : Nat) (u u' s : Value) (w : World) (h : u.ownBlock = u'.ownBlock ∨ ∃ g, u'.ownBlock = some g ∧ w.heap.size ≤ g) : Grows (jset j b u s) (jset j b u' s) w := fun i hi => by
 rcases hi with hi | hi | hi | hi
 ·exact .inl (.inl hi)
 ·exact .inl (.inr (.inl hi))
 ·rcases h with h | ⟨g, h, hg⟩
  ·exact .inl (.inr (.inr (.inl (h.trans hi))))
  ·rw [h] at hi; cases hi; exact .inr hg
 ·exact .inl (.inr (.inr (.inr hi)))
theorem jset_starts (j b : Nat) (u s s' : Value) (w : World) (h : s.ownBlock = s'.ownBlock ∨ ∃ g, s'.ownBlock = some g ∧ w.heap.size ≤ g) : Grows (jset j b u s) (jset j b u s') w := fun i hi => by
 rcases hi with hi | hi | hi | hi
 ·exact .inl (.inl hi)
 ·exact .inl (.inr (.inl hi))
 ·exact .inl (.inr (.inr (.inl hi)))
 ·rcases h with h | ⟨g, h, hg⟩
  ·exact .inl (.inr (.inr (.inr (h.trans hi))))
  ·rw [h] at hi; cases hi; exact .inr hg
theorem JAt.pushed {w w1 w2 : World} {j b : Nat} {u u' s : Value} {L : List KV} {us us' : List Undo} {ns : List Nat} (h : JAt w j b u s L us ns) (hb : Below w.heap.size w w1) (gr : w1.grownBy w2 u.ownBlock) (own : w2.ownsRow 0 263 1 u' us'.length (undoVals us'))
  (at1 : u.ownBlock = u'.ownBlock ∨ ∃ g, u'.ownBlock = some g ∧ w.heap.size ≤ g) : JStep w j b u s L us' ns (w2.setCell ⟨j, 1, none⟩ u') := by
 obtain ⟨n1, n2, n3, n4, n5⟩ := h.nj
 have h1 := h.below hb
 have hj1 : Blk w2 j 133 #[.pointer (some ⟨b, 0, none⟩), u, s] := h1.blk.grown gr (fun e => n2 e.symm)
 have hjs := h.blk.lt
 have nj' : u'.ownBlock ≠ some j := fun e => by
  rcases at1 with a | ⟨g, a, hg⟩
  ·exact n2 (a.trans e)
  ·rw [a] at e; cases e; omega
 have keep : KeepS (jset j b u s) w (w2.setCell ⟨j, 1, none⟩ u') := by
  refine (KeepS.of_below _ hb).step ((KeepS.of_grown gr (fun r e => .inl (.inr (.inr (.inl e))))).step (KeepS.of_grown (only_set (only_refl w2 (some j)) 1 u') (fun r e => ?_)))
  cases e
  exact .inl (.inl rfl)
 have blocks : ∀ i, i < w.heap.size → i ≠ j → u.ownBlock ≠ some i → (w2.setCell ⟨j, 1, none⟩ u').heap[i]? = w.heap[i]? := fun i hi h2 h3 =>
  (Below.heap_setCell w2 ⟨j, 1, none⟩ u' i h2).trans ((gr.block i (Nat.lt_of_lt_of_le hi hb.size) (fun e => h3 e.symm)).trans (hb.block i hi))
 refine ⟨u', s, ⟨hj1.set_ 1 u', ?_, own_keep own (fun g e => ?_), own_keep h.starts (fun g e => ?_)⟩, keep, jset_undos j b u u' s w at1⟩
 ·obtain ⟨p, t, h2, h3, h4⟩ := h.store
  exact ⟨p, t, (blocks b h2.lt n1.symm n4).trans h2, h3.kept (h.kept keep), h4⟩
 ·exact Below.heap_setCell w2 ⟨j, 1, none⟩ u' g (fun e2 => nj' (by rw [e]; exact congrArg some e2))
 ·exact blocks g (h.bound (.inr (.inr (.inr e)))) (fun e2 => n3 (by rw [e, e2])) (fun e2 => h.apart e2 e)
theorem keepYes (j b : Nat) (u s : Value) (L : List KV) (us : List Undo) (ns : List Nat) (k : ByteArray) (w : World) (h : JAt w j b u s L us ns) (h0 : 0 < ns.length) (hz : us.length + 1 ≤ 1000000000) :
  Calls qP 179 #[.pointer (some ⟨j, 0, none⟩), .string k] w fun e w' => (∃ x, e = .returned x) ∧ JStep w j b u s L (us ++ [was L k]) ns w' := by
 have H1 := qH (sGet b k L w h.store)
 have HJ := qH h
 obtain ⟨A, cap, rfl, hcap⟩ := own_slice h.starts
 obtain ⟨A1, cap1, rfl, hcap1⟩ := own_slice h.undos
 have c0 : w.cell? ⟨j, 0, none⟩ = some (.pointer (some ⟨b, 0, none⟩)) := h.blk.cell 0
 have c1 : w.cell? ⟨j, 1, none⟩ = some (.slice A1 us.length cap1) := h.blk.cell 1
 have c2 : w.cell? ⟨j, 2, none⟩ = some (.slice A ns.length cap) := h.blk.cell 2
 have f1 : w.frozen? ⟨j, 1, none⟩ = false := h.blk.frozen 1
 have hne : ((ns.length : Int) == 0) = false := by rw [beq_eq_false_iff_ne]; omega
 have hjl := h.blk.lt
 have hu : was L k = ⟨k, (lget L k).getD ⟨#[]⟩, (lget L k).isSome⟩ := rfl
 obtain ⟨x, hx⟩ : ∃ x, x = was L k := ⟨_, rfl⟩
 rw [← hx] at hu ⊢
 clear hx h
 unfold retGet at *
 generalize (lget L k).getD ⟨#[]⟩ = v at *
 generalize (lget L k).isSome = c at *
 obtain ⟨i0, hi, hz0, hz1, hz2⟩ := info_parts infoFn
 go_enter Tryz.func179, Tryz.ntmps179
 go_wp2_with fail
 refine H1.out.mono ?_
 rintro e w' ⟨rfl, rfl⟩
 go_wp2
 have HU := qH HJ.out.undos
 obtain ⟨n1, n2, n3, n4, n5⟩ := HJ.out.nj
 have HN := qH n2
 have HLO := qH (fun g (e : (Value.slice A1 us.length cap1).ownBlock = some g) => (HJ.out.undos.lt g e).2)
 clear n1 n2 n3 n4 n5
 have bk : Blk (w'.alloc (.cells #[.string k, .string v, .bool c] 276)) w'.heap.size 276 #[.string k, .string v, .bool c] := Blk.new _ _ _
 have B1 : Below w'.heap.size w' (w'.alloc (.cells #[.string k, .string v, .bool c] 276)) := (Below.refl _ _).alloc (Nat.le_refl _) _
 have z1 : (w'.alloc (.cells #[.string k, .string v, .bool c] 276)).heap.size = w'.heap.size + 1 := by simp
 generalize w'.alloc (.cells #[.string k, .string v, .bool c] 276) = W at *
 replace z1 := qH z1
 have d1 := (since_of B1).cell c1
 have g1 : W.frozen? ⟨j, 1, none⟩ = false := (HJ.out.below B1).blk.frozen 1
 have e0 : W.cell? ⟨w'.heap.size, 0, none⟩ = some (.string k) := bk.cell 0
 have e1 : W.cell? ⟨w'.heap.size, 1, none⟩ = some (.string v) := bk.cell 1
 have e2 : W.cell? ⟨w'.heap.size, 2, none⟩ = some (.bool c) := bk.cell 2
 have HO := qH (HJ.out.below B1).undos
 have HB := qH (HJ.out.below B1).blk
 have d1a : ∀ ob, (W.alloc ob).cell? ⟨j, 1, none⟩ = some (.slice A1 us.length cap1) := fun ob => (HB.out.alloc ob).cell 1
 clear c0 c1 c2 f1 H1 hne HU
 go_region_law ((refine step_append_lies _ (by rfl) _ _ _ (by rfl) 0 263 i0 _ 1 8 Tryz.underlying130 hi hz0 hz1 hz2 rfl (by omega) (.slice A1 us.length cap1) us.length (undoVals us) (by rfl) ((HO.out.alloc _).drew) ⟨W.heap.size, 0, none⟩ 1 1 [.func (.func 203) #[.agg #[.string k, .string v, .bool c]] #[]] (by rfl) (by rfl) (World.news_of_block (cs := #[.func (.func 203) #[.agg #[.string k, .string v, .bool c]] #[]]) (t := 263) (fr := (0, 0)) (heap_alloc_new W _)) (by simp [Value.oneCell']) (by omega) (by unfold maxLen; omega) (by omega) (by simp) (W.heap.size + 1) (by simp) ?_; intro gg cap2 w1 hown1 hgrow hat hlt'; have bj := qH (HB.out.adg hgrow (fun e => HN.out e.symm)); have p1 : w1.cell? ⟨j, 1, none⟩ = some (.slice A1 us.length cap1) := bj.out.cell 1; have q1 : w1.frozen? ⟨j, 1, none⟩ = false := bj.out.frozen 1))
 all_goals go_wp2
 all_goals go_returns
 all_goals refine ⟨⟨_, rfl⟩, HJ.out.pushed (w1 := (W.alloc _).drew) (us' := us ++ [x]) ((B1.alloc (by have := z1.out; omega) _).drew) hgrow (by rw [hu]; simpa [undoVals, undoV] using hown1) ?_⟩
 all_goals
  rcases hat with h | h
  ·exact .inl h
  ·exact .inr ⟨gg, rfl, by have := z1.out; omega⟩
theorem heldC (j b : Nat) (u s : Value) (L : List KV) (us : List Undo) (ns : List Nat) (w : World) (h : JAt w j b u s L us ns) : Calls qP 83 #[.pointer (some ⟨j, 0, none⟩)] w fun e w' => e = .returned (.pointer (some ⟨b, 0, none⟩)) ∧ w' = w := by
 have c0 : w.cell? ⟨j, 0, none⟩ = some (.pointer (some ⟨b, 0, none⟩)) := h.blk.cell 0
 go_enter Tryz.func83, Tryz.ntmps83
 go_wp2
 go_ret
 exact ⟨rfl, rfl⟩
end Go.Proofs.YtkejaepmoabikaaGreatDoor.W
namespace Go.Proofs.YtkejaepmoabikaaGreatDoor.W
open Go.RowKit Go.Shelf
open Lib renaming hid → qH
open _root_.Go.Proofs.Tryz renaming prog → qP
set_option maxHeartbeats 2000000
set_option maxRecDepth 100000
attribute [local go_sem] Oper.semAt_some wide_fn wide_depth
structure BoxPrs (base B : Nat) (T : TypeId) (l : List KV) (S : Nat → Prop) (W : World) (v : Value) : Prop where
 box : Blk W B T #[v]
 own : W.ownsRow base 36 2 v l.length (prVals l)
 low : base ≤ B
 set : ∀ i, S i ↔ i = B ∨ v.ownBlock = some i
section
variable {base B : Nat} {T : TypeId} {l : List KV} {S : Nat → Prop} {W W' : World} {v : Value}
theorem BoxPrs.grown {row : Option Nat} (h : BoxPrs base B T l S W v) (hg : W.grownBy W' row) (hr : ∀ r, row = some r → ¬ S r) : BoxPrs base B T l S W' v :=
 ⟨h.box.grown hg (fun e => hr B e.symm ((h.set B).2 (.inl rfl))), h.own.kept hg (by
  cases hv : v.ownBlock with
  | none => exact .inl rfl
  | some g => exact .inr (fun e => hr g e.symm ((h.set g).2 (.inr hv)))), h.low, h.set⟩
theorem BoxPrs.bound (h : BoxPrs base B T l S W v) (i : Nat) (hi : S i) : i < W.heap.size := by
 rcases (h.set i).1 hi with rfl | hi
 ·exact h.box.lt
 ·exact (h.own.lt i hi).2
end
def boxInv (base B : Nat) (T : TypeId) : Inv := fun pre S W => ∃ v, BoxPrs base B T pre S W v
theorem box_abides (C base B : Nat) (T : TypeId) : AbidesS C (boxInv base B T) := fun _ _ _ _ _ ⟨v, h⟩ hg hr => ⟨v, h.grown hg (fun r e => (hr r e).2)⟩
theorem box_bounded (base B : Nat) (T : TypeId) : Bounded (boxInv base B T) := fun _ _ _ ⟨_, h⟩ => h.bound
theorem own_blk {W : World} {base n : Nat} {v : Value} {xs : List Value} (h : W.ownsRow base 36 2 v n xs) {g : Nat} (hg : v.ownBlock = some g) : ∃ cs, Blk W g 36 cs := by
 rcases h.2 with ⟨rfl, _⟩ | ⟨g', cap, cur, rfl, _, hb, _⟩
 ·cases hg
 ·cases hg; exact ⟨cur, hb⟩
theorem own_form {W : World} {base : Nat} {v : Value} {l : List KV} {x : KV} (h : W.ownsRow base 36 2 v (l ++ [x]).length (prVals (l ++ [x]))) : ∃ g cap, v = .slice (some ⟨g, 0, none⟩) (l.length + 1) cap := by
 rw [List.length_append] at h
 exact ownsRow_succ h
theorem BoxPrs.push {base B : Nat} {T : TypeId} {l : List KV} {S : Nat → Prop} {W w1 : World} {v v' : Value} {x : KV} {ob : Obj} (h : BoxPrs base B T l S W v) (hT : T ≠ 36)
  (own' : w1.ownsRow base 36 2 v' (l ++ [x]).length (prVals (l ++ [x]))) (gr : (W.alloc ob).grownBy w1 v.ownBlock) (at1 : v'.ownBlock = v.ownBlock ∨ v'.ownBlock = some (W.alloc ob).heap.size) :
  Blk w1 B T #[v] ∧ KeepS S W (w1.setCell ⟨B, 0, none⟩ v') ∧ ∃ S', Grows S S' W ∧ BoxPrs base B T (l ++ [x]) S' (w1.setCell ⟨B, 0, none⟩ v') v' := by
 have hB := h.box.lt
 have nB : v.ownBlock ≠ some B := fun e => by
  obtain ⟨cs, hc⟩ := own_blk h.own e
  exact hT (blk_type h.box hc)
 have nB' : v'.ownBlock ≠ some B := fun e => by
  rcases at1 with a | a
  ·exact nB (a.symm.trans e)
  ·rw [a, World.size_alloc] at e; cases e; omega
 have b1 : Blk w1 B T #[v] := (h.box.alloc ob).grown gr (fun e => nB e.symm)
 refine ⟨b1, ⟨gr.os, gr.tape, gr.output, ?_, fun i hi hn => ?_⟩, fun i => i = B ∨ v'.ownBlock = some i, fun i hi => ?_, b1.set_ 0 v', ?_, h.low, fun i => Iff.rfl⟩
 ·have := gr.size
  rw [World.size_alloc] at this
  simp [World.setCell]; omega
 ·have h1 : i ≠ B := fun e => hn ((h.set i).2 (.inl e))
  have h2 : v.ownBlock ≠ some i := fun e => hn ((h.set i).2 (.inr e))
  exact (Below.heap_setCell w1 ⟨B, 0, none⟩ v' i h1).trans ((gr.block i (by rw [World.size_alloc]; omega) (fun e => h2 e.symm)).trans (Below.heap_alloc W ob i hi))
 ·rcases hi with rfl | hi
  ·exact .inl ((h.set _).2 (.inl rfl))
  ·rcases at1 with a | a
   ·exact .inl ((h.set i).2 (.inr (a.symm.trans hi)))
   ·rw [a, World.size_alloc] at hi; cases hi; exact .inr (by omega)
 ·exact own'.kept (only_set (only_refl w1 (some B)) 0 v') (.inr nB')
theorem run_make_prs (n : Nat) (h : n ≤ 1000000000) (w : World) : (Instr.makeSlice 22 (.int .i64 0) (.int .i64 n)).run qP w = .ok (.slice (some ⟨w.heap.size, 0, none⟩) 0 n) (w.alloc (.cells (madeCells #[.string .empty, .string .empty] (n * 2)) 36)) := by
 obtain ⟨i0, hi, hz0, hz1, hz2⟩ := info_parts infoPair
 have hr := run_make (P := qP) w 22 36 i0 _ Tryz.underlying22 hi hz0 .i64 .i64 0 n (by omega) (by omega) (by rw [hz2]; omega) (by omega)
 rw [hz1, show (Value.agg #[.string ByteArray.empty, .string ByteArray.empty]).cells = #[.string .empty, .string .empty] from rfl] at hr
 simpa using hr
theorem listAt (s : Option Addr) (L : List KV) (w : World) (hz : L.length ≤ 1000000000)
  (HL : ∀ W, Since w W → Calls qP 138 #[.pointer s] W fun e w' => e = .returned (.int .i64 L.length) ∧ w' = W)
  (HA : ∀ W, Since w W → Calls qP 139 #[.pointer s, .string ⟨#[]⟩] W (Goes L W)) :
  Calls qP 90 #[.pointer s] w fun e w' => ∃ v, e = .returned v ∧ w'.ownsRow w.heap.size 36 2 v L.length (prVals L) ∧ Below w.heap.size w w' := by
 refine (callsIn_wide (n := 3)).1 ?_
 have H1 := qH HL
 have H2 := qH HA
 clear HL HA
 have hmk := run_make_prs L.length hz
 refine callsIn_of_wp_marks Tryz.func90 rfl trivial ?_ rfl
 simp only [Tryz.ntmps90, List.size_toArray, List.length_cons, List.length_nil, Nat.reduceAdd, Nat.reduceSub, Array.replicate_succ, Array.replicate_zero, List.push_toArray, List.append_toArray, List.nil_append, List.cons_append]
 gi_wp2_with (gi_at_call 138; refine (callsIn_wide.2 (H1.out _ (Since.refl _))).mono ?_; rintro e w' ⟨rfl, rfl⟩)
 rename_i K0 _ K1 _ K2 _
 obtain ⟨W2, hW2⟩ : ∃ W2, W2 = (w'.alloc (.cells (madeCells #[.string .empty, .string .empty] (L.length * 2)) 36)).alloc (.cells #[.slice (some ⟨w'.heap.size, 0, none⟩) 0 L.length] 22) := ⟨_, rfl⟩
 rw [← hW2]
 have z2 : W2.heap.size = w'.heap.size + 1 + 1 := by rw [hW2]; simp
 have b2 : Below w'.heap.size w' W2 := by rw [hW2]; exact ((Below.refl _ _).alloc (Nat.le_refl _) _).alloc (by simp) _
 have bp2 : BoxPrs w'.heap.size (w'.heap.size + 1) 22 [] (fun i => i = w'.heap.size + 1 ∨ some w'.heap.size = some i) W2 (.slice (some ⟨w'.heap.size, 0, none⟩) 0 L.length) := by
  refine ⟨?_, ?_, by omega, fun i => Iff.rfl⟩
  ·have := Blk.new (w'.alloc (.cells (madeCells #[.string .empty, .string .empty] (L.length * 2)) 36)) 22 #[.slice (some ⟨w'.heap.size, 0, none⟩) 0 L.length]
   rw [World.size_alloc, ← hW2] at this
   exact this
  ·rw [hW2]
   exact (World.ownsRow_made w' _ L.length (Nat.le_refl _) (by unfold maxLen; omega) (by rw [size_madeCells])).alloc _
 clear hW2
 refine (callsIn_wide.2 (H2.out W2 (since_of b2))).mono ?_
 rintro e W3 ⟨lb, rfl, b3, hseq⟩
 have b23 : Below w'.heap.size w' W3 := b2.trans (b3.mono (by omega))
 have bp3 := bp2.grown (row := none) ⟨b3.os, b3.tape, b3.output, b3.size, fun k hk _ => b3.block k hk⟩ (fun r e => by cases e)
 have z3 := b3.size
 gi_wp2
 refine range_seq (gf := 171) (lb := lb) (xs := L) (w0 := W3) rfl (enters_of Tryz.func171 (by kernel_rfl) rfl)
  (hseq (fun i => i = w'.heap.size + 1 ∨ some w'.heap.size = some i) (fun i hi => .inr (by
    rcases hi with rfl | hi
    ·exact ⟨_, _, bp2.box, by decide⟩
    ·obtain ⟨cs, hc⟩ := own_blk bp2.own hi
     exact ⟨_, _, hc, by decide⟩))) (Below.refl _ _) rfl
  (fun _ => true) (boxInv w'.heap.size (w'.heap.size + 1) 22) (fun _ _ _ _ => False) (box_abides _ _ _ _) (fun _ _ _ _ _ _ h _ _ => h) (box_bounded _ _ _)
  (fun i => i = w'.heap.size + 1 ∨ some w'.heap.size = some i) ⟨_, bp3⟩ (fun _ _ h => h)
  (fun x => { tmps := #[.pointer s, undef, .slice none 0 0, .pointer (some ⟨w'.heap.size + 1, 0, none⟩), .string x.1, .string x.2, .pointer s, .int .i64 L.length, .slice (some ⟨w'.heap.size, 0, none⟩) 0 L.length, .pointer s, .func (.func 171) #[] lb, .string x.1, .string x.2, undef, undef, undef, undef, undef, undef, undef], defers := [] }) ?assign ?body ?done ?stop
 case assign =>
  intro l' k x W' K hK
  gi_wp2
  exact hK
 case body =>
  rintro l' k pre ⟨xk, xv⟩ S' W' ⟨v, hv⟩ hpre
  have c0 : W'.cell? ⟨w'.heap.size + 1, 0, none⟩ = some v := hv.box.cell 0
  have hlen : pre.length + 1 ≤ L.length := by have := hpre.length_le; simpa using this
  have hB : w'.heap.size ≤ W'.heap.size := by have := hv.box.lt; omega
  gi_wp2_with (gi_at_builtin; refine wpListIn_append_prs _ rfl _ _ 22 Tryz.underlying22 rfl w'.heap.size v _ pre [(xk, xv)] rfl rfl (hv.own.alloc _) (prs_built W' (xk, xv)) (by simp; omega) (by simp; omega) ?_; intro v' w1 own' gr1 at1; obtain ⟨g', cap', rfl⟩ := own_form own'; obtain ⟨q1, q2, S2, q3, q4⟩ := hv.push (by decide) own' gr1 at1; have d0 : w1.cell? ⟨w'.heap.size + 1, 0, none⟩ = some v := q1.cell 0; have d1 : w1.frozen? ⟨w'.heap.size + 1, 0, none⟩ = false := q1.frozen 0)
  exact ⟨rfl, q2, S2, q3, _, q4⟩
 case done =>
  rintro D S' W' hD _ k4 g4 nD ⟨v, hv⟩ hK
  have c0 : W'.cell? ⟨w'.heap.size + 1, 0, none⟩ = some v := hv.box.cell 0
  gi_wp2
  refine ⟨by simp, .inl ⟨_, _, rfl, run_takeDeferred hK, ?_⟩⟩
  refine ⟨_, results_tmp rfl _ _ _, v, rfl, (hv.grown (grownBy_putObj' W' D (.deferred none)) (fun r e => by cases e; exact nD)).own, ?_⟩
  exact b23.trans ((keepS_new k4 hD _).below (by omega) (fun i hi => by
   rcases hi with rfl | hi
   ·omega
   ·cases hi; omega))
 case stop =>
  rintro D c q S' W' _ _ _ _ _ h _
  exact h.elim
theorem sList (b : Nat) (L : List KV) (w : World) (h : IsStore w b L) (hz : L.length ≤ 1000000000) :
  Calls qP 90 #[.pointer (some ⟨b, 0, none⟩)] w fun e w' => ∃ v, e = .returned v ∧ w'.ownsRow w.heap.size 36 2 v L.length (prVals L) ∧ Below w.heap.size w w' :=
 listAt _ L w hz (fun W hs => lenC b L W (h.below hs.below)) (fun W hs => by
  have := sAll b ⟨#[]⟩ L W (h.below hs.below)
  rwa [show lall L ⟨#[]⟩ = L by unfold lall; rw [List.filter_eq_self]; intro x _; rfl] at this)
end Go.Proofs.YtkejaepmoabikaaGreatDoor.W
namespace Go.Proofs.YtkejaepmoabikaaGreatDoor.W
open Go.RowKit
open Lib renaming hid → qH
open _root_.Go.Proofs.Tryz renaming prog → qP
set_option maxHeartbeats 2000000
set_option maxRecDepth 100000
def kept1 (L : List KV) (us : List Undo) (ns : List Nat) (k : ByteArray) : List Undo := if ns = [] then us else us ++ [was L k]
theorem keepC (j b : Nat) (u s : Value) (L : List KV) (us : List Undo) (ns : List Nat) (k : ByteArray) (w : World) (h : JAt w j b u s L us ns) (hz : us.length + 1 ≤ 1000000000) :
  Calls qP 179 #[.pointer (some ⟨j, 0, none⟩), .string k] w fun e w' => (∃ x, e = .returned x) ∧ JStep w j b u s L (kept1 L us ns k) ns w' := by
 unfold kept1
 by_cases hn : ns = []
 ·subst hn
  rw [if_pos rfl]
  refine (keepNo j b u s L us k w h).mono ?_
  rintro e w' ⟨hx, rfl⟩
  exact ⟨hx, JStep.same h⟩
 ·rw [if_neg hn]
  exact keepYes j b u s L us ns k w h (List.length_pos_iff.2 hn) hz
theorem setC (j b : Nat) (u s : Value) (L : List KV) (us : List Undo) (ns : List Nat) (k v : ByteArray) (w : World) (h : JAt w j b u s L us ns) (hk : k.size ≤ 65536) (hv : v.size ≤ 65536) (hz : us.length + 1 ≤ 1000000000) (hzL : L.length + 1 ≤ 1000000000) :
  Calls qP 146 #[.pointer (some ⟨j, 0, none⟩), .string k, .string v] w fun e w' => e = .returned (.int .i64 0) ∧ JStep w j b u s (lset L k v) (kept1 L us ns k) ns w' := by
 have H1 := qH (keepC j b u s L us ns k w h hz)
 have g1 : ¬ (65536 : Int) < (k.size : Int) := by omega
 have g2 : ¬ (65536 : Int) < (v.size : Int) := by omega
 clear h
 generalize kept1 L us ns k = vs at *
 go_enter Tryz.func146, Tryz.ntmps146
 go_wp2_with fail
 refine H1.out.mono ?_
 rintro e w1 ⟨⟨x, rfl⟩, u1, s1, J1, k1, gr1⟩
 have c0 : w1.cell? ⟨j, 0, none⟩ = some (.pointer (some ⟨b, 0, none⟩)) := J1.blk.cell 0
 have H2 := qH (sSet b k v L w1 J1.store (by omega))
 have HJ := qH (And.intro J1 (And.intro k1 gr1))
 clear J1 k1 gr1 H1
 generalize (!(lget L k).isSome) = c at *
 go_wp2_with fail
 refine H2.out.mono ?_
 rintro e w2 ⟨rfl, hs2, hg2⟩
 go_wp2
 go_ret
 exact ⟨rfl, JStep.next HJ.out.2.1 HJ.out.2.2 (HJ.out.1.stored hs2 hg2)⟩
theorem getAt (a p : Option Addr) (k : ByteArray) (r : Option ByteArray) (w : World) (H1 : Calls qP 83 #[.pointer a] w fun e w' => e = .returned (.pointer p) ∧ w' = w) (H2 : Calls qP 84 #[.pointer p, .string k] w fun e w' => e = .returned (retGet r) ∧ w' = w) :
  Calls qP 33 #[.pointer a, .string k] w fun e w' => e = .returned (retGet r) ∧ w' = w := by
 replace H1 := qH H1
 replace H2 := qH H2
 unfold retGet at *
 generalize r.getD ⟨#[]⟩ = v at *
 generalize r.isSome = c at *
 go_enter Tryz.func33, Tryz.ntmps33
 go_wp2_with fail
 refine H1.out.mono ?_
 rintro e w' ⟨rfl, rfl⟩
 go_wp2_with fail
 refine H2.out.mono ?_
 rintro e w' ⟨rfl, rfl⟩
 go_wp2
 go_returns
 exact ⟨rfl, rfl⟩
theorem getJ (j b : Nat) (u s : Value) (L : List KV) (us : List Undo) (ns : List Nat) (k : ByteArray) (w : World) (h : JAt w j b u s L us ns) :
  Calls qP 33 #[.pointer (some ⟨j, 0, none⟩), .string k] w fun e w' => e = .returned (retGet (lget L k)) ∧ w' = w := getAt _ _ k _ w (heldC j b u s L us ns w h) (sGet b k L w h.store)
def Listed (L : List KV) (w : World) (e : Ending) (w' : World) : Prop := ∃ v, e = .returned v ∧ w'.ownsRow w.heap.size 36 2 v L.length (prVals L) ∧ Below w.heap.size w w'
theorem listJAt (a p : Option Addr) (L : List KV) (w : World) (H1 : Calls qP 83 #[.pointer a] w fun e w' => e = .returned (.pointer p) ∧ w' = w) (H2 : Calls qP 90 #[.pointer p] w (Listed L w)) :
  Calls qP 44 #[.pointer a] w (Listed L w) := by
 replace H1 := qH H1
 replace H2 := qH H2
 go_enter Tryz.func44, Tryz.ntmps44
 go_wp2_with fail
 refine H1.out.mono ?_
 rintro e w' ⟨rfl, rfl⟩
 go_wp2_with fail
 refine H2.out.mono ?_
 rintro e w2 ⟨v, rfl, ho, hb⟩
 go_wp2
 go_ret
 exact ⟨v, rfl, ho, hb⟩
theorem listJ (j b : Nat) (u s : Value) (L : List KV) (us : List Undo) (ns : List Nat) (w : World) (h : JAt w j b u s L us ns) (hz : L.length ≤ 1000000000) :
  Calls qP 44 #[.pointer (some ⟨j, 0, none⟩)] w (Listed L w) := listJAt _ _ L w (heldC j b u s L us ns w h) (sList b L w h.store hz)
def Fresh1 (L : List KV) (w : World) (e : Ending) (w' : World) : Prop := ∃ j b u s, e = .returned (.pointer (some ⟨j, 0, none⟩)) ∧ JAt w' j b u s L [] [] ∧ Below w.heap.size w w' ∧ ∀ i, jset j b u s i → w.heap.size ≤ i
theorem newAt {w w' : World} {g : Nat} {L : List KV} (hs : IsStore w' g L) (hb : Below w.heap.size w w') (hg : w.heap.size ≤ g) :
  JAt (w'.alloc (.cells #[.pointer (some ⟨g, 0, none⟩), .slice none 0 0, .slice none 0 0] 133)) w'.heap.size g (.slice none 0 0) (.slice none 0 0) L [] [] ∧ Below w.heap.size w (w'.alloc (.cells #[.pointer (some ⟨g, 0, none⟩), .slice none 0 0, .slice none 0 0] 133)) ∧ ∀ i, jset w'.heap.size g (.slice none 0 0) (.slice none 0 0) i → w.heap.size ≤ i :=
 have b8 : Below w'.heap.size w' (w'.alloc (.cells #[.pointer (some ⟨g, 0, none⟩), .slice none 0 0, .slice none 0 0] 133)) := (Below.refl _ _).alloc (Nat.le_refl _) _
 ⟨⟨Blk.new w' _ _, hs.below b8, World.ownsRow_nil _ _ _ _, World.ownsRow_nil _ _ _ _⟩, step_below hb b8, fun i hi => by
  rcases hi with rfl | rfl | hi | hi
  ·exact hb.size
  ·exact hg
  ·cases hi
  ·cases hi⟩
theorem newJNil (w : World) : Calls qP 24 #[.pointer none] w (Fresh1 [] w) := by
 go_enter Tryz.func24, Tryz.ntmps24
 go_wp2_with fail
 refine (newC w).mono ?_
 rintro e w' ⟨rfl, hs, hb⟩
 go_wp2
 go_ret
 exact ⟨_, _, _, _, rfl, newAt hs hb (Nat.le_refl _)⟩
def Jr (w : World) (S : Nat → Prop) (j : Nat) (Lv : List (List KV)) (L : List KV) (m : Nat) : Prop :=
 ∃ b u s us ns, JAt w j b u s L us ns ∧ S = jset j b u s ∧ levs L us ns = Lv ∧ Steps us.length ns ∧ L.length + us.length + ns.length ≤ m
def Jm (w : World) (S : Nat → Prop) (j : Nat) (Lv : List (List KV)) (L : List KV) (m : Nat) (w' : World) : Prop := KeepS S w w' ∧ ∃ S', Grows S S' w ∧ Jr w' S' j Lv L m
section
variable {w w' w2 : World} {S : Nat → Prop} {j m m' : Nat} {Lv : List (List KV)} {L : List KV}
theorem Jr.lt (h : Jr w S j Lv L m) : j < w.heap.size := by obtain ⟨b, u, s, us, ns, h1, _⟩ := h; exact h1.blk.lt
theorem Jr.up (h : Jr w S j Lv L m) : Up L := by obtain ⟨b, u, s, us, ns, h1, _⟩ := h; exact h1.store.up
theorem Jr.len (h : Jr w S j Lv L m) : L.length ≤ m ∧ Lv.length ≤ m := by
 obtain ⟨b, u, s, us, ns, h1, _, rfl, _, h5⟩ := h
 rw [levs_len]
 omega
theorem Jr.bound (h : Jr w S j Lv L m) : ∀ i, S i → i < w.heap.size := by obtain ⟨b, u, s, us, ns, h1, rfl, _⟩ := h; exact fun i hi => h1.bound hi
theorem Jr.mono (h : Jr w S j Lv L m) (hm : m ≤ m') : Jr w S j Lv L m' := by obtain ⟨b, u, s, us, ns, h1, h2, h3, h4, h5⟩ := h; exact ⟨b, u, s, us, ns, h1, h2, h3, h4, by omega⟩
theorem Jr.below (h : Jr w S j Lv L m) (hb : Below w.heap.size w w') : Jr w' S j Lv L m := by obtain ⟨b, u, s, us, ns, h1, h2⟩ := h; exact ⟨b, u, s, us, ns, h1.below hb, h2⟩
theorem Jr.kept (h : Jr w S j Lv L m) (k : KeepS S w w') : Kept w w' := by obtain ⟨b, u, s, us, ns, h1, rfl, _⟩ := h; exact h1.kept k
theorem Jm.mono (h : Jm w S j Lv L m w') (hm : m ≤ m') : Jm w S j Lv L m' w' := by obtain ⟨k, S', g, h⟩ := h; exact ⟨k, S', g, h.mono hm⟩
theorem Jm.same (h : Jr w S j Lv L m) : Jm w S j Lv L m w := ⟨KeepS.refl _ _, S, Grows.refl _ _, h⟩
theorem Jm.of_below (h : Jr w S j Lv L m) (hb : Below w.heap.size w w') : Jm w S j Lv L m w' := ⟨KeepS.of_below _ hb, S, Grows.refl _ _, h.below hb⟩
end
theorem jm_of {w w' : World} {j b : Nat} {u s : Value} {L : List KV} {us : List Undo} {ns : List Nat} {Lv : List (List KV)} {m : Nat} (h : JStep w j b u s L us ns w') (h3 : levs L us ns = Lv) (h4 : Steps us.length ns) (h5 : L.length + us.length + ns.length ≤ m) : Jm w (jset j b u s) j Lv L m w' := by
 obtain ⟨u', s', a, k, g⟩ := h
 exact ⟨k, _, g, b, u', s', us, ns, a, rfl, h3, h4, h5⟩
theorem kept1_len (L : List KV) (us : List Undo) (ns : List Nat) (k : ByteArray) : us.length ≤ (kept1 L us ns k).length ∧ (kept1 L us ns k).length ≤ us.length + 1 := by
 unfold kept1; split <;> simp
theorem kept1_levs {L L' : List KV} {us : List Undo} {ns : List Nat} {k : ByteArray} (h : Steps us.length ns) (hr : rest (was L k) L' = L) : levs L' (kept1 L us ns k) ns = levs L us ns := by
 unfold kept1
 split
 ·rename_i hn; subst hn; rfl
 ·exact levs_change h hr
section
variable {w : World} {S : Nat → Prop} {j m : Nat} {Lv : List (List KV)} {L : List KV}
theorem jSet (k v : ByteArray) (h : Jr w S j Lv L m) (hk : k.size ≤ 65536) (hv : v.size ≤ 65536) (hm : m + 2 ≤ 1000000000) :
  Calls qP 146 #[.pointer (some ⟨j, 0, none⟩), .string k, .string v] w fun e w' => e = .returned (.int .i64 0) ∧ Jm w S j Lv (lset L k v) (m + 2) w' := by
 obtain ⟨b, u, s, us, ns, h1, rfl, rfl, h4, h5⟩ := h
 refine (setC j b u s L us ns k v w h1 hk hv (by omega) (by omega)).mono ?_
 rintro e w' ⟨he, hs⟩
 have hl := kept1_len L us ns k
 have hl2 := lset_len (k := k) (v := v) L
 exact ⟨he, jm_of hs (kept1_levs h4 (rest_set h1.store.up k v)) (steps_more h4 hl.1) (by omega)⟩
theorem jGet (k : ByteArray) (h : Jr w S j Lv L m) : Calls qP 33 #[.pointer (some ⟨j, 0, none⟩), .string k] w fun e w' => e = .returned (retGet (lget L k)) ∧ w' = w := by
 obtain ⟨b, u, s, us, ns, h1, rfl, rfl, h4, h5⟩ := h
 exact getJ j b u s L us ns k w h1
theorem jList (h : Jr w S j Lv L m) (hm : m ≤ 1000000000) : Calls qP 44 #[.pointer (some ⟨j, 0, none⟩)] w (Listed L w) := by
 obtain ⟨b, u, s, us, ns, h1, rfl, rfl, h4, h5⟩ := h
 exact listJ j b u s L us ns w h1 (by omega)
theorem jNewNil (w : World) : Calls qP 24 #[.pointer none] w fun e w' => ∃ k T, e = .returned (.pointer (some ⟨k, 0, none⟩)) ∧ Jr w' T k [] [] 0 ∧ Below w.heap.size w w' ∧ ∀ i, T i → w.heap.size ≤ i := by
 refine (newJNil w).mono ?_
 rintro e w' ⟨k, b', u', s', he, hJ, hb, hi⟩
 exact ⟨k, _, he, ⟨b', u', s', [], [], hJ, rfl, rfl, ⟨List.Pairwise.nil, fun _ h => by cases h⟩, by simp⟩, hb, hi⟩
end
theorem Jm.out {w w1 w2 : World} {S : Nat → Prop} {j m : Nat} {Lv : List (List KV)} {L : List KV} (h : Jm w1 S j Lv L m w2) (hB : Below w.heap.size w w1) (hT : ∀ i, S i → w.heap.size ≤ i) : ∃ S', Jr w2 S' j Lv L m ∧ Below w.heap.size w w2 ∧ ∀ i, S' i → w.heap.size ≤ i := by
 obtain ⟨k, S', g, hj⟩ := h
 exact ⟨S', hj, hB.trans (k.below hB.size hT), fun i hi => (g i hi).elim (hT i) (fun h2 => Nat.le_trans hB.size h2)⟩
theorem esc_app : ∀ (a b : List UInt8), esc (a ++ b) = esc a ++ esc b
 | [], b => rfl
 | c :: a, b => by
  simp only [List.cons_append, esc, esc_app a b]
  split
  ·rfl
  ·split <;> rfl
def PHRel (s : ByteArray) (w : World) (k : Nat) (v : Value) (wr : World) : Prop :=
 Lib.OwnBuf w.heap.size 5 v (esc (s.data.toList.take k)).length (cells (esc (s.data.toList.take k))) w wr
theorem PHRel.step {s : ByteArray} {w : World} {k : Nat} (hk : k < s.size) {v : Value} {wr : World} {l : List UInt8} (hl : esc [s[k]] = l) {n : Nat} (hn : n = l.length) {xs : List Value} (hx : xs = cells l)
  (h : Lib.OwnBuf w.heap.size 5 v ((esc (s.data.toList.take k)).length + n) (cells (esc (s.data.toList.take k)) ++ xs) w wr) : PHRel s w (k + 1) v wr := by
 subst hn hx
 unfold PHRel
 rw [take_snoc s k hk, esc_app, hl, List.length_append, cells_append]
 exact h
theorem esc_take_len (s : ByteArray) (k : Nat) : (esc (s.data.toList.take k)).length ≤ 2 * s.size := by
 have h1 := esc_len (s.data.toList.take k)
 have h2 : (s.data.toList.take k).length ≤ s.size := by rw [List.length_take, size_list]; omega
 omega
theorem u8_eqP {b : UInt8} {n : Nat} (h : b.toNat = n) : b = UInt8.ofNat n := by rw [← h, ofNat_toNat]
theorem rHidden (s : ByteArray) (w : World) (hs : s.size ≤ 100000000) :
  Calls qP 137 #[.string s] w fun e w' => e = .returned (.string (bs (esc s.data.toList))) ∧ Below w.heap.size w w' := by
 obtain ⟨i0, hi, hz0, hz1, hz2⟩ := info_parts infoU8
 go_enter Tryz.func137, Tryz.ntmps137
 go_wp2
 go_loopw [3, 4] (fun v i wr => ∃ k : Nat, k ≤ s.size ∧ i = .int .i64 k ∧ PHRel s w k v wr) (fun _ i _ => s.size - (intOf i).toNat)
 case atStart => exact ⟨0, Nat.zero_le _, rfl, OwnBuf_nil w _⟩
 case round =>
  obtain ⟨k, hk, rfl, hown⟩ := hrel
  have hl := esc_take_len s k
  by_cases hlt : k < s.size
  ·have HST := qH (fun v wr l (e : esc [s[k]] = l) n (hn : n = l.length) xs (hx : xs = cells l) h => @PHRel.step s w k hlt v wr l e n hn xs hx h)
   unfold PHRel at hown
   generalize cells (esc (s.data.toList.take k)) = xs at *
   generalize (esc (s.data.toList.take k)).length = n at *
   have hb := s[k].toNat_lt
   have hki : (k : Int) < (s.size : Int) := by omega
   by_cases h1 : s[k] = 37
   ·have q1 : ((s[k].toNat : Int) == 37) = true := by rw [h1]; rfl
    have HE := qH (show esc [s[k]] = [37, 112] by rw [h1]; rfl)
    clear h1
    go_wp2_with (at_builtin; go_must (refine wpList_append_two rfl _ _ 121 rfl w.heap.size 5 i0 Tryz.underlying121 hi hz0 hz1 hz2 u3 n xs rfl w wr _ _ hown rfl (by omega) ?_))
    intro v1 w1 h1
    have R := HST.out v1 w1 [37, 112] HE.out 2 rfl _ rfl h1
    clear hown h1 HST
    go_wp2
    go_roundw
    case rel => exact ⟨k + 1, by omega, by go_num, R⟩
    case measure => simp [intOf]; omega
   ·have n1 : ((s[k].toNat : Int) == 37) = false := by rw [beq_eq_false_iff_ne]; exact fun e => h1 (u8_eqP (n := 37) (by omega))
    by_cases h2 : s[k] = 47
    ·have q2 : ((s[k].toNat : Int) == 47) = true := by rw [h2]; rfl
     have HE := qH (show esc [s[k]] = [37, 115] by rw [h2]; rfl)
     clear h1 h2
     go_wp2_with (at_builtin; go_must (refine wpList_append_two rfl _ _ 121 rfl w.heap.size 5 i0 Tryz.underlying121 hi hz0 hz1 hz2 u3 n xs rfl w wr _ _ hown rfl (by omega) ?_))
     intro v1 w1 h1
     have R := HST.out v1 w1 [37, 115] HE.out 2 rfl _ rfl h1
     clear hown h1 HST
     go_wp2
     go_roundw
     case rel => exact ⟨k + 1, by omega, by go_num, R⟩
     case measure => simp [intOf]; omega
    ·have n2 : ((s[k].toNat : Int) == 47) = false := by rw [beq_eq_false_iff_ne]; exact fun e => h2 (u8_eqP (n := 47) (by omega))
     have HE := qH (show esc [s[k]] = [s[k]] by rw [esc, if_neg h1, if_neg h2]; rfl)
     clear h1 h2
     go_wp2_with (at_builtin; go_must (refine Lib.wpList_append_byte rfl _ _ 121 rfl w.heap.size 5 i0 Tryz.underlying121 hi hz0 hz1 hz2 u3 n xs rfl w wr _ hown rfl (by omega) ?_))
     intro v1 w1 h1
     have R := HST.out v1 w1 [s[k]] HE.out 1 rfl _ rfl h1
     clear hown h1 HST
     go_wp2
     go_roundw
     case rel => exact ⟨k + 1, by omega, by go_num, R⟩
     case measure => simp [intOf]; omega
  ·obtain rfl : k = s.size := by omega
   unfold PHRel at hown
   rw [← size_list, List.take_length] at hown
   have hcv := run_string _ _ _ _ _ hown
   have hbel := hown.2.1
   clear hown
   go_wp2
   go_ret
   exact ⟨rfl, hbel⟩
def kpre (wd : ByteArray) (ps : List ByteArray) (k : Nat) : List UInt8 := pkOf wd (ps.take k)
theorem glue_snoc : ∀ (r : List (List UInt8)) (x y : List UInt8), glue x (r ++ [y]) = glue x r ++ 47 :: y
 | [], x, y => rfl
 | z :: r, x, y => by rw [List.cons_append, glue, glue_snoc r z y, glue]; simp
theorem kpre_succ (wd : ByteArray) (ps : List ByteArray) (k : Nat) (h : k < ps.length) : kpre wd ps k ++ [47] ++ esc ps[k].data.toList = kpre wd ps (k + 1) := by
 unfold kpre pkOf key
 rw [List.take_succ_eq_append_getElem h, List.map_append, List.map_append, List.map_cons, List.map_nil, List.map_cons, List.map_nil, glue_snoc]
 simp
theorem sum_take : ∀ (ps : List ByteArray) (k : Nat), ((ps.take k).map ByteArray.size).sum ≤ (ps.map ByteArray.size).sum
 | [], k => by simp
 | p :: ps, 0 => by simp
 | p :: ps, k + 1 => by have := sum_take ps k; simp only [List.take_succ_cons, List.map_cons, List.sum_cons]; omega
theorem kpre_len (wd : ByteArray) (ps : List ByteArray) (k : Nat) : (kpre wd ps k).length ≤ 2 * tot wd ps := by
 have h1 := pkOf_len wd (ps.take k)
 have h2 := sum_take ps k
 have h3 : (ps.take k).length ≤ ps.length := by rw [List.length_take]; omega
 unfold kpre
 unfold tot at h1 ⊢
 omega
theorem rPJoin (wd : ByteArray) (v : Value) (ps : List ByteArray) (w : World) (hT : Txs w w.heap.size v ps) (ht : tot wd ps ≤ 10000000) :
  Calls qP 89 #[.string wd, v] w fun e w' => e = .returned (.string (bs (pkOf wd ps))) ∧ Below w.heap.size w w' := by
 have hbig : ps.length ≤ 10000000 := by unfold tot at ht; omega
 have H1 := qH (fun w => rHidden wd w (by unfold tot at ht; omega))
 have H2 := qH (fun k (h : k < ps.length) w => rHidden ps[k] w (by have := le_sum (List.getElem_mem h); unfold tot at ht; omega))
 have HS := qH (fun k (h : k < ps.length) => show ps[k].size ≤ 10000000 by have := le_sum (List.getElem_mem h); unfold tot at ht; omega)
 have HT := qH ht
 clear ht
 obtain ⟨A, c, rfl, hc⟩ := hT
 have HC := qH hc
 clear hc
 go_enter Tryz.func89, Tryz.ntmps89
 go_wp2_with fail
 refine (H1.out w).mono ?_
 rintro e w1 ⟨rfl, b1⟩
 go_wp2
 go_loopw [5, 6] (fun v i wr => ∃ k : Nat, k ≤ ps.length ∧ i = .int .i64 k ∧ v = .string (bs (kpre wd ps k)) ∧ Below w.heap.size w wr) (fun _ i _ => ps.length - (intOf i).toNat)
 case atStart => exact ⟨0, Nat.zero_le _, rfl, rfl, b1⟩
 case round =>
  obtain ⟨k, hk, rfl, rfl, hbel⟩ := hrel
  by_cases hlt : k < ps.length
  ·obtain ⟨b, off, rfl, hb, hcell⟩ := HC.out k hlt
   have c1 : wr.cell? ⟨b, off + k, none⟩ = some (.string ps[k]) := (hbel.cell (p := ⟨b, off + k, none⟩) hb).trans hcell
   have hi1 : (k : Int) < (ps.length : Int) := by omega
   have HX := qH (H2.out k hlt wr)
   have HF := qH (kpre_succ wd ps k hlt)
   have hl1 := kpre_len wd ps k
   have hl2 := esc_len ps[k].data.toList
   have hl3 := HS.out k hlt
   rw [size_list] at hl2
   have ht := HT.out
   have hadd1 : ∀ W, (Op.stringOp .add (bs (kpre wd ps k)) ⟨#[47]⟩).run qP W = .ok (.string (bs (kpre wd ps k ++ [47]))) W := fun W => run_add W (kpre wd ps k) [47] (by simp; omega)
   have hadd2 := fun W => run_add W (kpre wd ps k ++ [47]) (esc ps[k].data.toList) (by simp; omega)
   generalize esc ps[k].data.toList = z at *
   generalize ps[k] = p at *
   clear hcell hl1 hl2 ht hl3
   go_wp2_with fail
   refine HX.out.mono ?_
   rintro e w2 ⟨rfl, b2⟩
   have b3 := step_below hbel b2
   go_wp2
   go_roundw
   case rel => exact ⟨k + 1, by omega, by go_num, by rw [← HF.out]; simp, b3⟩
   case measure => simp [intOf]; omega
  ·obtain rfl : k = ps.length := by omega
   have HE := qH (show kpre wd ps ps.length = pkOf wd ps by rw [kpre, List.take_length])
   go_wp2
   go_ret
   exact ⟨by rw [HE.out]; rfl, hbel⟩
section
variable {w : World} {A : Option Addr} {cap : Nat} {l : List KV}
theorem prs_cut (T : TypeId) (hT : qP.underlying T = some (.slice (qP.elem T))) (hE : qP.elem T = 36) (h : Prs w (.slice A l.length cap) l) (i : Nat) (hi : i ≤ l.length) :
  ∃ A' c', (∀ W, (Instr.slice T (.slice A l.length cap) (some (.int .i64 i)) none none).run qP W = .ok (.slice A' (l.drop i).length c') W) ∧ Prs w (.slice A' (l.drop i).length c') (l.drop i) := by
 obtain ⟨A0, cap0, e, hcap, hc⟩ := h
 cases e
 refine ⟨_, cap - i, fun W => ?_, ⟨if cap = i then A else A.map (·.add (i * 2)), cap - i, rfl, by rw [List.length_drop]; omega, fun j hj => ?_⟩⟩
 ·obtain ⟨i0, hi0, hz0, hz1, hz2⟩ := info_parts infoPair
  have hr := run_slice_l (P := qP) (w := W) T A l.length cap hT .i64 i (by omega) (by omega)
  rw [hE, run_sizeOf W hi0, show qP.cellsOf 36 = 2 by kernel_rfl] at hr
  rw [hr, List.length_drop]
  simp [Result.andThen, sliced]
 ·rw [List.length_drop] at hj
  obtain ⟨b, off, rfl, h1, h2⟩ := hc (i + j) (by omega)
  refine ⟨b, off + i * 2, ?_, ?_, ?_⟩
  ·rw [if_neg (by omega), Option.map_some, add_far]
  ·rw [List.getElem_drop, show off + i * 2 + j * 2 = off + (i + j) * 2 by omega]; exact h1
  ·rw [List.getElem_drop, show off + i * 2 + j * 2 + 1 = off + (i + j) * 2 + 1 by omega]; exact h2
theorem prs_upto (T : TypeId) (hT : qP.underlying T = some (.slice (qP.elem T))) (hE : qP.elem T = 36) (h : Prs w (.slice A l.length cap) l) (i : Nat) (hi : i ≤ l.length) :
  (∀ W, (Instr.slice T (.slice A l.length cap) none (some (.int .i64 i)) none).run qP W = .ok (.slice A i cap) W) ∧ Prs w (.slice A i cap) (l.take i) := by
 obtain ⟨A0, cap0, e, hcap, hc⟩ := h
 cases e
 refine ⟨fun W => ?_, ⟨A, cap, by rw [List.length_take, Nat.min_eq_left hi], by rw [List.length_take]; omega, fun j hj => ?_⟩⟩
 ·obtain ⟨i0, hi0, hz0, hz1, hz2⟩ := info_parts infoPair
  have hr := run_slice_h (P := qP) (w := W) T A l.length cap hT .i64 i (by omega) (by omega)
  rw [hE, run_sizeOf W hi0, show qP.cellsOf 36 = 2 by kernel_rfl] at hr
  rw [hr]
  cases A <;> simp [Result.andThen, sliced]
  rename_i a
  rcases a with ⟨b, off, x⟩
  cases x <;> simp [Addr.add]
 ·rw [List.length_take] at hj
  obtain ⟨b, off, rfl, h1, h2⟩ := hc j (by omega)
  exact ⟨b, off, rfl, by rw [List.getElem_take]; exact h1, by rw [List.getElem_take]; exact h2⟩
end
def OwnPrs (B : Nat) (v : Value) (l : List KV) (W0 w : World) : Prop := w.ownsRow B 36 2 v l.length (prVals l) ∧ Below B W0 w ∧ B ≤ w.heap.size
theorem OwnPrs_nil (w : World) : OwnPrs w.heap.size (.slice none 0 0) [] w w := ⟨World.ownsRow_nil _ _ _ _, Below.refl _ _, Nat.le_refl _⟩
section
variable {B : Nat} {v : Value} {l : List KV} {W0 w w' : World}
theorem OwnPrs.after (h : OwnPrs B v l W0 w) (k : Below w.heap.size w w') : OwnPrs B v l W0 w' :=
 ⟨h.1.kept (row := none) ⟨k.os, k.tape, k.output, k.size, fun i hi _ => k.block i hi⟩ (by cases hv : v.ownBlock <;> simp), h.2.1.trans (k.mono h.2.2), Nat.le_trans h.2.2 k.size⟩
theorem OwnPrs.alloc (h : OwnPrs B v l W0 w) (o : Obj) : OwnPrs B v l W0 (w.alloc o) := h.after ((Below.refl _ _).alloc (Nat.le_refl _) _)
theorem OwnPrs.prs (h : OwnPrs B v l W0 w) : Prs w v l := Prs.of_own h.1
theorem OwnPrs.below (h : OwnPrs W0.heap.size v l W0 w) : Below W0.heap.size W0 w := h.2.1
end
theorem wpList_append_ownPrs {ops : Array Oper} {rest : List Oper} {o : Oper} {a : Act} {Q : Exit → Act → World → Prop} (w : World) (hgd : o.guard = none) (s x : Operand) (T : TypeId) (hT : qP.underlying T = some (.slice 36))
  (ho : o.op = .call { callee := .builtin .append, args := #[s, x], argTypes := #[T, T] }) (B : Nat) (v y : Value) (l m : List KV) (hs : a.eval s = v) (hx : a.eval x = y) (W0 : World)
  (hown : OwnPrs B v l W0 w) (hP : Prs w y m) (hlen : l.length + m.length ≤ 1000000000)
  (h : ∀ v' w', OwnPrs B v' (l ++ m) W0 w' → wpList qP ops Q rest (a.put o.dst v') w') : wpList qP ops Q (o :: rest) a w :=
 wpList_append_prs w hgd s x T hT ho B v y l m hs hx hown.1 hP hown.2.2 hlen fun v' w' h1 h2 _ => h v' w' ⟨h1, hown.2.1.grown h2 hown.2.2 (fun k hk => (hown.1.lt k hk).1), Nat.le_trans hown.2.2 h2.size⟩
section
variable {w : World} {A : Option Addr} {cap : Nat} {l : List KV}
theorem prs_from (h : Prs w (.slice A l.length cap) l) (i : Nat) (hi : i ≤ l.length) :
  ∃ A' c', (∀ W, (Instr.slice 27 (.slice A l.length cap) (some (.int .i64 i)) none none).run qP W = .ok (.slice A' (l.drop i).length c') W) ∧ Prs w (.slice A' (l.drop i).length c') (l.drop i) :=
 prs_cut 27 (by kernel_rfl) (by kernel_rfl) h i hi
end
theorem rGet (s : Value) (l : List KV) (k : ByteArray) (w : World) (hP : Prs w s l) (hu : Up l) (hz : l.length ≤ 1000000000) :
  Calls qP 17 #[s, .string k] w fun e w' => e = .returned (retGet (lget l k)) ∧ w' = w := by
 have H1 := qH (rAt s l k w hP hz)
 obtain ⟨A, cap, rfl, hcap, hc⟩ := hP
 have hN := latN_le l k
 rcases latN_parts hu k with ⟨h1, h2, _⟩ | ⟨h1, h2, h3, _⟩ | ⟨h1, h2, h3, _, _⟩
 ·rw [h2]
  generalize latN l k = i at *
  have hl : ¬ (i : Int) < l.length := by omega
  unfold retGet
  simp only [Option.getD_none, Option.isSome_none]
  clear hc hu h2
  go_enter Tryz.func17, Tryz.ntmps17
  go_wp2_with fail
  refine H1.out.mono ?_
  rintro e w' ⟨rfl, rfl⟩
  go_wp2
  go_returns
  exact ⟨rfl, rfl⟩
 ·rw [h3]
  generalize latN l k = i at *
  obtain ⟨b, off, rfl, c1, c2⟩ := hc i h1
  have hl : (i : Int) < l.length := by omega
  have hl0 : (0 : Int) ≤ i := by omega
  have hne := str_ne h2
  generalize (l[i]'h1).1 = x at *
  unfold retGet
  simp only [Option.getD_none, Option.isSome_none]
  clear hc hu h2 h3
  go_enter Tryz.func17, Tryz.ntmps17
  go_wp2_with fail
  refine H1.out.mono ?_
  rintro e w' ⟨rfl, rfl⟩
  go_wp2
  go_returns
  exact ⟨rfl, rfl⟩
 ·rw [h3]
  generalize latN l k = i at *
  obtain ⟨b, off, rfl, c1, c2⟩ := hc i h1
  have hl : (i : Int) < l.length := by omega
  have hl0 : (0 : Int) ≤ i := by omega
  rw [h2] at c1
  generalize (l[i]'h1).2 = x at *
  unfold retGet
  simp only [Option.getD_some, Option.isSome_some]
  clear hc hu h2 h3
  go_enter Tryz.func17, Tryz.ntmps17
  go_wp2_with fail
  refine H1.out.mono ?_
  rintro e w' ⟨rfl, rfl⟩
  go_wp2
  go_returns
  exact ⟨rfl, rfl⟩
theorem refS_und : qP.underlying 27 = some (.slice (qP.elem 27)) := by kernel_rfl
theorem refS_elem : qP.elem 27 = 36 := by kernel_rfl
theorem rSetNew (A : Option Addr) (cap : Nat) (l : List KV) (k v : ByteArray) (i : Nat) (w : World) (hP : Prs w (.slice A l.length cap) l) (hi : i ≤ l.length) (hz : l.length + 1 ≤ 1000000000)
  (H : Calls qP 53 #[.slice A l.length cap, .string k] w fun e w' => e = .returned (.int .i64 i) ∧ w' = w)
  (hn : i = l.length ∨ ∃ h : i < l.length, (l[i]'h).1 ≠ k) :
  Calls qP 73 #[.slice A l.length cap, .string k, .string v] w fun e w' => ∃ v', e = .returned (.tuple #[v', .bool true]) ∧ OwnPrs w.heap.size v' (l.take i ++ [(k, v)] ++ l.drop i) w w' := by
 have H1 := qH H
 obtain ⟨A1, c1, hs1, P1⟩ := prs_from hP i hi
 obtain ⟨hs2, P2⟩ := prs_upto _ refS_und refS_elem hP i hi
 have HP1 := qH P1
 have HP2 := qH P2
 have HO := qH (OwnPrs_nil w)
 have hl1 : (l.take i).length = i := by rw [List.length_take]; omega
 have hl2 : (l.drop i).length = l.length - i := List.length_drop
 obtain ⟨A0, cap0, e0, hcap, hc⟩ := hP
 cases e0
 have HL := qH (And.intro hi (And.intro hz (And.intro hl1 hl2)))
 clear H P1 P2 hz hl1 hl2
 rcases hn with hn | ⟨hlt, hne⟩
 ·have he : ((i : Int) == (l.length : Int)) = true := by simp; omega
  clear hn hc
  generalize l.drop i = M at *
  generalize l.take i = L at *
  go_enter Tryz.func73, Tryz.ntmps73
  go_wp2_with fail
  refine H1.out.mono ?_
  rintro e w' ⟨rfl, rfl⟩
  go_wp2_with (first
   | (at_builtin; refine wpList_append_ownPrs _ rfl _ _ 27 Tryz.underlying27 rfl w'.heap.size v2 _ (L ++ [(k, v)]) M rfl rfl w' o2.out (HP1.out.below (OwnPrs.below o2.out)) (by have := HL.out; simp; omega) ?_; intro v3 w3 o3)
   | (at_builtin; refine wpList_append_ownPrs _ rfl _ _ 27 Tryz.underlying27 rfl w'.heap.size v1 _ L [(k, v)] rfl rfl w' (o1.out.alloc _) (prs_built _ (k, v)) (by have := HL.out; simp; omega) ?_; intro v2 w2 o2; replace o2 := qH o2; clear o1)
   | (at_builtin; refine wpList_append_ownPrs _ rfl _ _ 27 Tryz.underlying27 rfl w'.heap.size (.slice none 0 0) _ [] L rfl rfl w' HO.out HP2.out (by have := HL.out; simp; omega) ?_; intro v1 w1 o1; replace o1 := qH o1))
  go_returns
  exact ⟨_, rfl, o3⟩
 ·have he : ((i : Int) == (l.length : Int)) = false := by simp; omega
  obtain ⟨b, off, rfl, d1, d2⟩ := hc i hlt
  have hne := str_ne hne
  have hx0 : (0 : Int) ≤ i := by omega
  have hx1 : (i : Int) < l.length := by omega
  generalize (l[i]'hlt).1 = x at *
  clear hc d2
  generalize l.drop i = M at *
  generalize l.take i = L at *
  go_enter Tryz.func73, Tryz.ntmps73
  go_wp2_with fail
  refine H1.out.mono ?_
  rintro e w' ⟨rfl, rfl⟩
  go_wp2_with (first
   | (at_builtin; refine wpList_append_ownPrs _ rfl _ _ 27 Tryz.underlying27 rfl w'.heap.size v2 _ (L ++ [(k, v)]) M rfl rfl w' o2.out (HP1.out.below (OwnPrs.below o2.out)) (by have := HL.out; simp; omega) ?_; intro v3 w3 o3)
   | (at_builtin; refine wpList_append_ownPrs _ rfl _ _ 27 Tryz.underlying27 rfl w'.heap.size v1 _ L [(k, v)] rfl rfl w' (o1.out.alloc _) (prs_built _ (k, v)) (by have := HL.out; simp; omega) ?_; intro v2 w2 o2; replace o2 := qH o2; clear o1)
   | (at_builtin; refine wpList_append_ownPrs _ rfl _ _ 27 Tryz.underlying27 rfl w'.heap.size (.slice none 0 0) _ [] L rfl rfl w' HO.out HP2.out (by have := HL.out; simp; omega) ?_; intro v1 w1 o1; replace o1 := qH o1))
  go_returns
  exact ⟨_, rfl, o3⟩
theorem rSetOld (A : Option Addr) (cap : Nat) (l : List KV) (k v : ByteArray) (i : Nat) (w : World) (hP : Prs w (.slice A l.length cap) l) (hlt : i < l.length) (hz : l.length + 1 ≤ 1000000000)
  (H : Calls qP 53 #[.slice A l.length cap, .string k] w fun e w' => e = .returned (.int .i64 i) ∧ w' = w)
  (hn : (l[i]'hlt).1 = k) :
  Calls qP 73 #[.slice A l.length cap, .string k, .string v] w fun e w' => ∃ v', e = .returned (.tuple #[v', .bool false]) ∧ OwnPrs w.heap.size v' (l.take i ++ [(k, v)] ++ l.drop (i + 1)) w w' := by
 have H1 := qH H
 obtain ⟨A1, c1, hs1, P1⟩ := prs_from hP (i + 1) hlt
 obtain ⟨A3, c3, hs3, _⟩ := prs_from hP i (by omega)
 obtain ⟨hs2, P2⟩ := prs_upto _ refS_und refS_elem hP i (by omega)
 have HP1 := qH P1
 have HP2 := qH P2
 have HO := qH (OwnPrs_nil w)
 have hl1 : (l.take i).length = i := by rw [List.length_take]; omega
 have hl2 : (l.drop (i + 1)).length = l.length - (i + 1) := List.length_drop
 obtain ⟨A0, cap0, e0, hcap, hc⟩ := hP
 cases e0
 have HL := qH (And.intro hlt (And.intro hz (And.intro hl1 hl2)))
 have hw : IntKind.i64.wrap ((i : Int) + 1) = ((i + 1 : Nat) : Int) := by rw [IntWalk.i64_in _ (by omega)]; omega
 have he : ((i : Int) == (l.length : Int)) = false := by simp; omega
 obtain ⟨b, off, rfl, d1, d2⟩ := hc i hlt
 rw [hn] at d1
 have hx0 : (0 : Int) ≤ i := by omega
 have hx1 : (i : Int) < l.length := by omega
 clear hc d2 H P1 P2 hz hl1 hl2 hn
 generalize l.drop (i + 1) = M at *
 generalize l.take i = L at *
 generalize l.drop i = M' at *
 obtain ⟨j, hj⟩ : ∃ j, j = i + 1 := ⟨_, rfl⟩
 rw [← hj] at hw hs1
 clear hj
 go_enter Tryz.func73, Tryz.ntmps73
 go_wp2_with fail
 refine H1.out.mono ?_
 rintro e w' ⟨rfl, rfl⟩
 go_wp2_with (first
  | (at_builtin; refine wpList_append_ownPrs _ rfl _ _ 27 Tryz.underlying27 rfl w'.heap.size v2 _ (L ++ [(k, v)]) M rfl rfl w' o2.out (HP1.out.below (OwnPrs.below o2.out)) (by have := HL.out; simp; omega) ?_; intro v3 w3 o3)
  | (at_builtin; refine wpList_append_ownPrs _ rfl _ _ 27 Tryz.underlying27 rfl w'.heap.size v1 _ L [(k, v)] rfl rfl w' (o1.out.alloc _) (prs_built _ (k, v)) (by have := HL.out; simp; omega) ?_; intro v2 w2 o2; replace o2 := qH o2; clear o1)
  | (at_builtin; refine wpList_append_ownPrs _ rfl _ _ 27 Tryz.underlying27 rfl w'.heap.size (.slice none 0 0) _ [] L rfl rfl w' HO.out HP2.out (by have := HL.out; simp; omega) ?_; intro v1 w1 o1; replace o1 := qH o1))
 go_returns
 exact ⟨_, rfl, o3⟩
theorem rSet (s : Value) (l : List KV) (k v : ByteArray) (w : World) (hP : Prs w s l) (hu : Up l) (hz : l.length + 1 ≤ 1000000000) :
  Calls qP 73 #[s, .string k, .string v] w fun e w' => ∃ v', e = .returned (.tuple #[v', .bool (!(lget l k).isSome)]) ∧ OwnPrs w.heap.size v' (lset l k v) w w' := by
 have H := rAt s l k w hP (by omega)
 have hP' := hP
 obtain ⟨A, cap, rfl, _, _⟩ := hP'
 rcases latN_parts hu k with ⟨h1, h2, h3⟩ | ⟨h1, h2, h3, h4⟩ | ⟨h1, h2, h3, h4, _⟩
 ·have := rSetNew A cap l k v _ w hP (latN_le l k) hz H (.inl h1)
  rw [h1, List.take_length, List.drop_length, List.append_nil, ← h3 v] at this
  rw [h2]
  exact this
 ·rw [h3, h4 v]
  exact rSetNew A cap l k v _ w hP (latN_le l k) hz H (.inr ⟨h1, h2⟩)
 ·rw [h3, h4 v]
  exact rSetOld A cap l k v _ w hP h1 hz H h2
theorem rNum (n : Int) (w : World) :
  Calls qP 123 #[.int .i64 n] w fun e w' => e = .returned (retSE (encNum n)) ∧ Below w.heap.size w w' := by
 by_cases h0 : 0 ≤ n
 ·by_cases h1 : n ≤ 9007199254740992
  ·obtain ⟨m, rfl⟩ := Int.eq_ofNat_of_zero_le h0
   have HE := qH (show encNum m = (num m, 0) by simp [encNum, h1])
   have hle := be_len_le m 7 (by omega)
   go_enter Tryz.func123, Tryz.ntmps123
   go_wp2
   go_loopw [0, 4] (fun n s wr => ∃ (j : Nat) (t : List UInt8), n = .int .i64 j ∧ s = .string (bs t) ∧ j ≤ 9007199254740992 ∧ Hid (be j ++ t = be m) ∧ Below w.heap.size w wr) (fun n _ _ => (intOf n).toNat)
   case atStart => exact ⟨m, [], rfl, rfl, by omega, by unfold Hid; simp, Below.refl _ _⟩
   case round =>
    obtain ⟨j, t, rfl, rfl, hj, hcat, hbel⟩ := hrel
    have htl : t.length ≤ 7 := by have := congrArg List.length hcat.out; rw [List.length_append] at this; omega
    have hsz := hbel.size
    by_cases hpos : 0 < j
    ·have hcv := run_one wr ((j : Int) % 256) (by omega) (by omega)
     have hadd := fun W => run_add W [UInt8.ofNat (j % 256)] t (by simp; omega)
     go_wp2
     go_roundw
     case rel =>
      refine ⟨j / 256, UInt8.ofNat (j % 256) :: t, by go_num, rfl, by omega, ?_, hbel.alloc hsz _⟩
      have e := be_pos (n := j) (by omega)
      have h2 := hcat.out
      rw [e] at h2
      unfold Hid
      rw [← h2]
      simp
     case measure => simp [intOf]; omega
    ·obtain rfl : j = 0 := by omega
     have ht : t = be m := by have := hcat.out; rwa [be_zero, List.nil_append] at this
     subst ht
     have hl : (bs (be m)).size = (be m).length := bs_size _
     have hcv := run_one wr ((be m).length : Int) (by omega) (by omega)
     have hadd := fun W => run_add W [UInt8.ofNat (be m).length] (be m) (by simp; omega)
     go_wp2
     go_ret2
     refine ⟨by rw [HE.out]; rfl, hbel.alloc hsz _⟩
  ·have HE := qH (show encNum n = ([], 3) by simp [encNum, h1])
   go_enter Tryz.func123, Tryz.ntmps123
   go_wp2
   go_ret2
   exact ⟨by rw [HE.out]; rfl, Below.refl _ _⟩
 ·have HE := qH (show encNum n = ([], 3) by simp [encNum, h0])
  go_enter Tryz.func123, Tryz.ntmps123
  go_wp2
  go_ret2
  exact ⟨by rw [HE.out]; rfl, Below.refl _ _⟩
theorem run_add_text (W : World) (s : ByteArray) (h : s.size ≤ 65536) : (Op.stringOp .add (bs (num s.size)) s).run qP W = .ok (.string (bs (text s.data.toList))) W := by
 have hl := be_len_le s.size 7 (by omega)
 rw [run_string_add_sum W (bs (num s.size)) s (by rw [bs_size, num_len]; omega)]
 have e : bs (num s.size) ++ s = bs (text s.data.toList) := by
  conv => lhs; rw [← bs_of s]
  rw [bs_append, bs_of]
  unfold text
  rw [size_list]
 rw [e]
theorem encNum_small (n : Nat) (h : n ≤ 9007199254740992) : encNum n = (num n, 0) := by
 unfold encNum
 rw [if_pos ⟨by omega, by omega⟩, Int.toNat_natCast]
theorem rText (s : ByteArray) (w : World) :
  Calls qP 93 #[.string s] w fun e w' => e = .returned (retSE (encText s)) ∧ Below w.heap.size w w' := by
 by_cases h1 : s.size ≤ 65536
 ·have HE := qH (show encText s = (text s.data.toList, 0) by simp [encText, h1])
  have hr := rNum s.size w
  rw [encNum_small s.size (by omega)] at hr
  have HA := qH hr
  clear hr
  have hadd := fun W => run_add_text W s h1
  go_enter Tryz.func93, Tryz.ntmps93
  go_wp2_with fail
  refine HA.out.mono ?_
  rintro e w1 ⟨rfl, hb⟩
  unfold retSE
  go_wp2
  go_ret2
  exact ⟨by rw [HE.out]; rfl, hb⟩
 ·have HE := qH (show encText s = ([], 4) by simp [encText, h1])
  go_enter Tryz.func93, Tryz.ntmps93
  go_wp2
  go_ret2
  exact ⟨by rw [HE.out]; rfl, Below.refl _ _⟩
theorem ret_w {a b : Nat} (h : a = b) : Ending.returned (.int .u32 (a : Int)) = .returned (.int .u32 (b : Int)) := by rw [h]
theorem val_w {a : Int} {b : Nat} (h : a = (b : Int)) : Value.int .u32 a = .int .u32 (b : Int) := by rw [h]
theorem ofInt_nat (a : Nat) : (BitVec.ofInt 32 (a : Int)).toNat = a % 4294967296 := by
 rw [BitVec.ofInt_natCast, BitVec.toNat_ofNat]
theorem ofInt_lit : (BitVec.ofInt 32 (4294967295 : Int)).toNat = 4294967295 := by decide
theorem r_add (a b : Nat) : ((a : Int) + (b : Int)) % 4294967296 = (wadd a b : Nat) := by unfold wadd; omega
theorem r_xor (a b : Nat) : bits .xor .u32 (a : Int) (b : Int) = (wxor a b : Nat) := by
 show IntKind.u32.wrap ((BitVec.ofInt 32 (a : Int) ^^^ BitVec.ofInt 32 (b : Int)).toNat : Int) = _
 rw [BitVec.toNat_xor, ofInt_nat, ofInt_nat, IntKind.wrap_u32, ← Nat.xor_mod_two_pow (n := 32)]
 unfold wxor
 omega
theorem r_and (a b : Nat) : bits .and .u32 (a : Int) (b : Int) = (wand a b : Nat) := by
 show IntKind.u32.wrap ((BitVec.ofInt 32 (a : Int) &&& BitVec.ofInt 32 (b : Int)).toNat : Int) = _
 rw [BitVec.toNat_and, ofInt_nat, ofInt_nat, IntKind.wrap_u32, ← Nat.and_mod_two_pow (n := 32)]
 unfold wand
 omega
theorem r_or (a b : Nat) : bits .or .u32 (a : Int) (b : Int) = (wor a b : Nat) := by
 show IntKind.u32.wrap ((BitVec.ofInt 32 (a : Int) ||| BitVec.ofInt 32 (b : Int)).toNat : Int) = _
 rw [BitVec.toNat_or, ofInt_nat, ofInt_nat, IntKind.wrap_u32, ← Nat.or_mod_two_pow (n := 32)]
 unfold wor
 omega
theorem or_byteS (y : Nat) (c : UInt8) : bits .or .u32 (y : Int) ((c.toNat : Int) % 4294967296) = (wor y c.toNat : Nat) := by
 have h := c.toNat_lt
 rw [show ((c.toNat : Int) % 4294967296) = (c.toNat : Int) by omega]
 exact r_or y c.toNat
theorem r_not (a : Nat) : bits .xor .u32 IntKind.u32.max (a : Int) = (wnot a : Nat) := by
 rw [show IntKind.u32.max = 4294967295 by decide]
 show IntKind.u32.wrap ((BitVec.ofInt 32 (4294967295 : Int) ^^^ BitVec.ofInt 32 (a : Int)).toNat : Int) = _
 rw [BitVec.toNat_xor, ofInt_nat, ofInt_lit, IntKind.wrap_u32, show (4294967295 : Nat) = 4294967295 % 2 ^ 32 by decide, show (4294967296 : Nat) = 2 ^ 32 by decide, ← Nat.xor_mod_two_pow (n := 32)]
 unfold wnot
 omega
theorem r_shl (a n : Nat) : ((a : Int) * 2 ^ n) % 4294967296 = (wshl a n : Nat) := by
 unfold wshl
 rw [Int.natCast_emod, Int.natCast_mul, Int.natCast_pow]
 rfl
theorem r_shr (a n : Nat) : (a : Int) / 2 ^ n = (wshr a n : Nat) := by
 unfold wshr
 rw [Int.natCast_ediv, Int.natCast_pow]
 rfl
theorem rot (x n m : Nat) (k : Int) (hk : bits .and .u64 (IntKind.u64.wrap k) 31 = (m : Int)) (hm : m + n = 32) (w : World) :
  Calls qP 230 #[.int .u32 x, .int .i64 k] w fun e w' => e = .returned (.int .u32 (rotr x n)) ∧ w = w' := by
 have hor := r_or
 have hl := r_shl x m
 have hr := r_shr x n
 have hn : ((32 : Int) - (m : Int)).toNat = n := by omega
 have hm1 : (m : Int) ≤ 32 := by omega
 have hm2 : (0 : Int) ≤ 32 - (m : Int) := by omega
 have hm3 : (32 : Int) - (m : Int) ≤ 32 := by omega
 have e : wor (wshl x m) (wshr x n) = rotr x n := by unfold rotr; rw [show 32 - n = m by omega]
 have E := qH e
 have HM := qH hm
 clear e hm
 go_enter Tryz.func230, Tryz.ntmps230
 go_wp2
 go_ret
 exact ⟨ret_w E.out, rfl⟩
theorem turned (x n m : Nat) (hm : m + n = 32) (w : World) :
  Calls qP 161 #[.int .u32 x, .int .u64 n] w fun e w' => e = .returned (.int .u32 (rotr x n)) ∧ w = w' := by
 have hor := r_or
 have hl := r_shl x m
 have hr := r_shr x n
 have hn : ((32 : Int) - (n : Int)).toNat = m := by omega
 have hm1 : (n : Int) ≤ 32 := by omega
 have hm2 : (0 : Int) ≤ 32 - (n : Int) := by omega
 have hm3 : (32 : Int) - (n : Int) ≤ 32 := by omega
 have e : wor (wshr x n) (wshl x m) = rotr x n := by unfold rotr; rw [show 32 - n = m by omega, wor_comm]
 have E := qH e
 have HM := qH hm
 clear e hm
 go_enter Tryz.func161, Tryz.ntmps161
 go_wp2
 go_ret
 exact ⟨ret_w E.out, rfl⟩
theorem word_in (s : ByteArray) (p k : Nat) (h : p + k < s.size) : wor (wshl (wordTo s.data.toList p k) 8) (s[p + k]).toNat = wordTo s.data.toList p (k + 1) := by
 show _ = wor (wshl (wordTo s.data.toList p k) 8) (byteAt s.data.toList (p + k))
 rw [byteAt_in s (p + k) h]
theorem word_out (s : ByteArray) (p k : Nat) (h : s.size ≤ p + k) : wshl (wordTo s.data.toList p k) 8 = wordTo s.data.toList p (k + 1) := by
 show _ = wor (wshl (wordTo s.data.toList p k) 8) (byteAt s.data.toList (p + k))
 rw [byteAt_out s (p + k) h, wor_zero _ (wshl_lt _ _)]
theorem word (s : ByteArray) (p : Nat) (w : World) (hp : p ≤ 64) (hs : s.size ≤ maxLen) :
  Calls qP 231 #[.string s, .int .i64 p] w fun e w' => e = .returned (.int .u32 (wordTo s.data.toList p 4)) ∧ w = w' := by
 unfold maxLen at hs
 go_enter Tryz.func231, Tryz.ntmps231
 go_wp2
 go_loop [5, 7] (fun x i => ∃ k y : Nat, k ≤ 4 ∧ i = .int .i64 k ∧ x = .int .u32 y ∧ Hid (y = wordTo s.data.toList p k)) (fun _ i => 4 - (intOf i).toNat)
 case atStart => exact ⟨0, 0, by omega, rfl, rfl, qH rfl⟩
 case round =>
  obtain ⟨k, y, hk, rfl, rfl, hy⟩ := hrel
  by_cases hlt : k < 4
  ·have hsh := r_shl y 8
   simp only [show (2 : Int) ^ 8 = 256 by decide] at hsh
   have hor := r_or
   by_cases hin : p + k < s.size
   ·have hw := qH (word_in s p k hin)
    go_wp2
    go_round
    case rel => exact ⟨k + 1, wor (wshl y 8) (s[p + k]).toNat, by omega, by go_num, val_w (or_byteS _ _), qH (by rw [hy.out]; exact hw.out)⟩
    case measure => simp [intOf]; omega
   ·have hw := qH (word_out s p k (by omega))
    go_wp2
    go_round
    case rel => exact ⟨k + 1, wshl y 8, by omega, by go_num, val_w hsh, qH (by rw [hy.out]; exact hw.out)⟩
    case measure => simp [intOf]; omega
  ·obtain rfl : k = 4 := by omega
   go_wp2
   go_ret
   exact ⟨ret_w hy.out, rfl⟩
theorem rword (s : ByteArray) (p : Nat) (w : World) (hp : p ≤ 64) (hs : s.size ≤ maxLen) :
  Calls qP 160 #[.string s, .int .i64 p] w fun e w' => e = .returned (.int .u32 (wordTo s.data.toList p 4)) ∧ w = w' := by
 unfold maxLen at hs
 go_enter Tryz.func160, Tryz.ntmps160
 go_wp2
 go_loop [5, 6] (fun x i => ∃ k y : Nat, k ≤ 4 ∧ i = .int .i64 (p + k : Nat) ∧ x = .int .u32 y ∧ Hid (y = wordTo s.data.toList p k)) (fun _ i => p + 4 - (intOf i).toNat)
 case atStart => exact ⟨0, 0, by omega, rfl, rfl, qH rfl⟩
 case round =>
  obtain ⟨k, y, hk, rfl, rfl, hy⟩ := hrel
  by_cases hlt : k < 4
  ·have hsh := r_shl y 8
   simp only [show (2 : Int) ^ 8 = 256 by decide] at hsh
   have hor := r_or
   by_cases hin : p + k < s.size
   ·have hw := qH (word_in s p k hin)
    have hob := or_byteS (wshl y 8) s[p + k]
    go_wp2
    go_round
    case rel => exact ⟨k + 1, wor (wshl y 8) (s[p + k]).toNat, by omega, by go_num, rfl, qH (by rw [hy.out]; exact hw.out)⟩
    case measure => simp [intOf]; omega
   ·have hw := qH (word_out s p k (by omega))
    go_wp2
    go_round
    case rel => exact ⟨k + 1, wshl y 8, by omega, by go_num, val_w hsh, qH (by rw [hy.out]; exact hw.out)⟩
    case measure => simp [intOf]; omega
  ·obtain rfl : k = 4 := by omega
   go_wp2
   go_ret
   exact ⟨ret_w hy.out, rfl⟩
end Go.Proofs.YtkejaepmoabikaaGreatDoor.W
