/-
  Package pairs: All's function value.
-/
import Derived.Test.YtpjndgcliegloaaTFrom
import Derived.Scope
namespace Go.Proofs.Ytpjndgcliegloaa.W
open Go.RowKit Go.Shelf
attribute [local go_sem] Oper.semAt_some wide_fn wide_depth

/-- does the last one begin so? -/
def lastp (pf : ByteArray) (q : List KV) : Bool := match q.getLast? with
  | some x => pfx pf x.1
  | none => false
theorem lastp_snoc (pf : ByteArray) (pre : List KV) (x : KV) : lastp pf (pre ++ [x]) = pfx pf x.1 := by simp [lastp]
theorem stop_pfx (pf : ByteArray) (go : List KV → Bool) : ∀ ys pre : List KV,
    (stopAt (fun q => lastp pf q && go q) pre ys = none → ys.takeWhile (fun x => pfx pf x.1) = ys ∧ stopAt go pre ys = none) ∧
    ∀ q, stopAt (fun q => lastp pf q && go q) pre ys = some q → (lastp pf q = true ∧ stopAt go pre (ys.takeWhile (fun x => pfx pf x.1)) = some q) ∨
      (lastp pf q = false ∧ q.dropLast = pre ++ ys.takeWhile (fun x => pfx pf x.1) ∧ stopAt go pre (ys.takeWhile (fun x => pfx pf x.1)) = none)
  | [], pre => ⟨fun _ => ⟨rfl, rfl⟩, fun q h => by cases h⟩
  | y :: ys, pre => by
    have ih := stop_pfx pf go ys (pre ++ [y])
    simp only [stopAt, lastp_snoc]
    cases hp : pfx pf y.1 with
    | false =>
      simp only [Bool.false_and, List.takeWhile_cons, hp]
      exact ⟨fun h => by simp at h, fun q h => by
        simp at h
        subst h
        exact .inr ⟨by rw [lastp_snoc, hp], by simp, rfl⟩⟩
    | true =>
      simp only [Bool.true_and, List.takeWhile_cons, hp, if_true]
      cases hg : go (pre ++ [y]) with
      | false =>
        refine ⟨fun h => by simp at h, fun q h => ?_⟩
        simp at h
        subst h
        exact .inl ⟨by rw [lastp_snoc, hp], by rw [stopAt, if_neg (by rw [hg]; decide)]⟩
      | true =>
        simp only [if_true]
        refine ⟨fun h => ⟨by rw [(ih.1 h).1], (ih.1 h).2⟩, fun q h => ?_⟩
        rcases ih.2 q h with ⟨h1, h2⟩ | ⟨h1, h2, h3⟩
        · exact .inl ⟨h1, by rw [stopAt, if_pos hg, h2]⟩
        · exact .inr ⟨h1, by rw [h2]; simp, by rw [stopAt, if_pos hg, h3]⟩
theorem take_prefix {α : Type} {p : α → Bool} : ∀ {q xs : List α}, q <+: xs → (∀ y ∈ q, p y = true) → q <+: xs.takeWhile p
  | [], _, _, _ => ⟨_, rfl⟩
  | a :: q, [], h, _ => by cases h; contradiction
  | a :: q, b :: xs, h, hp => by
    obtain ⟨r, hr⟩ := h
    cases hr
    rw [List.takeWhile_cons, if_pos (hp a (by simp))]
    obtain ⟨u, hu⟩ := take_prefix (q := q) (xs := q ++ r) ⟨r, rfl⟩ (fun y hy => hp y (by simp [hy]))
    exact ⟨u, by rw [show q.append r = q ++ r from rfl, ← hu]; rfl⟩
theorem keepS_new {S : Nat → Prop} {W W' : World} (h : KeepS S W W') {D : Nat} (hD : W.heap.size ≤ D) (ob : Obj) : KeepS S W (W'.putObj D ob) :=
  ⟨h.os, h.tape, h.output, by simpa using h.size, fun i hi hn => (World.putObj_heap_other (by omega)).trans (h.block i hi hn)⟩
theorem roundInRound {n : Nat} {P : Program} {l : Nat} {f : FuncId} {tmps : Array Value} {assign body : Code} {w : World} {R : Ending → World → Prop} (l' : Nat) (h : RoundIn Fence.wide n P l f tmps assign body w R) : RoundIn (Fence.wide.inRound l') n P l f tmps assign body w R := h

set_option maxHeartbeats 1000000 in
theorem fromC (p : Option Addr) (low : ByteArray) (w : World) : Calls Try.prog 50 #[.pointer p, .string low] w fun e w' =>
    e = .returned (.func (.func 57) #[] #[.pointer (some ⟨w.heap.size, 0, none⟩), .pointer (some ⟨w.heap.size + 1, 0, none⟩)]) ∧ w' = (w.alloc (.cells #[.pointer p] 72)).alloc (.cells #[.string low] 9) := by
  go_enter Try.func50, Try.ntmps50
  go_wp2
  go_ret
  exact ⟨rfl, rfl⟩

set_option maxRecDepth 100000 in
set_option maxHeartbeats 1000000 in
theorem allSeq (bn bp : Nat) (o : Nat → Prop) (p : Option Addr) (pf : ByteArray) (t : BT) (w : World) (hT : TreeS o w p t) (hu : Up t.list)
    (c0 : w.cell? ⟨bn, 0, none⟩ = some (.pointer p)) (hb : Blk w bp 9 #[.string pf]) (ho : ¬ o bp) :
    SeqOf Try.prog 49 #[.pointer (some ⟨bn, 0, none⟩), .pointer (some ⟨bp, 0, none⟩)] (lall t.list pf) o w := fun n l go J Jx S W hW hJ hJx hJb hY h0 hS => by
  have d0 := (since_of hW).cell c0
  have hbW := hb.below hW hb.lt
  have d1 : W.cell? ⟨bp, 0, none⟩ = some (.string pf) := hbW.cell 0
  have nbp : ¬ S bp := fun h => ho (hS bp hb.lt h)
  have hTW : TreeS S W p t := (hT.off hS).keep (KeepS.of_below S hW) (Grows.refl S w)
  refine callsIn_of_wp_marks Try.func49 rfl trivial ?_ rfl
  simp only [Try.ntmps49, List.size_toArray, List.length_cons, List.length_nil, Nat.reduceAdd, Nat.reduceSub, Array.replicate_succ, Array.replicate_zero, List.push_toArray, List.append_toArray, List.nil_append, List.cons_append]
  gi_wp2
  obtain ⟨Wa, hWa⟩ : ∃ Wa, Wa = W.alloc (.cells #[.func (.yield l) #[] #[]] 54) := ⟨_, rfl⟩
  rw [← hWa]
  have za : Wa.heap.size = W.heap.size + 1 := by rw [hWa]; simp
  have ba : Below W.heap.size W Wa := by rw [hWa]; exact (Below.refl _ W).alloc (Nat.le_refl _) _
  have ea : Blk Wa W.heap.size 54 #[.func (.yield l) #[] #[]] := by rw [hWa]; exact Blk.new W _ _
  clear hWa
  have d0a := (since_of ba).cell d0
  have d1a := (since_of ba).cell d1
  refine wpIn_wide.2 (wp_scope_straight ((wpIn_wide (n := n)).1 ?_))
  gi_wp2
  refine wpIn_label ?_
  gi_wp2_with (gi_at_call 50; refine (callsIn_wide.2 (fromC _ _ _)).mono ?_; rintro e w' ⟨rfl, rfl⟩)
  obtain ⟨W3, hW3⟩ : ∃ W3, W3 = (Wa.alloc (.cells #[.pointer p] 72)).alloc (.cells #[.string pf] 9) := ⟨_, rfl⟩
  rw [← hW3]
  have z3 : W3.heap.size = W.heap.size + 1 + 1 + 1 := by rw [hW3]; simp [za]
  have b3 : Below W.heap.size W W3 := by rw [hW3]; exact (ba.alloc (by omega) _).alloc (by simp; omega) _
  have e0 : Blk W3 W.heap.size 54 #[.func (.yield l) #[] #[]] := by rw [hW3]; exact (ea.alloc _).alloc _
  have e1 : W3.cell? ⟨W.heap.size + 1, 0, none⟩ = some (.pointer p) := by
    rw [hW3, ← za]
    exact ((Blk.new Wa 72 #[.pointer p]).alloc (.cells #[.string pf] 9)).cell 0
  have e2 : W3.cell? ⟨W.heap.size + 1 + 1, 0, none⟩ = some (.string pf) := by
    have := Blk.new (Wa.alloc (.cells #[.pointer p] 72)) 9 #[.string pf]
    rw [World.size_alloc, za, ← hW3] at this
    exact this.cell 0
  have e3 : Blk W3 bp 9 #[.string pf] := hbW.below b3 hbW.lt
  have nS : ¬ S W.heap.size := fun h => by have := hJb _ _ _ h0 _ h; omega
  have lb := hbW.lt
  clear hW3
  refine range_seq (gf := 57) (lb := #[.pointer (some ⟨W.heap.size + 1, 0, none⟩), .pointer (some ⟨W.heap.size + 1 + 1, 0, none⟩)]) (xs := lfrom t.list pf) (o := S) (w0 := W3) rfl (enters_of Try.func57 (by kernel_rfl) rfl)
    (fromSeq (W.heap.size + 1) (W.heap.size + 1 + 1) S p pf t W3 (hTW.keep (KeepS.of_below S b3) (Grows.refl S W)) hu e1 e2) (Below.refl _ _) rfl
    (fun q => lastp pf q && go q)
    (fun pre S' W' => (∀ y ∈ pre, pfx pf y.1 = true) ∧ J pre S' W' ∧ Blk W' W.heap.size 54 #[.func (.yield l) #[] #[]] ∧ Blk W' bp 9 #[.string pf] ∧ ¬ S' W.heap.size ∧ ¬ S' bp)
    (fun c q S' W' => c = .exit 0 ∧ (lastp pf q = true → Jx q S' W') ∧ (lastp pf q = false → J q.dropLast S' W'))
    (fun pre S' A B row hs hg hr => ⟨hs.1, hJ _ _ _ _ _ hs.2.1 hg (fun r e => ⟨by have := (hr r e).1; omega, (hr r e).2⟩), hs.2.2.1.grown hg (fun e => by have := (hr _ e.symm).1; omega), hs.2.2.2.1.grown hg (fun e => by have := (hr _ e.symm).1; omega), hs.2.2.2.2⟩)
    (fun c pre S' A B row hs hg hr => ⟨hs.1, fun h => hJx _ _ _ _ _ (hs.2.1 h) hg (fun r e => ⟨by have := (hr r e).1; omega, (hr r e).2⟩), fun h => hJ _ _ _ _ _ (hs.2.2 h) hg (fun r e => ⟨by have := (hr r e).1; omega, (hr r e).2⟩)⟩)
    (fun pre S' W' hs => hJb _ _ _ hs.2.1) S
    ⟨fun y hy => (by cases hy), hJ.below h0 b3, e0, e3, nS, nbp⟩ (fun i _ h => h)
    (fun x => { tmps := #[.func (.yield l) #[] #[], .pointer (some ⟨bn, 0, none⟩), .pointer (some ⟨bp, 0, none⟩), .pointer (some ⟨W.heap.size, 0, none⟩), .string x.1, .string x.2, .pointer p, .string pf, .func (.func 57) #[] #[.pointer (some ⟨W.heap.size + 1, 0, none⟩), .pointer (some ⟨W.heap.size + 1 + 1, 0, none⟩)], .string x.1, .string x.2, undef, undef, undef, undef, undef, undef, undef, undef, undef, undef, undef], defers := [] }) ?assign ?body ?done ?stop
  case assign =>
    intro l' k x W' K hK
    gi_wp2
    exact hK
  case body =>
    rintro l' k pre x S' W' ⟨hp, hj, f0, f1, n0, n1⟩ hpre
    obtain ⟨xk, xv⟩ := x
    have g0 : W'.cell? ⟨W.heap.size, 0, none⟩ = some (.func (.yield l) #[] #[]) := f0.cell 0
    have g1 : W'.cell? ⟨bp, 0, none⟩ = some (.string pf) := f1.cell 0
    have hx : pfx pf xk = true → (pre ++ [(xk, xv)]) <+: lall t.list pf := fun h => by
      rw [← lall_is hu]
      exact take_prefix hpre (fun y hy => by
        simp at hy
        rcases hy with hy | rfl
        · exact hp y hy
        · exact h)
    have HP := Lib.hid (fun U => hasPrefix xk pf U)
    have HL : lastp pf (pre ++ [(xk, xv)]) = pfx pf xk := lastp_snoc pf pre (xk, xv)
    cases hpx : pfx pf xk with
    | false =>
      rw [hpx] at HP HL
      gi_wp2_with (gi_at_call 51; refine (CallsIn.inRound l' (callsIn_wide.2 (HP.out _))).mono ?_; rintro e w' ⟨rfl, rfl⟩)
      exact ⟨by simp only [HL, Bool.false_and], KeepS.refl _ _, S', Grows.refl _ _, rfl, fun h => (by rw [HL] at h; cases h), fun _ => by simpa using hj⟩
    | true =>
      rw [hpx] at HP HL
      obtain ⟨fn, tmps, assign, body, hy, hR⟩ := hY (k - 1) pre (xk, xv) S' W' hj (hx hpx)
      unfold Round at hR
      cases hg : go (pre ++ [(xk, xv)]) with
      | true =>
        rw [hg] at hR
        gi_wp2_with (gi_at_call 51; refine (CallsIn.inRound l' (callsIn_wide.2 (HP.out _))).mono ?_; rintro e w' ⟨rfl, rfl⟩)
        refine (roundInRound l' hR).mono ?_
        rintro e W4 ⟨rfl, k4, S4, g4, h4, _⟩
        gi_wp2
        exact ⟨by simp only [HL, hg, Bool.and_self], k4, S4, g4, (fun y hy => by
          simp at hy
          rcases hy with hy | rfl
          · exact hp y hy
          · exact hpx), h4 trivial, k4.blk f0 n0, k4.blk f1 n1, g4.not f0.lt n0, g4.not f1.lt n1⟩
      | false =>
        rw [hg] at hR
        gi_wp2_with (gi_at_call 51; refine (CallsIn.inRound l' (callsIn_wide.2 (HP.out _))).mono ?_; rintro e w' ⟨rfl, rfl⟩)
        refine (roundInRound l' hR).mono ?_
        rintro e W4 ⟨rfl, k4, S4, g4, _, h4⟩
        gi_wp2
        exact ⟨by simp only [HL, hg, Bool.and_false], k4, S4, g4, rfl, fun _ => h4 trivial, fun h => by rw [HL] at h; cases h⟩
  case done =>
    rintro D S' W' hD hs k4 g4 nD ⟨_, hj, _⟩ hK
    obtain ⟨h1, h2⟩ := (stop_pfx pf go (lfrom t.list pf) []).1 hs
    rw [lall_is hu] at h1
    gi_wp2
    refine ⟨by simp, .inl ⟨_, _, rfl, run_takeDeferred hK, ?_⟩⟩
    refine ⟨_, results_none rfl _ _ _, ⟨_, rfl⟩, keepS_new ((KeepS.of_below S b3).step k4) (by omega) _, S', fun i hi => (g4 i hi).imp_right (fun h => by omega), ?_⟩
    rw [h1]
    exact after_all h2 (hJ _ _ _ _ _ hj (grownBy_putObj' W' _ _) (fun r e => by cases e; exact ⟨by omega, nD⟩))
  case stop =>
    rintro D c q S' W' hD hs k4 g4 nD ⟨rfl, hx1, hx2⟩ hK
    have h1 := (stop_pfx pf go (lfrom t.list pf) []).2 q hs
    rw [lall_is hu] at h1
    gi_wp2
    refine ⟨by simp, .inl ⟨_, _, rfl, run_takeDeferred hK, ?_⟩⟩
    refine ⟨_, results_none rfl _ _ _, ⟨_, rfl⟩, keepS_new ((KeepS.of_below S b3).step k4) (by omega) _, S', fun i hi => (g4 i hi).imp_right (fun h => by omega), ?_⟩
    rcases h1 with ⟨h1, h2⟩ | ⟨h1, h2, h3⟩
    · exact after_stop h2 (hJx _ _ _ _ _ (hx1 h1) (grownBy_putObj' W' _ _) (fun r e => by cases e; exact ⟨by omega, nD⟩))
    · refine after_all h3 ?_
      rw [← h2]
      exact hJ _ _ _ _ _ (hx2 h1) (grownBy_putObj' W' _ _) (fun r e => by cases e; exact ⟨by omega, nD⟩)
end Go.Proofs.Ytpjndgcliegloaa.W
