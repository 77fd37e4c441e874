/-
  Package journal: Rollback.
-/
import Derived.Test.YtpjndgcliegloaaJBegin
import Derived.Test.YtpjndgcliegloaaJBack
import Derived.Deep.QuietTactic
import Derived.BigQuiet
namespace Go.Proofs.Ytpjndgcliegloaa.W
open Go.RowKit Go.Shelf
attribute [local go_sem] Oper.semAt_some wide_fn wide_depth

theorem rollNil (w : World) : Calls Try.prog 16 #[.pointer none] w fun e w' => e = .returned (.int .i64 2) ∧ Below w.heap.size w w' := by
  refine (callsIn_wide (n := 3)).1 ?_
  refine callsIn_of_wp_marks Try.func16 rfl trivial ?_ rfl
  simp only [Try.ntmps16, List.size_toArray, List.length_cons, List.length_nil, Nat.reduceAdd, Nat.reduceSub, Array.replicate_succ, Array.replicate_zero, List.push_toArray, List.append_toArray, List.nil_append, List.cons_append]
  gi_wp2
  exact ⟨_, results_tmp rfl _ _ _, rfl, (Below.refl _ _).alloc (Nat.le_refl _) _⟩
theorem rollNo (j b : Nat) (u s : Value) (L : List KV) (us : List Undo) (w : World) (h : JAt w j b u s L us []) : Calls Try.prog 16 #[.pointer (some ⟨j, 0, none⟩)] w fun e w' => e = .returned (.int .i64 10) ∧ Below w.heap.size w w' := by
  obtain ⟨A, cap, rfl, hcap⟩ := own_slice h.starts
  have c2 : (w.alloc (.cells #[.pointer (some ⟨j, 0, none⟩)] 25)).cell? ⟨j, 2, none⟩ = some (.slice A 0 cap) := (h.blk.alloc _).cell 2
  refine (callsIn_wide (n := 3)).1 ?_
  refine callsIn_of_wp_marks Try.func16 rfl trivial ?_ rfl
  simp only [Try.ntmps16, List.size_toArray, List.length_cons, List.length_nil, Nat.reduceAdd, Nat.reduceSub, Array.replicate_succ, Array.replicate_zero, List.push_toArray, List.append_toArray, List.nil_append, List.cons_append]
  gi_wp2
  exact ⟨_, results_tmp rfl _ _ _, rfl, (Below.refl _ _).alloc (Nat.le_refl _) _⟩

theorem Blk.dg {W w1 : World} {g : Nat} {t : TypeId} {cs : Array Value} {row : Option Nat} (h : Blk W g t cs) (hg : W.drew.grownBy w1 row) (hn : some g ≠ row) : Blk w1 g t cs := Blk.grown (w := W.drew) h hg hn
theorem JStep.put {w w' : World} {j b : Nat} {u s : Value} {L : List KV} {us : List Undo} {ns : List Nat} {D : Nat} {x : Option (List Deferred)} (h : JStep w j b u s L us ns w') (hD : w.heap.size ≤ D) (hK : w'.heap[D]? = some (.deferred x)) (ob : Obj) : JStep w j b u s L us ns (w'.putObj D ob) := by
  obtain ⟨u', s', J, k, g⟩ := h
  refine ⟨u', s', J.moved (fun g' cs hg => ?_) (fun i hi => World.putObj_heap_other (fun e => ?_)), keepS_new k hD ob, g⟩
  · unfold Blk
    rw [World.putObj_heap_other (fun e => by
      unfold Blk at hg
      rw [e, hK] at hg
      cases hg)]
    exact hg
  · obtain ⟨t, cs, hb, _⟩ := J.tag hi
    unfold Blk at hb
    rw [e, hK] at hb
    cases hb
theorem prefix_last {α : Type} {pre : List α} {x : α} {l : List α} (h : pre ++ [x] <+: l) : ∃ hlt : pre.length < l.length, x = l[pre.length] := by
  obtain ⟨r, rfl⟩ := h
  exact ⟨by simp, by simp⟩
theorem backs_form {xs : List Value} {x : Array Value} (h : x ∈ backs xs) : ∃ a v, x = #[a, v] := by
  obtain ⟨k, _, rfl⟩ := List.mem_map.1 h
  exact ⟨_, _, rfl⟩
theorem backs_undo {vs : List Undo} {pre : List (Array Value)} {x : Array Value} (h : pre ++ [x] <+: backs (undoVals vs)) : ∃ (u : Undo) (a : Value), x = #[a, undoV u] ∧ pre.length < vs.length ∧ ∀ L, unwind L (vs.drop (vs.length - (pre.length + 1))) = rest u (unwind L (vs.drop (vs.length - pre.length))) := by
  have hl : (undoVals vs).length = vs.length := by simp [undoVals]
  obtain ⟨h1, h2⟩ := prefix_last h
  have h3 : pre.length < vs.length := by rw [backs_len, hl] at h1; exact h1
  rw [backs_at (undoVals vs) pre.length (by rw [hl]; exact h3)] at h2
  refine ⟨vs[vs.length - 1 - pre.length], .int .i64 (((undoVals vs).length - 1 - pre.length : Nat) : Int), ?_, h3, fun L => ?_⟩
  · rw [h2]
    simp [undoVals]
  · have : vs.drop (vs.length - (pre.length + 1)) = vs[vs.length - 1 - pre.length] :: vs.drop (vs.length - pre.length) := by
      rw [show vs.length - (pre.length + 1) = vs.length - 1 - pre.length by omega, List.drop_eq_getElem_cons (by omega), show vs.length - 1 - pre.length + 1 = vs.length - pre.length by omega]
    rw [this]
    rfl
/-- between two rounds: the journal and the box are as they were; the store is taken back so far -/
def rollInv (j b B0 : Nat) (u s : Value) (L : List KV) (vs : List Undo) : VS.Inv := fun pre S W =>
  S = (fun i => i = b) ∧ Blk W j 61 #[.pointer (some ⟨b, 0, none⟩), u, s] ∧ Blk W B0 25 #[.pointer (some ⟨j, 0, none⟩)] ∧ IsStore W b (unwind L (vs.drop (vs.length - pre.length)))
theorem Blk.off {W W' : World} {g : Nat} {t : TypeId} {cs : Array Value} {row : Option Nat} (h : Blk W g t cs) (hg : W.grownBy W' row) (hr : ∀ r, row = some r → ∀ cs t f, W.heap[r]? ≠ some (.cells cs t f)) : Blk W' g t cs := h.grown hg (fun e => hr g e.symm _ _ _ h)
theorem roll_abides (C j b B0 : Nat) (u s : Value) (L : List KV) (vs : List Undo) : VS.AbidesS C (rollInv j b B0 u s L vs) := fun _ _ _ _ _ ⟨h1, h2, h3, h4⟩ hg hr => by
  have ho := fun r e => (hr r e).2.2
  refine ⟨h1, h2.off hg ho, h3.off hg ho, ?_⟩
  obtain ⟨p, t, h5, h6, h7⟩ := h4
  exact ⟨p, t, h5.off hg ho, h6.kept (fun _ _ hb => hb.off hg ho), h7⟩
theorem roll_bounded (j b B0 : Nat) (u s : Value) (L : List KV) (vs : List Undo) : VS.Bounded (rollInv j b B0 u s L vs) := fun _ _ _ ⟨h1, _, _, h4⟩ i hi => by
  rw [h1] at hi
  rw [hi]
  exact h4.lt

set_option maxRecDepth 100000 in
set_option maxHeartbeats 4000000 in
theorem rollC (j b : Nat) (u s : Value) (L : List KV) (us : List Undo) (ns : List Nat) (n : Nat) (w : World) (h : JAt w j b u s L us (ns ++ [n])) (hn : n ≤ us.length) (hz : L.length + us.length + ns.length + 1 ≤ 1000000000) :
    Calls Try.prog 16 #[.pointer (some ⟨j, 0, none⟩)] w fun e w' => e = .returned (.int .i64 0) ∧ JStep w j b u s (unwind L (us.drop n)) (if ns = [] then [] else us.take n) ns w' := by
  obtain ⟨vs, hvs⟩ : ∃ vs, vs = (if ns = [] then [] else us.take n) := ⟨_, rfl⟩
  rw [← hvs]
  have HVS := Lib.hid hvs
  clear hvs
  have hlen : (ns ++ [n]).length = ns.length + 1 := by simp
  obtain ⟨gs, cap, hs, _, hcap⟩ := own_take (k := ns.length) h.starts (by omega) (by omega)
  rw [hlen] at hs hcap
  subst hs
  have hu0 := h.undos
  obtain ⟨A1, cap1, rfl, hcap1⟩ := own_slice hu0
  obtain ⟨W1, hW1⟩ : ∃ W1, W1 = w.alloc (.cells #[.pointer (some ⟨j, 0, none⟩)] 25) := ⟨_, rfl⟩
  have B1 : Below w.heap.size w W1 := by rw [hW1]; exact (Below.refl _ _).alloc (Nat.le_refl _) _
  have J1 := h.below B1
  have bx : Blk W1 w.heap.size 25 #[.pointer (some ⟨j, 0, none⟩)] := by rw [hW1]; exact Blk.new _ _ _
  have z1 : W1.heap.size = w.heap.size + 1 := by rw [hW1]; simp
  have HW := Lib.hid hW1
  have cx : W1.cell? ⟨w.heap.size, 0, none⟩ = some (.pointer (some ⟨j, 0, none⟩)) := bx.cell 0
  have c1 : W1.cell? ⟨j, 1, none⟩ = some (.slice A1 us.length cap1) := J1.blk.cell 1
  have c2 : W1.cell? ⟨j, 2, none⟩ = some (.slice (some ⟨gs, 0, none⟩) (ns.length + 1) cap) := J1.blk.cell 2
  have c3 : W1.cell? ⟨gs, ns.length, none⟩ = some (.int .i64 n) := by
    have := J1.starts.cells (g := gs) rfl ns.length (.int .i64 n) (by simp [intVals])
    rwa [add_on, Nat.zero_add] at this
  have hw : IntKind.i64.wrap (((ns.length + 1 : Nat) : Int) - 1) = (ns.length : Int) := by rw [IntWalk.i64_in _ (by omega)]; omega
  have hne : (((ns.length + 1 : Nat) : Int) == 0) = false := by rw [beq_eq_false_iff_ne]; omega
  have hx0 : (0 : Int) ≤ (ns.length : Int) := by omega
  have hx1 : (ns.length : Int) < (ns.length : Int) + 1 := by omega
  obtain ⟨i0, hi0, _⟩ := info_parts infoFn
  have hvl : Vls W1 (.slice A1 (undoVals us).length cap1) (undoVals us) := by
    have e : (undoVals us).length = us.length := by simp [undoVals]
    rw [e]
    exact Vls.of_own (by rw [e]; exact J1.undos)
  obtain ⟨A2, cap2, hsl, hv2, ho2⟩ := vls_from (P := Try.prog) fn_und fn_elem hi0 fn_cells hvl n (by simpa [undoVals] using hn)
  have hl2 : ((undoVals us).drop n).length = us.length - n := by simp [undoVals]
  rw [show (undoVals us).length = us.length by simp [undoVals]] at hsl ho2
  rw [hl2] at hsl ho2 hv2
  have hdu : (undoVals us).drop n = undoVals (us.drop n) := by simp [undoVals]
  rw [hdu] at hv2 hl2
  have HJ := Lib.hid (And.intro h (And.intro J1 (And.intro hv2 (And.intro ho2 hvl))))
  have hB := Lib.hid bx
  have hz1 := Lib.hid z1
  have c2' : (w.alloc (.cells #[.pointer (some ⟨j, 0, none⟩)] 25)).cell? ⟨j, 2, none⟩ = some (.slice (some ⟨gs, 0, none⟩) (ns.length + 1) cap) := by rw [← hW1]; exact c2
  clear h J1 hv2 ho2 hu0 bx z1 hW1 hvl
  refine (callsIn_wide (n := 3)).1 ?_
  refine callsIn_of_wp_marks Try.func16 rfl trivial ?_ rfl
  simp only [Try.ntmps16, List.size_toArray, List.length_cons, List.length_nil, Nat.reduceAdd, Nat.reduceSub, Array.replicate_succ, Array.replicate_zero, List.push_toArray, List.append_toArray, List.nil_append, List.cons_append]
  gi_wp2
  rw [← HW.out]
  clear c2'
  refine wpIn_wide.2 ?_
  go_quiet (fail)
  have B2 := quiet_below W1 nq
  generalize W1.drewN nq = W2 at *
  have d1 := (since_of B2).cell c1
  have dx := (since_of B2).cell cx
  obtain ⟨hJ0, hJ1, hv2, ho2, hvl⟩ := HJ.out
  have HJ2 := Lib.hid (hJ1.below B2)
  have HV2 := Lib.hid (hv2.below B2)
  have HX2 := Lib.hid (hB.out.below B2 hB.out.lt)
  have HB2 := Lib.hid (step_below B1 B2)
  have HO2 := Lib.hid ho2
  have HJ0 := Lib.hid hJ0
  clear hJ0 hJ1 hv2 ho2 hvl HJ hB cx c1 c2 c3 hw hne hx0 hx1 HW hz1 B1 B2
  gi_wp2_with (gi_at_call 33; refine (callsIn_wide.2 (backC _ _ _ _)).mono ?_; rintro e w' ⟨rfl, rfl⟩)
  obtain ⟨W3, hW3⟩ : ∃ W3, W3 = W2.alloc (.cells #[.slice A2 (us.length - n) cap2] 58) := ⟨_, rfl⟩
  rw [← hW3]
  have z3 : W3.heap.size = W2.heap.size + 1 := by rw [hW3]; simp
  have B3 : Below W2.heap.size W2 W3 := by rw [hW3]; exact (Below.refl _ _).alloc (Nat.le_refl _) _
  have bc : Blk W3 W2.heap.size 58 #[.slice A2 (us.length - n) cap2] := by rw [hW3]; exact Blk.new _ _ _
  have J3 := HJ2.out.below B3
  have V3 := HV2.out.below B3
  have X3 := HX2.out.below B3 HX2.out.lt
  have HB3 := Lib.hid (step_below HB2.out B3)
  obtain ⟨n1, n2, n3, n4, n5⟩ := J3.nj
  have hbl : b < W2.heap.size := by obtain ⟨cs, hc⟩ := HJ2.out.store.a; exact hc.lt
  clear hW3
  refine VS.range_seq (gf := 43) (lb := #[.pointer (some ⟨W2.heap.size, 0, none⟩)]) (xs := backs (undoVals (us.drop n))) (o := fun i => i = b) (w0 := W3) rfl (enters_of Try.func43 (by kernel_rfl) rfl)
    (backSeq W2.heap.size _ _ _ W3 bc V3 (fun g e => J3.bound (.inr (.inr (.inl (HO2.out.symm.trans e))))) (by omega) (fun g e e2 => n4 (by rw [← HO2.out, e, e2])) (by rw [hl2]; omega)) (Below.refl _ _)
    (fun x hx => by
      obtain ⟨k, _, rfl⟩ := List.mem_map.1 hx
      rfl)
    (fun _ => true) (rollInv j b w.heap.size (.slice A1 us.length cap1) (.slice (some ⟨gs, 0, none⟩) (ns.length + 1) cap) L (us.drop n)) (fun _ _ _ _ => False)
    (roll_abides _ _ _ _ _ _ _ _) (fun _ _ _ _ _ _ h _ _ => h) (roll_bounded _ _ _ _ _ _ _) (fun i => i = b) ⟨rfl, J3.blk, X3, by rw [List.length_nil, Nat.sub_zero, List.drop_length]; exact J3.store⟩ (fun _ _ h => h)
    (fun x => { tmps := #[.pointer (some ⟨j, 0, none⟩), .pointer (some ⟨w.heap.size, 0, none⟩), .int .i64 0, .int .i64 n, undef, x[1]!, .pointer (some ⟨j, 0, none⟩), .bool false, .pointer (some ⟨j, 0, none⟩), .pointer (some ⟨j, 0, none⟩), .pointer (some ⟨j, 2, none⟩), .slice (some ⟨gs, 0, none⟩) (ns.length + 1) cap, .int .i64 ((ns.length : Int) + 1), .bool false, .pointer (some ⟨j, 0, none⟩), .pointer (some ⟨j, 0, none⟩), .pointer (some ⟨j, 2, none⟩), .slice (some ⟨gs, 0, none⟩) (ns.length + 1) cap, .pointer (some ⟨j, 0, none⟩), .pointer (some ⟨j, 0, none⟩), .pointer (some ⟨j, 2, none⟩), .slice (some ⟨gs, 0, none⟩) (ns.length + 1) cap, .int .i64 ((ns.length : Int) + 1), .int .i64 ns.length, .pointer (some ⟨gs, ns.length, none⟩), .int .i64 n, .pointer (some ⟨j, 0, none⟩), .pointer (some ⟨j, 0, none⟩), .pointer (some ⟨j, 1, none⟩), .slice A1 us.length cap1, .int .i64 n, .slice A2 (us.length - n) cap2, .func (.func 43) #[] #[.pointer (some ⟨W2.heap.size, 0, none⟩)], x[0]!, x[1]!, undef, undef, undef, undef, undef, undef, undef, undef, undef, undef, undef, undef, undef, undef, undef, undef, undef, undef, undef, undef, undef, undef], defers := [] }) ?assign ?body ?done ?stop
  case assign =>
    intro l' k x W' K hx hK
    obtain ⟨a, v, rfl⟩ := backs_form hx
    gi_wp2
    exact hK
  case body =>
    rintro l' k pre x S' W' ⟨rfl, q1, q2, q3⟩ hpre
    obtain ⟨u1, a1, rfl, hlt, hun⟩ := backs_undo hpre
    have f0 : W'.cell? ⟨w.heap.size, 0, none⟩ = some (.pointer (some ⟨j, 0, none⟩)) := q2.cell 0
    have f1 : W'.cell? ⟨j, 0, none⟩ = some (.pointer (some ⟨b, 0, none⟩)) := q1.cell 0
    have hul := unwind_len ((us.drop n).drop ((us.drop n).length - pre.length)) L
    have hul2 : ((us.drop n).drop ((us.drop n).length - pre.length)).length ≤ us.length := by simp only [List.length_drop]; omega
    have HR := Lib.hid (restoreC u1 b _ W' q3 (by omega))
    have HQ := Lib.hid (And.intro q1 (And.intro q2 (hun L)))
    have nb : j ≠ b ∧ w.heap.size ≠ b := ⟨n1, fun e => by
      subst e
      have := blk_type q2 (q3.a).choose_spec
      revert this
      decide⟩
    clear hun hul hul2 q1 q2 q3 hpre
    obtain ⟨uk, uv, up⟩ := u1
    simp only [undoV]
    gi_wp2_with (gi_at_call 44; refine (CallsIn.inRound l' (callsIn_wide.2 HR.out)).mono ?_; rintro e w5 ⟨⟨y, rfl⟩, hs5, hg5⟩)
    obtain ⟨q1, q2, hun⟩ := HQ.out
    refine ⟨rfl, KeepS.of_grown hg5 (fun r e => by cases e; exact .inl rfl), _, Grows.refl _ _, rfl, q1.grown hg5 (fun e => nb.1 (by cases e; rfl)), q2.grown hg5 (fun e => nb.2 (by cases e; rfl)), ?_⟩
    rw [List.length_append, List.length_cons, List.length_nil, hun]
    exact hs5
  case done =>
    rintro D S' W' hD _ k4 g4 nD ⟨rfl, q1, q2, q3⟩ hK
    have J4 : JAt W' j b (.slice A1 us.length cap1) (.slice (some ⟨gs, 0, none⟩) (ns.length + 1) cap) (unwind L (us.drop n)) us (ns ++ [n]) := by
      refine ⟨q1, ?_, own_keep J3.undos (fun g e => k4.block g (J3.bound (.inr (.inr (.inl e)))) (fun e2 => n4 (by rw [e, e2]))), own_keep J3.starts (fun g e => k4.block g (J3.bound (.inr (.inr (.inr e)))) (fun e2 => n5 (by rw [e, e2])))⟩
      rw [backs_len, show (undoVals (us.drop n)).length = (us.drop n).length by simp [undoVals], Nat.sub_self, List.drop_zero] at q3
      exact q3
    have HD := Lib.hid (fun W (hW : Since W' W) => delC (.slice A1 us.length cap1) n us W (J4.below hW.below).undos hn)
    have H4 := Lib.hid (And.intro J4 (And.intro q2 (And.intro k4 (And.intro hK hD))))
    have f0 : W'.cell? ⟨w.heap.size, 0, none⟩ = some (.pointer (some ⟨j, 0, none⟩)) := q2.cell 0
    have f1 : W'.cell? ⟨j, 1, none⟩ = some (.slice A1 us.length cap1) := q1.cell 1
    have HN := Lib.hid (And.intro n2 (show (Value.slice A1 us.length cap1).ownBlock ≠ some w.heap.size from fun e => by
      obtain ⟨cs, hc⟩ := own_tag J4.undos e
      have := blk_type q2 hc
      revert this
      decide))
    have H0 := Lib.hid (show KeepS (jset j b (.slice A1 us.length cap1) (.slice (some ⟨gs, 0, none⟩) (ns.length + 1) cap)) w W' from (KeepS.of_below _ HB3.out).step (k4.more (fun i _ e => .inr (.inl e))))
    have hjB := Lib.hid (show j ≠ w.heap.size from fun e => by have := HJ0.out.blk.lt; omega)
    clear q1 q2 q3 J4 k4 hK J3 V3 X3 bc hsl d1 dx
    gi_wp2
    refine wpIn_wide.2 ?_
    refine wp_region_noPanic ?_
    refine wp_region_held_drew (S := (fun W => W.cell? ⟨w.heap.size, 0, none⟩ = some (.pointer (some ⟨j, 0, none⟩)))) (by kernel_rfl) f0 (fun hHeld => ?_)
    simp only [List.size_toArray, List.length_cons, List.length_nil, Nat.reduceAdd, Array.replicate_succ, Array.replicate_zero, List.push_toArray, List.nil_append, List.cons_append]
    refine' wpAnyH_take (i := 0) (v := _) rfl (by kernel_rfl) (by kernel_rfl) (by kernel_rfl) (fun _ _ _ h => h) (Or.inl ⟨by rfl, fun w hSw => by (try dsimp only at hSw); go_simp; rfl⟩) (by assumption) ?_
    simp only [List.getElem_toArray, List.getElem_cons_zero, Act.put, List.setIfInBounds_toArray, List.set_cons_zero, List.set_cons_succ]
    refine' wpAnyH_take (i := 1) (v := _) rfl (by kernel_rfl) (by kernel_rfl) (by kernel_rfl) (fun _ _ _ h => h) (Or.inl ⟨by rfl, fun w hSw => by (try dsimp only at hSw); go_simp; rfl⟩) (by assumption) ?_
    simp only [List.getElem_toArray, List.getElem_cons_succ, List.getElem_cons_zero, Act.put, List.setIfInBounds_toArray, List.set_cons_zero, List.set_cons_succ]
    refine' wpAnyH_take (i := 2) (v := _) rfl (by kernel_rfl) (by kernel_rfl) (by kernel_rfl) (fun _ _ _ h => h) (Or.inl ⟨by rfl, fun w hSw => by (try dsimp only at hSw); go_simp; rfl⟩) (by assumption) ?_
    simp only [List.getElem_toArray, List.getElem_cons_succ, List.getElem_cons_zero, Act.put, List.setIfInBounds_toArray, List.set_cons_zero, List.set_cons_succ]
    refine' wpAnyH_take (i := 3) (v := _) rfl (by kernel_rfl) (by kernel_rfl) (by kernel_rfl) (fun _ _ _ h => h) (Or.inl ⟨by rfl, fun w hSw => by (try dsimp only at hSw); go_simp; rfl⟩) (by assumption) ?_
    simp only [List.getElem_toArray, List.getElem_cons_succ, List.getElem_cons_zero, Act.put, List.setIfInBounds_toArray, List.set_cons_zero, List.set_cons_succ]
    refine' wpAnyH_take (i := 5) (v := _) rfl (by kernel_rfl) (by kernel_rfl) (by kernel_rfl) (fun _ _ _ h => h) (Or.inl ⟨by rfl, fun w hSw => by (try dsimp only at hSw); go_simp; rfl⟩) (by assumption) ?_
    simp only [List.getElem_toArray, List.getElem_cons_succ, List.getElem_cons_zero, Act.put, List.setIfInBounds_toArray, List.set_cons_zero, List.set_cons_succ]
    refine' wpAnyH_take (i := 6) (v := _) rfl (by kernel_rfl) (by kernel_rfl) (by kernel_rfl) (fun _ _ _ h => h) (Or.inl ⟨by rfl, fun w hSw => by (try dsimp only at hSw); go_simp; rfl⟩) (by assumption) ?_
    simp only [List.getElem_toArray, List.getElem_cons_succ, List.getElem_cons_zero, Act.put, List.setIfInBounds_toArray, List.set_cons_zero, List.set_cons_succ]
    refine' wpAnyH_take (i := 7) (v := _) rfl (by kernel_rfl) (by kernel_rfl) (by kernel_rfl) (fun _ _ _ h => h) (Or.inl ⟨by rfl, fun w hSw => by (try dsimp only at hSw); go_simp; rfl⟩) (by assumption) ?_
    simp only [List.getElem_toArray, List.getElem_cons_succ, List.getElem_cons_zero, Act.put, List.setIfInBounds_toArray, List.set_cons_zero, List.set_cons_succ]
    refine' wpAnyH_take (i := 8) (v := _) rfl (by kernel_rfl) (by kernel_rfl) (by kernel_rfl) (fun _ _ _ h => h) (Or.inl ⟨by rfl, fun w hSw => by (try dsimp only at hSw); go_simp; rfl⟩) (by assumption) ?_
    simp only [List.getElem_toArray, List.getElem_cons_succ, List.getElem_cons_zero, Act.put, List.setIfInBounds_toArray, List.set_cons_zero, List.set_cons_succ]
    refine wpAnyH_ready (rs := [4, 9]) (by kernel_rfl) (by simp) (AllReadyH.cons rfl (fun K hK => ?_) (AllReadyH.cons rfl (fun K hK => ?_) AllReadyH.nil))
    · go_simp
      refine hK.out _ _ f0 (fun hHeld => ?_)
      clear hK K
      simp only [List.setIfInBounds_toArray, List.set_cons_zero, List.set_cons_succ]
      refine wpAnyH_ready (rs := [9]) (by kernel_rfl) (by simp) (AllReadyH.cons rfl (fun K hK => ?_) AllReadyH.nil)
      go_simp
      refine hK.out _ _ f0 (fun hHeld => ?_)
      clear hK K
      simp only [List.setIfInBounds_toArray, List.set_cons_zero, List.set_cons_succ]
      refine' wpAnyH_take (i := 10) (v := _) rfl (by kernel_rfl) (by kernel_rfl) (by kernel_rfl) (fun _ _ _ h => h) (Or.inl ⟨by rfl, fun w hSw => by (try dsimp only at hSw); go_simp; rfl⟩) (by assumption) ?_
      simp only [List.getElem_toArray, List.getElem_cons_succ, List.getElem_cons_zero, Act.put, List.setIfInBounds_toArray, List.set_cons_zero, List.set_cons_succ]
      refine wpAnyH_ready (rs := [11]) (by kernel_rfl) (by simp) (AllReadyH.cons rfl (fun K hK => ?_) AllReadyH.nil)
      go_simp
      go_at_call 34
      refine (HD.out W'.drew (Since.refl W')).mono ?_
      rintro e w5 ⟨u5, rfl, own5, ob5, gr5⟩
      obtain ⟨A5, cap5, rfl, hcap5⟩ := own_slice own5
      have bj := Lib.hid (H4.out.1.blk.dg gr5 (fun e => HN.out.1 e.symm))
      have bb := Lib.hid (H4.out.2.1.dg gr5 (fun e => HN.out.2 e.symm))
      have p1 : w5.cell? ⟨j, 1, none⟩ = some (.slice A1 us.length cap1) := bj.out.cell 1
      have p2 : w5.frozen? ⟨j, 1, none⟩ = false := bj.out.frozen 1
      refine hK.out _ _ (bb.out.cell 0) (fun hHeld => ?_)
      clear hK K
      simp only [List.setIfInBounds_toArray, List.set_cons_zero, List.set_cons_succ]
      refine' wpAnyH_take (i := 12) (v := _) rfl (by kernel_rfl) (by kernel_rfl) (by kernel_rfl) (fun _ _ _ h => h) (Or.inl ⟨by rfl, fun w hSw => by (try dsimp only at hSw); go_simp; rfl⟩) (by assumption) ?_
      simp only [List.getElem_toArray, List.getElem_cons_succ, List.getElem_cons_zero, Act.put, List.setIfInBounds_toArray, List.set_cons_zero, List.set_cons_succ]
      refine' wpAnyH_take (i := 13) (v := _) rfl (by kernel_rfl) (by kernel_rfl) (by kernel_rfl) (fun _ _ _ h => h) (Or.inl ⟨by rfl, fun w hSw => by (try dsimp only at hSw); go_simp; rfl⟩) (by assumption) ?_
      simp only [List.getElem_toArray, List.getElem_cons_succ, List.getElem_cons_zero, Act.put, List.setIfInBounds_toArray, List.set_cons_zero, List.set_cons_succ]
      refine wpAnyH_ready (rs := [14]) (by kernel_rfl) (by simp) (AllReadyH.cons rfl (fun K hK => ?_) AllReadyH.nil)
      go_simp
      refine hK.out _ _ ((bb.out.far (p := ⟨j, 1, none⟩) (Ne.symm hjB.out) _).cell 0) (fun hHeld => ?_)
      clear hK K
      simp only [List.setIfInBounds_toArray, List.set_cons_zero, List.set_cons_succ]
      refine wpAnyH_done (by kernel_rfl) ?_ _
      refine NoPanic.normal ?_
      have hK5 : w5.heap[D]? = some (.deferred (some [])) := (gr5.block D (by have := H4.out.2.2.2.1; exact (Array.getElem?_eq_some_iff.1 this).1) (fun e => by
        obtain ⟨cs, hc⟩ := own_tag H4.out.1.undos e.symm
        have h9 := H4.out.2.2.2.1
        unfold Blk at hc
        rw [h9] at hc
        cases hc)).trans H4.out.2.2.2.1
      have S6 := JStep.next (H0.out) (Grows.refl _ _) (H4.out.1.pushed (us' := us.take n) ((Below.refl _ W').drew) gr5 (by rw [List.length_take, Nat.min_eq_left hn]; simpa [undoVals] using own5) (.inl ob5.symm))
      have hK6 : (w5.setCell ⟨j, 1, none⟩ (.slice A5 n cap5)).heap[D]? = some (.deferred (some [])) := (Below.heap_setCell w5 ⟨j, 1, none⟩ _ D (fun e => by
        have h9 := bj.out
        unfold Blk at h9
        simp only at e
        rw [← e, hK5] at h9
        cases h9)).trans hK5
      have c9 : (w5.setCell ⟨j, 1, none⟩ (.slice A5 n cap5)).cell? ⟨w.heap.size, 0, none⟩ = some (.pointer (some ⟨j, 0, none⟩)) := (bb.out.far (p := ⟨j, 1, none⟩) (Ne.symm hjB.out) _).cell 0
      generalize w5.setCell ⟨j, 1, none⟩ (.slice A5 n cap5) = w6 at *
      obtain ⟨u6, s6, J6, k6, g6⟩ := S6
      have HL := Lib.hid (leaveC j b u6 s6 _ _ ns n w6 J6 (by omega))
      have HT := Lib.hid (And.intro J6 (And.intro k6 (And.intro g6 hK6)))
      clear J6 k6 g6 hK6 hK5 own5 ob5 gr5 bj bb p1 p2 hHeld
      rw [← HVS.out] at HL
      gi_wp2_with (gi_at_call 35; refine (callsIn_wide.2 HL.out).mono ?_; rintro e w7 ⟨⟨y, rfl⟩, hs7⟩)
      obtain ⟨J6, k6, g6, hK6⟩ := HT.out
      have hK7 : w7.heap[D]? = some (.deferred (some [])) := by
        obtain ⟨u7, s7, J7, k7, g7⟩ := hs7
        refine (k7.block D (Array.getElem?_eq_some_iff.1 hK6).1 (fun h => ?_)).trans hK6
        obtain ⟨t, cs, hb, _⟩ := J6.tag h
        unfold Blk at hb
        rw [hK6] at hb
        cases hb
      refine ⟨by simp, .inl ⟨_, _, rfl, run_takeDeferred hK7, ?_⟩⟩
      refine ⟨_, results_tmp rfl _ _ _, rfl, (JStep.next k6 g6 hs7).put (by have := H4.out.2.2.2.2; have := HB3.out.size; omega) hK7 _⟩
    · go_simp
      refine hK.out _ _ f0 (fun hHeld => ?_)
      clear hK K
      simp only [List.setIfInBounds_toArray, List.set_cons_zero, List.set_cons_succ]
      refine' wpAnyH_take (i := 10) (v := _) rfl (by kernel_rfl) (by kernel_rfl) (by kernel_rfl) (fun _ _ _ h => h) (Or.inl ⟨by rfl, fun w hSw => by (try dsimp only at hSw); go_simp; rfl⟩) (by assumption) ?_
      simp only [List.getElem_toArray, List.getElem_cons_succ, List.getElem_cons_zero, Act.put, List.setIfInBounds_toArray, List.set_cons_zero, List.set_cons_succ]
      refine wpAnyH_ready (rs := [4]) (by kernel_rfl) (by simp) (AllReadyH.cons rfl (fun K hK => ?_) AllReadyH.nil)
      go_simp
      refine hK.out _ _ f0 (fun hHeld => ?_)
      clear hK K
      simp only [List.setIfInBounds_toArray, List.set_cons_zero, List.set_cons_succ]
      refine wpAnyH_ready (rs := [11]) (by kernel_rfl) (by simp) (AllReadyH.cons rfl (fun K hK => ?_) AllReadyH.nil)
      go_simp
      go_at_call 34
      refine (HD.out W'.drew (Since.refl W')).mono ?_
      rintro e w5 ⟨u5, rfl, own5, ob5, gr5⟩
      obtain ⟨A5, cap5, rfl, hcap5⟩ := own_slice own5
      have bj := Lib.hid (H4.out.1.blk.dg gr5 (fun e => HN.out.1 e.symm))
      have bb := Lib.hid (H4.out.2.1.dg gr5 (fun e => HN.out.2 e.symm))
      have p1 : w5.cell? ⟨j, 1, none⟩ = some (.slice A1 us.length cap1) := bj.out.cell 1
      have p2 : w5.frozen? ⟨j, 1, none⟩ = false := bj.out.frozen 1
      refine hK.out _ _ (bb.out.cell 0) (fun hHeld => ?_)
      clear hK K
      simp only [List.setIfInBounds_toArray, List.set_cons_zero, List.set_cons_succ]
      refine' wpAnyH_take (i := 12) (v := _) rfl (by kernel_rfl) (by kernel_rfl) (by kernel_rfl) (fun _ _ _ h => h) (Or.inl ⟨by rfl, fun w hSw => by (try dsimp only at hSw); go_simp; rfl⟩) (by assumption) ?_
      simp only [List.getElem_toArray, List.getElem_cons_succ, List.getElem_cons_zero, Act.put, List.setIfInBounds_toArray, List.set_cons_zero, List.set_cons_succ]
      refine' wpAnyH_take (i := 13) (v := _) rfl (by kernel_rfl) (by kernel_rfl) (by kernel_rfl) (fun _ _ _ h => h) (Or.inl ⟨by rfl, fun w hSw => by (try dsimp only at hSw); go_simp; rfl⟩) (by assumption) ?_
      simp only [List.getElem_toArray, List.getElem_cons_succ, List.getElem_cons_zero, Act.put, List.setIfInBounds_toArray, List.set_cons_zero, List.set_cons_succ]
      refine wpAnyH_ready (rs := [14]) (by kernel_rfl) (by simp) (AllReadyH.cons rfl (fun K hK => ?_) AllReadyH.nil)
      go_simp
      refine hK.out _ _ ((bb.out.far (p := ⟨j, 1, none⟩) (Ne.symm hjB.out) _).cell 0) (fun hHeld => ?_)
      clear hK K
      simp only [List.setIfInBounds_toArray, List.set_cons_zero, List.set_cons_succ]
      refine wpAnyH_done (by kernel_rfl) ?_ _
      refine NoPanic.normal ?_
      have hK5 : w5.heap[D]? = some (.deferred (some [])) := (gr5.block D (by have := H4.out.2.2.2.1; exact (Array.getElem?_eq_some_iff.1 this).1) (fun e => by
        obtain ⟨cs, hc⟩ := own_tag H4.out.1.undos e.symm
        have h9 := H4.out.2.2.2.1
        unfold Blk at hc
        rw [h9] at hc
        cases hc)).trans H4.out.2.2.2.1
      have S6 := JStep.next (H0.out) (Grows.refl _ _) (H4.out.1.pushed (us' := us.take n) ((Below.refl _ W').drew) gr5 (by rw [List.length_take, Nat.min_eq_left hn]; simpa [undoVals] using own5) (.inl ob5.symm))
      have hK6 : (w5.setCell ⟨j, 1, none⟩ (.slice A5 n cap5)).heap[D]? = some (.deferred (some [])) := (Below.heap_setCell w5 ⟨j, 1, none⟩ _ D (fun e => by
        have h9 := bj.out
        unfold Blk at h9
        simp only at e
        rw [← e, hK5] at h9
        cases h9)).trans hK5
      have c9 : (w5.setCell ⟨j, 1, none⟩ (.slice A5 n cap5)).cell? ⟨w.heap.size, 0, none⟩ = some (.pointer (some ⟨j, 0, none⟩)) := (bb.out.far (p := ⟨j, 1, none⟩) (Ne.symm hjB.out) _).cell 0
      generalize w5.setCell ⟨j, 1, none⟩ (.slice A5 n cap5) = w6 at *
      obtain ⟨u6, s6, J6, k6, g6⟩ := S6
      have HL := Lib.hid (leaveC j b u6 s6 _ _ ns n w6 J6 (by omega))
      have HT := Lib.hid (And.intro J6 (And.intro k6 (And.intro g6 hK6)))
      clear J6 k6 g6 hK6 hK5 own5 ob5 gr5 bj bb p1 p2 hHeld
      rw [← HVS.out] at HL
      gi_wp2_with (gi_at_call 35; refine (callsIn_wide.2 HL.out).mono ?_; rintro e w7 ⟨⟨y, rfl⟩, hs7⟩)
      obtain ⟨J6, k6, g6, hK6⟩ := HT.out
      have hK7 : w7.heap[D]? = some (.deferred (some [])) := by
        obtain ⟨u7, s7, J7, k7, g7⟩ := hs7
        refine (k7.block D (Array.getElem?_eq_some_iff.1 hK6).1 (fun h => ?_)).trans hK6
        obtain ⟨t, cs, hb, _⟩ := J6.tag h
        unfold Blk at hb
        rw [hK6] at hb
        cases hb
      refine ⟨by simp, .inl ⟨_, _, rfl, run_takeDeferred hK7, ?_⟩⟩
      refine ⟨_, results_tmp rfl _ _ _, rfl, (JStep.next k6 g6 hs7).put (by have := H4.out.2.2.2.2; have := HB3.out.size; omega) hK7 _⟩
  case stop =>
    rintro D c q S' W' _ _ _ _ _ h _
    exact h.elim
end Go.Proofs.Ytpjndgcliegloaa.W
