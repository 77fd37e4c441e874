/-
  Package pairs: List; the law's 'some'.
-/
import Derived.Test.YtpjndgcliegloaaTStore
import Derived.Test.YtpjndgcliegloaaTPrs
namespace Go.Proofs.Ytpjndgcliegloaa.W
open Go.RowKit Go.Shelf
attribute [local go_sem] Oper.semAt_some wide_fn wide_depth

/-- a slice of pairs in a box at block B, of the call's own since base -/
structure BoxPrs (base B : Nat) (T : TypeId) (l : List KV) (S : Nat → Prop) (W : World) (v : Value) : Prop where
  box : Blk W B T #[v]
  own : W.ownsRow base 51 2 v l.length (prVals l)
  low : base ≤ B
  set : ∀ i, S i ↔ i = B ∨ v.ownBlock = some i
section
variable {base B : Nat} {T : TypeId} {l : List KV} {S : Nat → Prop} {W W' : World} {v : Value}
theorem BoxPrs.grown {row : Option Nat} (h : BoxPrs base B T l S W v) (hg : W.grownBy W' row) (hr : ∀ r, row = some r → ¬ S r) : BoxPrs base B T l S W' v :=
  ⟨h.box.grown hg (fun e => hr B e.symm ((h.set B).2 (.inl rfl))), h.own.kept hg (by
    cases hv : v.ownBlock with
    | none => exact .inl rfl
    | some g => exact .inr (fun e => hr g e.symm ((h.set g).2 (.inr hv)))), h.low, h.set⟩
theorem BoxPrs.bound (h : BoxPrs base B T l S W v) (i : Nat) (hi : S i) : i < W.heap.size := by
  rcases (h.set i).1 hi with rfl | hi
  · exact h.box.lt
  · exact (h.own.lt i hi).2
end
def boxInv (base B : Nat) (T : TypeId) : Inv := fun pre S W => ∃ v, BoxPrs base B T pre S W v
theorem box_abides (C base B : Nat) (T : TypeId) : AbidesS C (boxInv base B T) := fun _ _ _ _ _ ⟨v, h⟩ hg hr => ⟨v, h.grown hg (fun r e => (hr r e).2)⟩
theorem box_bounded (base B : Nat) (T : TypeId) : Bounded (boxInv base B T) := fun _ _ _ ⟨_, h⟩ => h.bound

theorem own_blk {W : World} {base n : Nat} {v : Value} {xs : List Value} (h : W.ownsRow base 51 2 v n xs) {g : Nat} (hg : v.ownBlock = some g) : ∃ cs, Blk W g 51 cs := by
  rcases h.2 with ⟨rfl, _⟩ | ⟨g', cap, cur, rfl, _, hb, _⟩
  · cases hg
  · cases hg; exact ⟨cur, hb⟩
theorem own_form {W : World} {base : Nat} {v : Value} {l : List KV} {x : KV} (h : W.ownsRow base 51 2 v (l ++ [x]).length (prVals (l ++ [x]))) : ∃ g cap, v = .slice (some ⟨g, 0, none⟩) (l.length + 1) cap := by
  rw [List.length_append] at h
  exact ownsRow_succ h
/-- a pair has been appended and the box holds the new slice -/
theorem BoxPrs.push {base B : Nat} {T : TypeId} {l : List KV} {S : Nat → Prop} {W w1 : World} {v v' : Value} {x : KV} {ob : Obj} (h : BoxPrs base B T l S W v) (hT : T ≠ 51)
    (own' : w1.ownsRow base 51 2 v' (l ++ [x]).length (prVals (l ++ [x]))) (gr : (W.alloc ob).grownBy w1 v.ownBlock) (at1 : v'.ownBlock = v.ownBlock ∨ v'.ownBlock = some (W.alloc ob).heap.size) :
    Blk w1 B T #[v] ∧ KeepS S W (w1.setCell ⟨B, 0, none⟩ v') ∧ ∃ S', Grows S S' W ∧ BoxPrs base B T (l ++ [x]) S' (w1.setCell ⟨B, 0, none⟩ v') v' := by
  have hB := h.box.lt
  have nB : v.ownBlock ≠ some B := fun e => by
    obtain ⟨cs, hc⟩ := own_blk h.own e
    exact hT (blk_type h.box hc)
  have nB' : v'.ownBlock ≠ some B := fun e => by
    rcases at1 with a | a
    · exact nB (a.symm.trans e)
    · rw [a, World.size_alloc] at e; cases e; omega
  have b1 : Blk w1 B T #[v] := (h.box.alloc ob).grown gr (fun e => nB e.symm)
  refine ⟨b1, ⟨gr.os, gr.tape, gr.output, ?_, fun i hi hn => ?_⟩, fun i => i = B ∨ v'.ownBlock = some i, fun i hi => ?_, b1.set_ 0 v', ?_, h.low, fun i => Iff.rfl⟩
  · have := gr.size
    rw [World.size_alloc] at this
    simp [World.setCell]; omega
  · have h1 : i ≠ B := fun e => hn ((h.set i).2 (.inl e))
    have h2 : v.ownBlock ≠ some i := fun e => hn ((h.set i).2 (.inr e))
    exact (Below.heap_setCell w1 ⟨B, 0, none⟩ v' i h1).trans ((gr.block i (by rw [World.size_alloc]; omega) (fun e => h2 e.symm)).trans (Below.heap_alloc W ob i hi))
  · rcases hi with rfl | hi
    · exact .inl ((h.set _).2 (.inl rfl))
    · rcases at1 with a | a
      · exact .inl ((h.set i).2 (.inr (a.symm.trans hi)))
      · rw [a, World.size_alloc] at hi; cases hi; exact .inr (by omega)
  · exact own'.kept (only_set (only_refl w1 (some B)) 0 v') (.inr nB')
theorem run_make_prs (n : Nat) (h : n ≤ 1000000000) (w : World) : (Instr.makeSlice 22 (.int .i64 0) (.int .i64 n)).run Try.prog w = .ok (.slice (some ⟨w.heap.size, 0, none⟩) 0 n) (w.alloc (.cells (madeCells #[.string .empty, .string .empty] (n * 2)) 51)) := by
  obtain ⟨i0, hi, hz0, hz1, hz2⟩ := info_parts infoPair
  have hr := run_make (P := Try.prog) w 22 51 i0 _ Try.underlying22 hi hz0 .i64 .i64 0 n (by omega) (by omega) (by rw [hz2]; omega) (by omega)
  rw [hz1, show (Value.agg #[.string ByteArray.empty, .string ByteArray.empty]).cells = #[.string .empty, .string .empty] from rfl] at hr
  simpa using hr

set_option maxRecDepth 100000 in
set_option maxHeartbeats 2000000 in
theorem listAt (s : Option Addr) (L : List KV) (w : World) (hz : L.length ≤ 1000000000)
    (HL : ∀ W, Since w W → Calls Try.prog 40 #[.pointer s] W fun e w' => e = .returned (.int .i64 L.length) ∧ w' = W)
    (HA : ∀ W, Since w W → Calls Try.prog 41 #[.pointer s, .string ⟨#[]⟩] W (Goes L W)) :
    Calls Try.prog 27 #[.pointer s] w fun e w' => ∃ v, e = .returned v ∧ w'.ownsRow w.heap.size 51 2 v L.length (prVals L) ∧ Below w.heap.size w w' := by
  refine (callsIn_wide (n := 3)).1 ?_
  have H1 := Lib.hid HL
  have H2 := Lib.hid HA
  clear HL HA
  have hmk := run_make_prs L.length hz
  refine callsIn_of_wp_marks Try.func27 rfl trivial ?_ rfl
  simp only [Try.ntmps27, List.size_toArray, List.length_cons, List.length_nil, Nat.reduceAdd, Nat.reduceSub, Array.replicate_succ, Array.replicate_zero, List.push_toArray, List.append_toArray, List.nil_append, List.cons_append]
  gi_wp2_with (gi_at_call 40; refine (callsIn_wide.2 (H1.out _ (Since.refl _))).mono ?_; rintro e w' ⟨rfl, rfl⟩)
  rename_i K0 _ K1 _ K2 _
  obtain ⟨W2, hW2⟩ : ∃ W2, W2 = (w'.alloc (.cells (madeCells #[.string .empty, .string .empty] (L.length * 2)) 51)).alloc (.cells #[.slice (some ⟨w'.heap.size, 0, none⟩) 0 L.length] 22) := ⟨_, rfl⟩
  rw [← hW2]
  have z2 : W2.heap.size = w'.heap.size + 1 + 1 := by rw [hW2]; simp
  have b2 : Below w'.heap.size w' W2 := by rw [hW2]; exact ((Below.refl _ _).alloc (Nat.le_refl _) _).alloc (by simp) _
  have bp2 : BoxPrs w'.heap.size (w'.heap.size + 1) 22 [] (fun i => i = w'.heap.size + 1 ∨ some w'.heap.size = some i) W2 (.slice (some ⟨w'.heap.size, 0, none⟩) 0 L.length) := by
    refine ⟨?_, ?_, by omega, fun i => Iff.rfl⟩
    · have := Blk.new (w'.alloc (.cells (madeCells #[.string .empty, .string .empty] (L.length * 2)) 51)) 22 #[.slice (some ⟨w'.heap.size, 0, none⟩) 0 L.length]
      rw [World.size_alloc, ← hW2] at this
      exact this
    · rw [hW2]
      exact (World.ownsRow_made w' _ L.length (Nat.le_refl _) (by unfold maxLen; omega) (by rw [size_madeCells])).alloc _
  clear hW2
  refine (callsIn_wide.2 (H2.out W2 (since_of b2))).mono ?_
  rintro e W3 ⟨lb, rfl, b3, hseq⟩
  have b23 : Below w'.heap.size w' W3 := b2.trans (b3.mono (by omega))
  have bp3 := bp2.grown (row := none) ⟨b3.os, b3.tape, b3.output, b3.size, fun k hk _ => b3.block k hk⟩ (fun r e => by cases e)
  have z3 := b3.size
  gi_wp2
  refine range_seq (gf := 49) (lb := lb) (xs := L) (w0 := W3) rfl (enters_of Try.func49 (by kernel_rfl) rfl)
    (hseq (fun i => i = w'.heap.size + 1 ∨ some w'.heap.size = some i) (fun i hi => .inr (by
      rcases hi with rfl | hi
      · exact ⟨_, _, bp2.box, by decide⟩
      · obtain ⟨cs, hc⟩ := own_blk bp2.own hi
        exact ⟨_, _, hc, by decide⟩))) (Below.refl _ _) rfl
    (fun _ => true) (boxInv w'.heap.size (w'.heap.size + 1) 22) (fun _ _ _ _ => False) (box_abides _ _ _ _) (fun _ _ _ _ _ _ h _ _ => h) (box_bounded _ _ _)
    (fun i => i = w'.heap.size + 1 ∨ some w'.heap.size = some i) ⟨_, bp3⟩ (fun _ _ h => h)
    (fun x => { tmps := #[.pointer s, undef, .slice none 0 0, .pointer (some ⟨w'.heap.size + 1, 0, none⟩), .string x.1, .string x.2, .pointer s, .int .i64 L.length, .slice (some ⟨w'.heap.size, 0, none⟩) 0 L.length, .pointer s, .func (.func 49) #[] lb, .string x.1, .string x.2, undef, undef, undef, undef, undef, undef, undef], defers := [] }) ?assign ?body ?done ?stop
  case assign =>
    intro l' k x W' K hK
    gi_wp2
    exact hK
  case body =>
    rintro l' k pre ⟨xk, xv⟩ S' W' ⟨v, hv⟩ hpre
    have c0 : W'.cell? ⟨w'.heap.size + 1, 0, none⟩ = some v := hv.box.cell 0
    have hlen : pre.length + 1 ≤ L.length := by have := hpre.length_le; simpa using this
    have hB : w'.heap.size ≤ W'.heap.size := by have := hv.box.lt; omega
    gi_wp2_with (gi_at_builtin; refine wpListIn_append_prs _ rfl _ _ 22 Try.underlying22 rfl w'.heap.size v _ pre [(xk, xv)] rfl rfl (hv.own.alloc _) (prs_built W' (xk, xv)) (by simp; omega) (by simp; omega) ?_; intro v' w1 own' gr1 at1; obtain ⟨g', cap', rfl⟩ := own_form own'; obtain ⟨q1, q2, S2, q3, q4⟩ := hv.push (by decide) own' gr1 at1; have d0 : w1.cell? ⟨w'.heap.size + 1, 0, none⟩ = some v := q1.cell 0; have d1 : w1.frozen? ⟨w'.heap.size + 1, 0, none⟩ = false := q1.frozen 0)
    exact ⟨rfl, q2, S2, q3, _, q4⟩
  case done =>
    rintro D S' W' hD _ k4 g4 nD ⟨v, hv⟩ hK
    have c0 : W'.cell? ⟨w'.heap.size + 1, 0, none⟩ = some v := hv.box.cell 0
    gi_wp2
    refine ⟨by simp, .inl ⟨_, _, rfl, run_takeDeferred hK, ?_⟩⟩
    refine ⟨_, results_tmp rfl _ _ _, v, rfl, (hv.grown (grownBy_putObj' W' D (.deferred none)) (fun r e => by cases e; exact nD)).own, ?_⟩
    exact b23.trans ((keepS_new k4 hD _).below (by omega) (fun i hi => by
      rcases hi with rfl | hi
      · omega
      · cases hi; omega))
  case stop =>
    rintro D c q S' W' _ _ _ _ _ h _
    exact h.elim
theorem sList (b : Nat) (L : List KV) (w : World) (h : IsStore w b L) (hz : L.length ≤ 1000000000) :
    Calls Try.prog 27 #[.pointer (some ⟨b, 0, none⟩)] w fun e w' => ∃ v, e = .returned v ∧ w'.ownsRow w.heap.size 51 2 v L.length (prVals L) ∧ Below w.heap.size w w' :=
  listAt _ L w hz (fun W hs => lenC b L W (h.below hs.below)) (fun W hs => by
    have := sAll b ⟨#[]⟩ L W (h.below hs.below)
    rwa [show lall L ⟨#[]⟩ = L by unfold lall; rw [List.filter_eq_self]; intro x _; rfl] at this)
theorem sListNil (w : World) : Calls Try.prog 27 #[.pointer none] w fun e w' => ∃ v, e = .returned v ∧ w'.ownsRow w.heap.size 51 2 v 0 [] ∧ Below w.heap.size w w' :=
  listAt none [] w (by simp) (fun W _ => lenNil W) (fun W _ => sAllNil _ W)
end Go.Proofs.Ytpjndgcliegloaa.W
