/-
  Package journal: Begin, Commit, Depth, held.
-/
import Derived.Test.YtpjndgcliegloaaJLeave
namespace Go.Proofs.Ytpjndgcliegloaa.W
open Go.RowKit

/-- a beginning has been appended and the journal holds the new row -/
theorem JAt.began {w w1 w2 : World} {j b : Nat} {u s s' : Value} {L : List KV} {us : List Undo} {ns ns' : List Nat} (h : JAt w j b u s L us ns) (hb : Below w.heap.size w w1) (gr : w1.grownBy w2 s.ownBlock) (own : w2.ownsRow 0 3 1 s' ns'.length (intVals ns'))
    (at1 : s.ownBlock = s'.ownBlock ∨ ∃ g, s'.ownBlock = some g ∧ w.heap.size ≤ g) : JStep w j b u s L us ns' (w2.setCell ⟨j, 2, none⟩ s') := by
  obtain ⟨n1, n2, n3, n4, n5⟩ := h.nj
  have h1 := h.below hb
  have hj1 : Blk w2 j 61 #[.pointer (some ⟨b, 0, none⟩), u, s] := h1.blk.grown gr (fun e => n3 e.symm)
  have hjs := h.blk.lt
  have nj' : s'.ownBlock ≠ some j := fun e => by
    rcases at1 with a | ⟨g, a, hg⟩
    · exact n3 (a.trans e)
    · rw [a] at e; cases e; omega
  have keep : KeepS (jset j b u s) w (w2.setCell ⟨j, 2, none⟩ s') := by
    refine (KeepS.of_below _ hb).step ((KeepS.of_grown gr (fun r e => .inl (.inr (.inr (.inr e))))).step (KeepS.of_grown (only_set (only_refl w2 (some j)) 2 s') (fun r e => ?_)))
    cases e
    exact .inl (.inl rfl)
  have blocks : ∀ i, i < w.heap.size → i ≠ j → s.ownBlock ≠ some i → (w2.setCell ⟨j, 2, none⟩ s').heap[i]? = w.heap[i]? := fun i hi h2 h3 =>
    (Below.heap_setCell w2 ⟨j, 2, none⟩ s' i h2).trans ((gr.block i (Nat.lt_of_lt_of_le hi hb.size) (fun e => h3 e.symm)).trans (hb.block i hi))
  refine ⟨u, s', ⟨hj1.set_ 2 s', ?_, own_keep h.undos (fun g e => ?_), own_keep own (fun g e => ?_)⟩, keep, jset_starts j b u s s' w at1⟩
  · obtain ⟨p, t, h2, h3, h4⟩ := h.store
    exact ⟨p, t, (blocks b h2.lt n1.symm n5).trans h2, h3.kept (h.kept keep), h4⟩
  · exact blocks g (h.bound (.inr (.inr (.inl e)))) (fun e2 => n2 (by rw [e, e2])) (fun e2 => h.apart e e2)
  · exact Below.heap_setCell w2 ⟨j, 2, none⟩ s' g (fun e2 => nj' (by rw [e]; exact congrArg some e2))

set_option maxHeartbeats 2000000 in
theorem beginC (j b : Nat) (u s : Value) (L : List KV) (us : List Undo) (ns : List Nat) (w : World) (h : JAt w j b u s L us ns) (hz : ns.length + 1 ≤ 1000000000) :
    Calls Try.prog 20 #[.pointer (some ⟨j, 0, none⟩)] w fun e w' => e = .returned (.int .i64 ((ns.length + 1 : Nat) : Int)) ∧ JStep w j b u s L us (ns ++ [us.length]) w' := by
  have HJ := Lib.hid h
  obtain ⟨A, cap, rfl, hcap⟩ := own_slice h.starts
  obtain ⟨A1, cap1, rfl, hcap1⟩ := own_slice h.undos
  have c1 : w.cell? ⟨j, 1, none⟩ = some (.slice A1 us.length cap1) := h.blk.cell 1
  have c2 : w.cell? ⟨j, 2, none⟩ = some (.slice A ns.length cap) := h.blk.cell 2
  have f2 : w.frozen? ⟨j, 2, none⟩ = false := h.blk.frozen 2
  have hjl := Lib.hid h.blk.lt
  have HN := Lib.hid h.nj.2.2.1
  have HO := Lib.hid h.starts
  have HB := Lib.hid h.blk
  have d1a : ∀ ob, (w.alloc ob).cell? ⟨j, 1, none⟩ = some (.slice A1 us.length cap1) := fun ob => (HB.out.alloc ob).cell 1
  have d2a : ∀ ob, (w.alloc ob).cell? ⟨j, 2, none⟩ = some (.slice A ns.length cap) := fun ob => (HB.out.alloc ob).cell 2
  obtain ⟨i0, hi, hz0, hz1, hz2⟩ := info_parts infoInt
  clear h
  go_enter Try.func20, Try.ntmps20
  go_wp2
  go_region_law ((refine step_append_lies _ (by rfl) _ _ _ (by rfl) 0 3 i0 _ 1 8 Try.underlying59 hi hz0 hz1 hz2 rfl (by omega) (.slice A ns.length cap) ns.length (intVals ns) (by rfl) ((HO.out.alloc _).drew) ⟨w.heap.size, 0, none⟩ 1 1 [.int .i64 us.length] (by rfl) (by rfl) (World.news_of_block (cs := #[.int .i64 us.length]) (t := 3) (fr := (0, 0)) (heap_alloc_new w _)) (by simp [Value.oneCell']) (by omega) (by unfold maxLen; omega) (by omega) (by simp) (w.heap.size + 1) (by simp) ?_; intro gg cap2 w1 hown1 hgrow hat hlt'; have bj := Lib.hid (HB.out.adg hgrow (fun e => HN.out e.symm)); have p1 : w1.cell? ⟨j, 2, none⟩ = some (.slice A ns.length cap) := bj.out.cell 2; have q1 : w1.frozen? ⟨j, 2, none⟩ = false := bj.out.frozen 2))
  all_goals
    have R := Lib.hid (HJ.out.began (w1 := (w.alloc _).drew) (ns' := ns ++ [us.length]) (((Below.refl _ w).alloc (Nat.le_refl _) _).drew) hgrow (by simpa [intVals] using hown1) (by
      rcases hat with h | h
      · exact .inl h
      · exact .inr ⟨gg, rfl, by omega⟩))
    have p2 : (w1.setCell ⟨j, 2, none⟩ (.slice (some ⟨gg, 0, none⟩) (ns.length + 1) cap2)).cell? ⟨j, 2, none⟩ = some (.slice (some ⟨gg, 0, none⟩) (ns.length + 1) cap2) := (bj.out.set_ 2 _).cell 2
    clear hown1 hgrow hat hlt' p1 q1 c1 c2 f2 d1a d2a
    go_wp2
    go_ret
    exact ⟨by simp, R.out⟩
theorem beginNil (w : World) : Calls Try.prog 20 #[.pointer none] w fun e w' => e = .returned (.int .i64 0) ∧ w' = w := by
  go_enter Try.func20, Try.ntmps20
  go_wp2
  go_ret
  exact ⟨rfl, rfl⟩
theorem commitNil (w : World) : Calls Try.prog 21 #[.pointer none] w fun e w' => e = .returned (.int .i64 2) ∧ w' = w := by
  go_enter Try.func21, Try.ntmps21
  go_wp2
  go_ret
  exact ⟨rfl, rfl⟩
theorem commitNo (j b : Nat) (u s : Value) (L : List KV) (us : List Undo) (w : World) (h : JAt w j b u s L us []) : Calls Try.prog 21 #[.pointer (some ⟨j, 0, none⟩)] w fun e w' => e = .returned (.int .i64 10) ∧ w' = w := by
  obtain ⟨A, cap, rfl, hcap⟩ := own_slice h.starts
  have c2 : w.cell? ⟨j, 2, none⟩ = some (.slice A 0 cap) := h.blk.cell 2
  go_enter Try.func21, Try.ntmps21
  go_wp2
  go_ret
  exact ⟨rfl, rfl⟩
set_option maxHeartbeats 1000000 in
theorem commitC (j b : Nat) (u s : Value) (L : List KV) (us : List Undo) (ns : List Nat) (n : Nat) (w : World) (h : JAt w j b u s L us (ns ++ [n])) (hz : ns.length + 1 ≤ 1000000000) :
    Calls Try.prog 21 #[.pointer (some ⟨j, 0, none⟩)] w fun e w' => e = .returned (.int .i64 0) ∧ JStep w j b u s L (if ns = [] then [] else us) ns w' := by
  have H1 := Lib.hid (leaveC j b u s L us ns n w h hz)
  obtain ⟨A, cap, rfl, hcap⟩ := own_slice h.starts
  have c2 : w.cell? ⟨j, 2, none⟩ = some (.slice A (ns ++ [n]).length cap) := h.blk.cell 2
  have hlen : (ns ++ [n]).length = ns.length + 1 := by simp
  rw [hlen] at c2 H1 ⊢
  have hne : (((ns.length + 1 : Nat) : Int) == 0) = false := by rw [beq_eq_false_iff_ne]; omega
  clear h
  generalize (if ns = [] then [] else us) = vs at *
  go_enter Try.func21, Try.ntmps21
  go_wp2_with fail
  refine H1.out.mono ?_
  rintro e w' ⟨⟨x, rfl⟩, hs⟩
  go_wp2
  go_ret
  exact ⟨rfl, hs⟩
theorem depthC (j b : Nat) (u s : Value) (L : List KV) (us : List Undo) (ns : List Nat) (w : World) (h : JAt w j b u s L us ns) : Calls Try.prog 10 #[.pointer (some ⟨j, 0, none⟩)] w fun e w' => e = .returned (.int .i64 ns.length) ∧ w' = w := by
  obtain ⟨A, cap, rfl, hcap⟩ := own_slice h.starts
  have c2 : w.cell? ⟨j, 2, none⟩ = some (.slice A ns.length cap) := h.blk.cell 2
  go_enter Try.func10, Try.ntmps10
  go_wp2
  go_ret
  exact ⟨rfl, rfl⟩
theorem depthNil (w : World) : Calls Try.prog 10 #[.pointer none] w fun e w' => e = .returned (.int .i64 0) ∧ w' = w := by
  go_enter Try.func10, Try.ntmps10
  go_wp2
  go_ret
  exact ⟨rfl, rfl⟩
theorem heldC (j b : Nat) (u s : Value) (L : List KV) (us : List Undo) (ns : List Nat) (w : World) (h : JAt w j b u s L us ns) : Calls Try.prog 26 #[.pointer (some ⟨j, 0, none⟩)] w fun e w' => e = .returned (.pointer (some ⟨b, 0, none⟩)) ∧ w' = w := by
  have c0 : w.cell? ⟨j, 0, none⟩ = some (.pointer (some ⟨b, 0, none⟩)) := h.blk.cell 0
  go_enter Try.func26, Try.ntmps26
  go_wp2
  go_ret
  exact ⟨rfl, rfl⟩
theorem heldNil (w : World) : Calls Try.prog 26 #[.pointer none] w fun e w' => e = .returned (.pointer none) ∧ w' = w := by
  go_enter Try.func26, Try.ntmps26
  go_wp2
  go_ret
  exact ⟨rfl, rfl⟩
end Go.Proofs.Ytpjndgcliegloaa.W
