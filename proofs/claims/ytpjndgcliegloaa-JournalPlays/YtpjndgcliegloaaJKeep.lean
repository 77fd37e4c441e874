/-
  Package journal: keep, restore, Begin.
-/
import Derived.Test.YtpjndgcliegloaaJMem
import Derived.Test.YtpjndgcliegloaaCVals
namespace Go.Proofs.Ytpjndgcliegloaa.W
open Go.RowKit

theorem Blk.adg {W w1 : World} {g : Nat} {t : TypeId} {cs : Array Value} {ob : Obj} {row : Option Nat} (h : Blk W g t cs) (hg : ((W.alloc ob).drew).grownBy w1 row) (hn : some g ≠ row) : Blk w1 g t cs := Blk.grown (w := (W.alloc ob).drew) (h.alloc ob) hg hn
theorem infoFn : (Try.prog.info? 64).map (fun i => (i.zero, i.size, i.bytes)) = some (some .nilFunc, 1, 8) := by kernel_rfl
theorem infoInt : (Try.prog.info? 3).map (fun i => (i.zero, i.size, i.bytes)) = some (some (.int .i64 0), 1, 8) := by kernel_rfl

theorem keepNo (j b : Nat) (u s : Value) (L : List KV) (us : List Undo) (k : ByteArray) (w : World) (h : JAt w j b u s L us []) :
    Calls Try.prog 36 #[.pointer (some ⟨j, 0, none⟩), .string k] w fun e w' => (∃ x, e = .returned x) ∧ w' = w := by
  obtain ⟨A, cap, rfl, hcap⟩ := own_slice h.starts
  have c2 : w.cell? ⟨j, 2, none⟩ = some (.slice A 0 cap) := h.blk.cell 2
  go_enter Try.func36, Try.ntmps36
  go_wp2
  go_returns
  exact ⟨⟨_, rfl⟩, rfl⟩
theorem jset_undos (j b : Nat) (u u' s : Value) (w : World) (h : u.ownBlock = u'.ownBlock ∨ ∃ g, u'.ownBlock = some g ∧ w.heap.size ≤ g) : Grows (jset j b u s) (jset j b u' s) w := fun i hi => by
  rcases hi with hi | hi | hi | hi
  · exact .inl (.inl hi)
  · exact .inl (.inr (.inl hi))
  · rcases h with h | ⟨g, h, hg⟩
    · exact .inl (.inr (.inr (.inl (h.trans hi))))
    · rw [h] at hi; cases hi; exact .inr hg
  · exact .inl (.inr (.inr (.inr hi)))
theorem jset_starts (j b : Nat) (u s s' : Value) (w : World) (h : s.ownBlock = s'.ownBlock ∨ ∃ g, s'.ownBlock = some g ∧ w.heap.size ≤ g) : Grows (jset j b u s) (jset j b u s') w := fun i hi => by
  rcases hi with hi | hi | hi | hi
  · exact .inl (.inl hi)
  · exact .inl (.inr (.inl hi))
  · exact .inl (.inr (.inr (.inl hi)))
  · rcases h with h | ⟨g, h, hg⟩
    · exact .inl (.inr (.inr (.inr (h.trans hi))))
    · rw [h] at hi; cases hi; exact .inr hg
/-- a change has been appended and the journal holds the new row -/
theorem JAt.pushed {w w1 w2 : World} {j b : Nat} {u u' s : Value} {L : List KV} {us us' : List Undo} {ns : List Nat} (h : JAt w j b u s L us ns) (hb : Below w.heap.size w w1) (gr : w1.grownBy w2 u.ownBlock) (own : w2.ownsRow 0 64 1 u' us'.length (undoVals us'))
    (at1 : u.ownBlock = u'.ownBlock ∨ ∃ g, u'.ownBlock = some g ∧ w.heap.size ≤ g) : JStep w j b u s L us' ns (w2.setCell ⟨j, 1, none⟩ u') := by
  obtain ⟨n1, n2, n3, n4, n5⟩ := h.nj
  have h1 := h.below hb
  have hj1 : Blk w2 j 61 #[.pointer (some ⟨b, 0, none⟩), u, s] := h1.blk.grown gr (fun e => n2 e.symm)
  have hjs := h.blk.lt
  have nj' : u'.ownBlock ≠ some j := fun e => by
    rcases at1 with a | ⟨g, a, hg⟩
    · exact n2 (a.trans e)
    · rw [a] at e; cases e; omega
  have keep : KeepS (jset j b u s) w (w2.setCell ⟨j, 1, none⟩ u') := by
    refine (KeepS.of_below _ hb).step ((KeepS.of_grown gr (fun r e => .inl (.inr (.inr (.inl e))))).step (KeepS.of_grown (only_set (only_refl w2 (some j)) 1 u') (fun r e => ?_)))
    cases e
    exact .inl (.inl rfl)
  have blocks : ∀ i, i < w.heap.size → i ≠ j → u.ownBlock ≠ some i → (w2.setCell ⟨j, 1, none⟩ u').heap[i]? = w.heap[i]? := fun i hi h2 h3 =>
    (Below.heap_setCell w2 ⟨j, 1, none⟩ u' i h2).trans ((gr.block i (Nat.lt_of_lt_of_le hi hb.size) (fun e => h3 e.symm)).trans (hb.block i hi))
  refine ⟨u', s, ⟨hj1.set_ 1 u', ?_, own_keep own (fun g e => ?_), own_keep h.starts (fun g e => ?_)⟩, keep, jset_undos j b u u' s w at1⟩
  · obtain ⟨p, t, h2, h3, h4⟩ := h.store
    exact ⟨p, t, (blocks b h2.lt n1.symm n4).trans h2, h3.kept (h.kept keep), h4⟩
  · exact Below.heap_setCell w2 ⟨j, 1, none⟩ u' g (fun e2 => nj' (by rw [e]; exact congrArg some e2))
  · exact blocks g (h.bound (.inr (.inr (.inr e)))) (fun e2 => n3 (by rw [e, e2])) (fun e2 => h.apart e2 e)

set_option maxHeartbeats 2000000 in
theorem keepYes (j b : Nat) (u s : Value) (L : List KV) (us : List Undo) (ns : List Nat) (k : ByteArray) (w : World) (h : JAt w j b u s L us ns) (h0 : 0 < ns.length) (hz : us.length + 1 ≤ 1000000000) :
    Calls Try.prog 36 #[.pointer (some ⟨j, 0, none⟩), .string k] w fun e w' => (∃ x, e = .returned x) ∧ JStep w j b u s L (us ++ [was L k]) ns w' := by
  have H1 := Lib.hid (sGet b k L w h.store)
  have HJ := Lib.hid h
  obtain ⟨A, cap, rfl, hcap⟩ := own_slice h.starts
  obtain ⟨A1, cap1, rfl, hcap1⟩ := own_slice h.undos
  have c0 : w.cell? ⟨j, 0, none⟩ = some (.pointer (some ⟨b, 0, none⟩)) := h.blk.cell 0
  have c1 : w.cell? ⟨j, 1, none⟩ = some (.slice A1 us.length cap1) := h.blk.cell 1
  have c2 : w.cell? ⟨j, 2, none⟩ = some (.slice A ns.length cap) := h.blk.cell 2
  have f1 : w.frozen? ⟨j, 1, none⟩ = false := h.blk.frozen 1
  have hne : ((ns.length : Int) == 0) = false := by rw [beq_eq_false_iff_ne]; omega
  have hjl := h.blk.lt
  have hu : was L k = ⟨k, (lget L k).getD ⟨#[]⟩, (lget L k).isSome⟩ := rfl
  obtain ⟨x, hx⟩ : ∃ x, x = was L k := ⟨_, rfl⟩
  rw [← hx] at hu ⊢
  clear hx h
  unfold retGet at *
  generalize (lget L k).getD ⟨#[]⟩ = v at *
  generalize (lget L k).isSome = c at *
  obtain ⟨i0, hi, hz0, hz1, hz2⟩ := info_parts infoFn
  go_enter Try.func36, Try.ntmps36
  go_wp2_with fail
  refine H1.out.mono ?_
  rintro e w' ⟨rfl, rfl⟩
  go_wp2
  have HU := Lib.hid HJ.out.undos
  obtain ⟨n1, n2, n3, n4, n5⟩ := HJ.out.nj
  have HN := Lib.hid n2
  have HLO := Lib.hid (fun g (e : (Value.slice A1 us.length cap1).ownBlock = some g) => (HJ.out.undos.lt g e).2)
  clear n1 n2 n3 n4 n5
  have bk : Blk (w'.alloc (.cells #[.string k, .string v, .bool c] 82)) w'.heap.size 82 #[.string k, .string v, .bool c] := Blk.new _ _ _
  have B1 : Below w'.heap.size w' (w'.alloc (.cells #[.string k, .string v, .bool c] 82)) := (Below.refl _ _).alloc (Nat.le_refl _) _
  have z1 : (w'.alloc (.cells #[.string k, .string v, .bool c] 82)).heap.size = w'.heap.size + 1 := by simp
  generalize w'.alloc (.cells #[.string k, .string v, .bool c] 82) = W at *
  replace z1 := Lib.hid z1
  have d1 := (since_of B1).cell c1
  have g1 : W.frozen? ⟨j, 1, none⟩ = false := (HJ.out.below B1).blk.frozen 1
  have e0 : W.cell? ⟨w'.heap.size, 0, none⟩ = some (.string k) := bk.cell 0
  have e1 : W.cell? ⟨w'.heap.size, 1, none⟩ = some (.string v) := bk.cell 1
  have e2 : W.cell? ⟨w'.heap.size, 2, none⟩ = some (.bool c) := bk.cell 2
  have HO := Lib.hid (HJ.out.below B1).undos
  have HB := Lib.hid (HJ.out.below B1).blk
  have d1a : ∀ ob, (W.alloc ob).cell? ⟨j, 1, none⟩ = some (.slice A1 us.length cap1) := fun ob => (HB.out.alloc ob).cell 1
  clear c0 c1 c2 f1 H1 hne HU
  go_region_law ((refine step_append_lies _ (by rfl) _ _ _ (by rfl) 0 64 i0 _ 1 8 Try.underlying58 hi hz0 hz1 hz2 rfl (by omega) (.slice A1 us.length cap1) us.length (undoVals us) (by rfl) ((HO.out.alloc _).drew) ⟨W.heap.size, 0, none⟩ 1 1 [.func (.func 44) #[.agg #[.string k, .string v, .bool c]] #[]] (by rfl) (by rfl) (World.news_of_block (cs := #[.func (.func 44) #[.agg #[.string k, .string v, .bool c]] #[]]) (t := 64) (fr := (0, 0)) (heap_alloc_new W _)) (by simp [Value.oneCell']) (by omega) (by unfold maxLen; omega) (by omega) (by simp) (W.heap.size + 1) (by simp) ?_; intro gg cap2 w1 hown1 hgrow hat hlt'; have bj := Lib.hid (HB.out.adg hgrow (fun e => HN.out e.symm)); have p1 : w1.cell? ⟨j, 1, none⟩ = some (.slice A1 us.length cap1) := bj.out.cell 1; have q1 : w1.frozen? ⟨j, 1, none⟩ = false := bj.out.frozen 1))
  all_goals go_wp2
  all_goals go_returns
  all_goals refine ⟨⟨_, rfl⟩, HJ.out.pushed (w1 := (W.alloc _).drew) (us' := us ++ [x]) ((B1.alloc (by have := z1.out; omega) _).drew) hgrow (by rw [hu]; simpa [undoVals, undoV] using hown1) ?_⟩
  all_goals
    rcases hat with h | h
    · exact .inl h
    · exact .inr ⟨gg, rfl, by have := z1.out; omega⟩
end Go.Proofs.Ytpjndgcliegloaa.W
