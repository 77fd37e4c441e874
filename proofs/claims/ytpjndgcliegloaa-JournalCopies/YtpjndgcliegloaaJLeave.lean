/-
  Package journal: restore, leave, Begin, Commit.
-/
import Derived.Test.YtpjndgcliegloaaJDel
namespace Go.Proofs.Ytpjndgcliegloaa.W
open Go.RowKit

theorem only_below' {w w1 w2 : World} {b : Nat} (h : Below w.heap.size w w1) (k : w1.grownBy w2 (some b)) : w.grownBy w2 (some b) := only_trans (only_of_below (only_refl w _) h (Nat.le_refl _)) k
set_option maxHeartbeats 1000000 in
theorem restoreC (u : Undo) (b : Nat) (L : List KV) (w : World) (h : IsStore w b L) (hz : L.length + 1 < 4611686018427387904) :
    Calls Try.prog 44 #[.agg #[.string u.k, .string u.v, .bool u.p], .pointer (some ⟨b, 0, none⟩)] w fun e w' => (∃ x, e = .returned x) ∧ IsStore w' b (rest u L) ∧ w.grownBy w' (some b) := by
  obtain ⟨k, v, p⟩ := u
  have H1 := Lib.hid (fun W (hW : Since w W) => sSet b k v L W (h.below hW.below) hz)
  have H2 := Lib.hid (fun W (hW : Since w W) => sDel b k L W (h.below hW.below) (by omega))
  clear h
  cases p with
  | true =>
    simp only [rest, if_true]
    go_enter Try.func44, Try.ntmps44
    go_wp2_with fail
    have s1 : Since w (w.alloc (.cells #[.string k, .string v, .bool true] 82)) := since_of ((Below.refl _ _).alloc (Nat.le_refl _) _)
    refine (H1.out _ s1).mono ?_
    rintro e w' ⟨rfl, hs, hg⟩
    go_wp2
    go_returns
    exact ⟨⟨_, rfl⟩, hs, only_below' s1.below hg⟩
  | false =>
    simp only [rest, Bool.false_eq_true, if_false]
    go_enter Try.func44, Try.ntmps44
    go_wp2_with fail
    have s1 : Since w (w.alloc (.cells #[.string k, .string v, .bool false] 82)) := since_of ((Below.refl _ _).alloc (Nat.le_refl _) _)
    refine (H2.out _ s1).mono ?_
    rintro e w' ⟨rfl, hs, hg⟩
    go_wp2
    go_returns
    exact ⟨⟨_, rfl⟩, hs, only_below' s1.below hg⟩

section
variable {w w1 w2 : World} {j b : Nat} {u u' s s' : Value} {L : List KV} {us us' : List Undo} {ns ns' : List Nat}
/-- the journal's row of changes is another one -/
theorem JAt.setU (h : JAt w j b u s L us ns) (own : w.ownsRow 0 64 1 u' us'.length (undoVals us')) (hn : u'.ownBlock ≠ some j) : JAt (w.setCell ⟨j, 1, none⟩ u') j b u' s L us' ns := by
  obtain ⟨n1, n2, n3, n4, n5⟩ := h.nj
  have gr := only_set (only_refl w (some j)) 1 u'
  refine ⟨h.blk.set_ 1 u', ?_, own_keep own (fun g e => Below.heap_setCell w ⟨j, 1, none⟩ u' g (fun e2 => hn (by rw [e]; exact congrArg some e2))), own_keep h.starts (fun g e => Below.heap_setCell w ⟨j, 1, none⟩ u' g (fun e2 => n3 (by rw [e]; exact congrArg some e2)))⟩
  obtain ⟨p, t, h2, h3, h4⟩ := h.store
  exact ⟨p, t, (Below.heap_setCell w ⟨j, 1, none⟩ u' b (Ne.symm n1)).trans h2, h3.kept (h.kept (KeepS.of_grown gr (fun r e => by cases e; exact .inl (.inl rfl)))), h4⟩
/-- the journal's row of beginnings is another one -/
theorem JAt.setS (h : JAt w j b u s L us ns) (own : w.ownsRow 0 3 1 s' ns'.length (intVals ns')) (hn : s'.ownBlock ≠ some j) : JAt (w.setCell ⟨j, 2, none⟩ s') j b u s' L us ns' := by
  obtain ⟨n1, n2, n3, n4, n5⟩ := h.nj
  have gr := only_set (only_refl w (some j)) 2 s'
  refine ⟨h.blk.set_ 2 s', ?_, own_keep h.undos (fun g e => Below.heap_setCell w ⟨j, 2, none⟩ s' g (fun e2 => n2 (by rw [e]; exact congrArg some e2))), own_keep own (fun g e => Below.heap_setCell w ⟨j, 2, none⟩ s' g (fun e2 => hn (by rw [e]; exact congrArg some e2)))⟩
  obtain ⟨p, t, h2, h3, h4⟩ := h.store
  exact ⟨p, t, (Below.heap_setCell w ⟨j, 2, none⟩ s' b (Ne.symm n1)).trans h2, h3.kept (h.kept (KeepS.of_grown gr (fun r e => by cases e; exact .inl (.inl rfl)))), h4⟩
theorem keep_j (w : World) (j b : Nat) (u s : Value) (i : Nat) (x : Value) : KeepS (jset j b u s) w (w.setCell ⟨j, i, none⟩ x) := KeepS.of_grown (only_set (only_refl w (some j)) i x) (fun r e => by cases e; exact .inl (.inl rfl))
theorem JAt.drew (h : JAt w j b u s L us ns) : JAt w.drew j b u s L us ns := h.below ((Below.refl _ w).drew)
theorem keepS_drew (S : Nat → Prop) (w : World) : KeepS S w w.drew := KeepS.of_below S ((Below.refl _ w).drew)
theorem grows_less (hu : ∀ g, u'.ownBlock = some g → u.ownBlock = some g) (hs : ∀ g, s'.ownBlock = some g → s.ownBlock = some g) : Grows (jset j b u s) (jset j b u' s') w := fun i hi => by
  rcases hi with hi | hi | hi | hi
  · exact .inl (.inl hi)
  · exact .inl (.inr (.inl hi))
  · exact .inl (.inr (.inr (.inl (hu i hi))))
  · exact .inl (.inr (.inr (.inr (hs i hi))))
end
set_option maxHeartbeats 2000000 in
theorem leaveC (j b : Nat) (u s : Value) (L : List KV) (us : List Undo) (ns : List Nat) (n : Nat) (w : World) (h : JAt w j b u s L us (ns ++ [n])) (hz : ns.length + 1 ≤ 1000000000) :
    Calls Try.prog 35 #[.pointer (some ⟨j, 0, none⟩)] w fun e w' => (∃ x, e = .returned x) ∧ JStep w j b u s L (if ns = [] then [] else us) ns w' := by
  have HJ := Lib.hid h
  have hlen : (ns ++ [n]).length = ns.length + 1 := by simp
  obtain ⟨g, cap, hs, own, hcap⟩ := own_take (k := ns.length) h.starts (by omega) (by omega)
  rw [hlen] at hs hcap
  subst hs
  have own1 : w.ownsRow 0 3 1 (.slice (some ⟨g, 0, none⟩) ns.length cap) ns.length (intVals ns) := by
    have : (intVals (ns ++ [n])).take ns.length = intVals ns := by unfold intVals; rw [← List.map_take, List.take_left]
    rw [this] at own; exact own
  clear own
  have c2 : w.cell? ⟨j, 2, none⟩ = some (.slice (some ⟨g, 0, none⟩) (ns.length + 1) cap) := h.blk.cell 2
  have f2 : w.frozen? ⟨j, 2, none⟩ = false := h.blk.frozen 2
  have hw : IntKind.i64.wrap (((ns.length + 1 : Nat) : Int) - 1) = (ns.length : Int) := by rw [IntWalk.i64_in _ (by omega)]; omega
  obtain ⟨i0, hi0, _⟩ := info_parts infoInt
  have hsl := vls_upto (P := Try.prog) int_und int_elem hi0 int_cells (some ⟨g, 0, none⟩) (ns.length + 1) cap ns.length (by omega)
  have J1 := (h.setS own1 (fun e => h.nj.2.2.1 e)).drew
  clear h hlen
  obtain ⟨W1, hW1⟩ : ∃ W1, W1 = (w.setCell ⟨j, 2, none⟩ (.slice (some ⟨g, 0, none⟩) ns.length cap)).drew := ⟨_, rfl⟩
  rw [← hW1] at J1
  have k1 : KeepS (jset j b u (.slice (some ⟨g, 0, none⟩) (ns.length + 1) cap)) w W1 := by rw [hW1]; exact (keep_j _ _ _ _ _ _ _).step (keepS_drew _ _)
  have HW := Lib.hid hW1
  have d2 : W1.cell? ⟨j, 2, none⟩ = some (.slice (some ⟨g, 0, none⟩) ns.length cap) := J1.blk.cell 2
  have e1 : W1.cell? ⟨j, 1, none⟩ = some u := J1.blk.cell 1
  have e2 : W1.frozen? ⟨j, 1, none⟩ = false := J1.blk.frozen 1
  have e3 : W1.frozen? ⟨j, 2, none⟩ = false := J1.blk.frozen 2
  have hJ1 := Lib.hid J1
  clear hW1 J1
  go_enter Try.func35, Try.ntmps35
  go_wp2_with fail
  go_region
  all_goals rw [← HW.out]
  all_goals clear c2 f2 hsl hw
  · by_cases hn : ns = []
    · subst hn
      have J2 := hJ1.out.setU (us' := []) (World.ownsRow_nil _ _ _ _) (fun e => by cases e)
      have J3 := J2.setS (ns' := []) (World.ownsRow_nil _ _ _ _) (fun e => by cases e)
      have z1 : (W1.setCell ⟨j, 1, none⟩ (.slice none 0 0)).frozen? ⟨j, 2, none⟩ = false := J2.blk.frozen 2
      have z2 : (W1.setCell ⟨j, 1, none⟩ (.slice none 0 0)).cell? ⟨j, 2, none⟩ = some (.slice (some ⟨g, 0, none⟩) 0 cap) := J2.blk.cell 2
      have R := Lib.hid (show JStep w j b u (.slice (some ⟨g, 0, none⟩) (0 + 1) cap) L [] [] ((W1.setCell ⟨j, 1, none⟩ (.slice none 0 0)).setCell ⟨j, 2, none⟩ (.slice none 0 0)) from
        ⟨_, _, J3, (k1.step (keep_j _ _ _ _ _ _ _)).step (keep_j _ _ _ _ _ _ _), grows_less (fun _ e => by cases e) (fun _ e => by cases e)⟩)
      clear J2 J3 k1
      simp only [List.length_nil] at d2
      go_wp2
      go_returns
      exact ⟨⟨_, rfl⟩, by simpa using R.out⟩
    · have hne : ((ns.length : Int) == 0) = false := by
        rw [beq_eq_false_iff_ne]
        have : ns.length ≠ 0 := fun e => hn (List.eq_nil_of_length_eq_zero e)
        omega
      go_wp2
      go_returns
      exact ⟨⟨_, rfl⟩, ⟨_, _, hJ1.out, k1, grows_less (fun _ e => e) (fun _ e => e)⟩⟩
end Go.Proofs.Ytpjndgcliegloaa.W
