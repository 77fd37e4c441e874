/-
  The library's slices.Clone at a journal's rows; package journal: New, Copy.
-/
import Derived.Test.YtpjndgcliegloaaJBegin
namespace Go.Proofs.Ytpjndgcliegloaa.W
open Go.RowKit

theorem own_none (w : World) (e : TypeId) : (w.alloc (.cells #[] e)).ownsRow w.heap.size e 1 (.slice (some ⟨w.heap.size, 0, none⟩) 0 0) 0 [] :=
  ⟨rfl, .inr ⟨w.heap.size, 0, #[], rfl, Nat.le_refl _, heap_alloc_new w _, Nat.le_refl _, Nat.zero_le _, rfl, rfl⟩⟩
theorem cloneFnNil (w : World) : Calls Try.prog 31 #[.slice none 0 0] w fun e w' => e = .returned (.slice none 0 0) ∧ w' = w := by
  have he := Lib.run_eql_slice_nil (P := Try.prog) w 58 64 none 0 0 0 0 Try.underlying58
  go_enter Try.func31, Try.ntmps31
  go_wp2
  go_ret
  exact ⟨rfl, rfl⟩
set_option maxHeartbeats 1000000 in
theorem cloneFnSome (g n cap : Nat) (xs : List Value) (w : World) (h : w.ownsRow 0 64 1 (.slice (some ⟨g, 0, none⟩) n cap) n xs) (h1 : ∀ u ∈ xs, u.oneCell' = true) (hz : n ≤ 1000000000) :
    Calls Try.prog 31 #[.slice (some ⟨g, 0, none⟩) n cap] w fun e w' => ∃ v, e = .returned v ∧ w'.ownsRow w.heap.size 64 1 v n xs ∧ Below w.heap.size w w' := by
  obtain ⟨i0, hi, hz0, hz1, hz2⟩ := info_parts infoFn
  have he := Lib.run_eql_slice_nil (P := Try.prog) w 58 64 (some ⟨g, 0, none⟩) n cap 0 0 Try.underlying58
  have HO := Lib.hid (own_none w 64)
  have hl := h.1
  rw [Nat.mul_one] at hl
  have HC := Lib.hid (fun j u (hj : xs[j]? = some u) => ((h.alloc (.cells #[] 64)).cells (g := g) rfl j u hj))
  have H1 := Lib.hid h1
  clear h h1
  go_enter Try.func31, Try.ntmps31
  go_wp2_with (at_builtin; refine wpList_append_own_at _ rfl _ _ 58 rfl w.heap.size 64 i0 _ 1 8 Try.underlying58 hi hz0 hz1 hz2 rfl (by decide) _ 0 [] rfl HO.out ⟨g, 0, none⟩ n cap xs rfl (by omega) HC.out H1.out (by unfold maxLen; omega) (by omega) (by simp) ?_; intro v w' own gr _ at1)
  go_ret
  refine ⟨v, rfl, by simpa using own, ?_⟩
  exact ((Below.refl _ w).alloc (Nat.le_refl _) _).grown gr (by simp) (fun k e => by cases e; exact Nat.le_refl _)
theorem cloneFn (v : Value) (n : Nat) (xs : List Value) (w : World) (h : w.ownsRow 0 64 1 v n xs) (h1 : ∀ u ∈ xs, u.oneCell' = true) (hz : n ≤ 1000000000) :
    Calls Try.prog 31 #[v] w fun e w' => ∃ v', e = .returned v' ∧ w'.ownsRow w.heap.size 64 1 v' n xs ∧ Below w.heap.size w w' := by
  have h' := h
  rcases h'.2 with ⟨rfl, rfl⟩ | ⟨g, cap, cur, rfl, _⟩
  · refine (cloneFnNil w).mono ?_
    rintro e w' ⟨rfl, rfl⟩
    refine ⟨_, rfl, ?_, Below.refl _ _⟩
    have : xs = [] := List.eq_nil_of_length_eq_zero (by have := h.1; omega)
    rw [this]
    exact World.ownsRow_nil _ _ _ _
  · exact cloneFnSome g n cap xs w h h1 hz
theorem cloneIntNil (w : World) : Calls Try.prog 32 #[.slice none 0 0] w fun e w' => e = .returned (.slice none 0 0) ∧ w' = w := by
  have he := Lib.run_eql_slice_nil (P := Try.prog) w 59 3 none 0 0 0 0 Try.underlying59
  go_enter Try.func32, Try.ntmps32
  go_wp2
  go_ret
  exact ⟨rfl, rfl⟩
set_option maxHeartbeats 1000000 in
theorem cloneIntSome (g n cap : Nat) (xs : List Value) (w : World) (h : w.ownsRow 0 3 1 (.slice (some ⟨g, 0, none⟩) n cap) n xs) (h1 : ∀ u ∈ xs, u.oneCell' = true) (hz : n ≤ 1000000000) :
    Calls Try.prog 32 #[.slice (some ⟨g, 0, none⟩) n cap] w fun e w' => ∃ v, e = .returned v ∧ w'.ownsRow w.heap.size 3 1 v n xs ∧ Below w.heap.size w w' := by
  obtain ⟨i0, hi, hz0, hz1, hz2⟩ := info_parts infoInt
  have he := Lib.run_eql_slice_nil (P := Try.prog) w 59 3 (some ⟨g, 0, none⟩) n cap 0 0 Try.underlying59
  have HO := Lib.hid (own_none w 3)
  have hl := h.1
  rw [Nat.mul_one] at hl
  have HC := Lib.hid (fun j u (hj : xs[j]? = some u) => ((h.alloc (.cells #[] 3)).cells (g := g) rfl j u hj))
  have H1 := Lib.hid h1
  clear h h1
  go_enter Try.func32, Try.ntmps32
  go_wp2_with (at_builtin; refine wpList_append_own_at _ rfl _ _ 59 rfl w.heap.size 3 i0 _ 1 8 Try.underlying59 hi hz0 hz1 hz2 rfl (by decide) _ 0 [] rfl HO.out ⟨g, 0, none⟩ n cap xs rfl (by omega) HC.out H1.out (by unfold maxLen; omega) (by omega) (by simp) ?_; intro v w' own gr _ at1)
  go_ret
  refine ⟨v, rfl, by simpa using own, ?_⟩
  exact ((Below.refl _ w).alloc (Nat.le_refl _) _).grown gr (by simp) (fun k e => by cases e; exact Nat.le_refl _)
theorem cloneInt (v : Value) (n : Nat) (xs : List Value) (w : World) (h : w.ownsRow 0 3 1 v n xs) (h1 : ∀ u ∈ xs, u.oneCell' = true) (hz : n ≤ 1000000000) :
    Calls Try.prog 32 #[v] w fun e w' => ∃ v', e = .returned v' ∧ w'.ownsRow w.heap.size 3 1 v' n xs ∧ Below w.heap.size w w' := by
  have h' := h
  rcases h'.2 with ⟨rfl, rfl⟩ | ⟨g, cap, cur, rfl, _⟩
  · refine (cloneIntNil w).mono ?_
    rintro e w' ⟨rfl, rfl⟩
    refine ⟨_, rfl, ?_, Below.refl _ _⟩
    have : xs = [] := List.eq_nil_of_length_eq_zero (by have := h.1; omega)
    rw [this]
    exact World.ownsRow_nil _ _ _ _
  · exact cloneIntSome g n cap xs w h h1 hz
theorem undo_one (us : List Undo) : ∀ u ∈ undoVals us, u.oneCell' = true := fun u hu => by
  obtain ⟨x, _, rfl⟩ := List.mem_map.1 hu
  rfl
theorem int_one (ns : List Nat) : ∀ u ∈ intVals ns, u.oneCell' = true := fun u hu => by
  obtain ⟨x, _, rfl⟩ := List.mem_map.1 hu
  rfl
theorem copyJNil (w : World) : Calls Try.prog 15 #[.pointer none] w fun e w' => e = .returned (.pointer none) ∧ w' = w := by
  go_enter Try.func15, Try.ntmps15
  go_wp2
  go_ret
  exact ⟨rfl, rfl⟩
set_option maxHeartbeats 4000000 in
theorem copyJ (j b : Nat) (u s : Value) (L : List KV) (us : List Undo) (ns : List Nat) (w : World) (h : JAt w j b u s L us ns) (hz : us.length ≤ 1000000000) (hz2 : ns.length ≤ 1000000000) :
    Calls Try.prog 15 #[.pointer (some ⟨j, 0, none⟩)] w fun e w' => ∃ k b' u' s', e = .returned (.pointer (some ⟨k, 0, none⟩)) ∧ JAt w' k b' u' s' L us ns ∧ Below w.heap.size w w' ∧ ∀ i, jset k b' u' s' i → w.heap.size ≤ i := by
  have H1 : Hid (∀ W, Since w W → Calls Try.prog 30 #[.pointer (some ⟨b, 0, none⟩)] W fun e w' => ∃ g, e = .returned (.pointer (some ⟨g, 0, none⟩)) ∧ w.heap.size ≤ g ∧ IsStore w' g L ∧ Since w w') := fun W hW =>
    (copyC b L W (h.below hW.below).store).mono fun e w' ⟨he, hs, hb⟩ => ⟨_, he, hW.below.size, hs, since_of (step_below hW.below hb)⟩
  have H2 : Hid (∀ W, Since w W → Calls Try.prog 31 #[u] W fun e w' => ∃ A c, e = .returned (.slice A us.length c) ∧ w'.ownsRow w.heap.size 64 1 (.slice A us.length c) us.length (undoVals us) ∧ Since w w' ∧ Since W w') := fun W hW =>
    (cloneFn u us.length (undoVals us) W (h.below hW.below).undos (undo_one us) hz).mono fun e w' ⟨v, he, ho, hb⟩ => by
      obtain ⟨A, c, rfl, _⟩ := own_slice ho
      exact ⟨A, c, he, own_base ho hW.below.size, since_of (step_below hW.below hb), since_of hb⟩
  have H3 : Hid (∀ W, Since w W → Calls Try.prog 32 #[s] W fun e w' => ∃ A c, e = .returned (.slice A ns.length c) ∧ w'.ownsRow w.heap.size 3 1 (.slice A ns.length c) ns.length (intVals ns) ∧ Since w w' ∧ Since W w') := fun W hW =>
    (cloneInt s ns.length (intVals ns) W (h.below hW.below).starts (int_one ns) hz2).mono fun e w' ⟨v, he, ho, hb⟩ => by
      obtain ⟨A, c, rfl, _⟩ := own_slice ho
      exact ⟨A, c, he, own_base ho hW.below.size, since_of (step_below hW.below hb), since_of hb⟩
  have c0 : w.cell? ⟨j, 0, none⟩ = some (.pointer (some ⟨b, 0, none⟩)) := h.blk.cell 0
  have c1 : w.cell? ⟨j, 1, none⟩ = some u := h.blk.cell 1
  have c2 : w.cell? ⟨j, 2, none⟩ = some s := h.blk.cell 2
  clear h
  have r0 := Since.refl w
  go_enter Try.func15, Try.ntmps15
  go_wp2
  go_region_held3 (fun W => W.cell? ⟨j, 0, none⟩ = some (.pointer (some ⟨b, 0, none⟩)) ∧ W.cell? ⟨j, 1, none⟩ = some u ∧ W.cell? ⟨j, 2, none⟩ = some s)
    (first | go_keep | exact ⟨s5.cell c0, s5.cell c1, s5.cell c2⟩ | exact ⟨s6.cell c0, s6.cell c1, s6.cell c2⟩ | exact ⟨s7.cell c0, s7.cell c1, s7.cell c2⟩)
    (first
      | (go_at_call 30; refine (H1.out _ (by exact r0)).mono ?_; clear H1; rintro en w5 ⟨g5, rfl, l5, st5, s5⟩)
      | (go_at_call 31; refine (H2.out _ (by exact s5)).mono ?_; clear H2; rintro en w6 ⟨A6, k6, rfl, o6, s6, t6⟩)
      | (go_at_call 32; refine (H3.out _ (by exact s6)).mono ?_; clear H3; rintro en w7 ⟨A7, k7, rfl, o7, s7, t7⟩))
  all_goals go_wp2
  all_goals go_ret
  all_goals
    have b8 : Below w7.heap.size w7 (w7.alloc (.cells #[.pointer (some ⟨g5, 0, none⟩), .slice A6 us.length k6, .slice A7 ns.length k7] 61)) := (Below.refl _ _).alloc (Nat.le_refl _) _
    refine ⟨w7.heap.size, g5, _, _, rfl, ⟨Blk.new w7 _ _, (st5.below (step_below t6.below t7.below)).below b8, ?_, ?_⟩, step_below s7.below b8, fun i hi => ?_⟩
    · exact own_keep (own_keep (own_base o6 (Nat.zero_le _)) (fun g e => t7.below.block g (o6.lt g e).2)) (fun g e => b8.block g (Nat.lt_of_lt_of_le (o6.lt g e).2 t7.below.size))
    · exact own_keep (own_base o7 (Nat.zero_le _)) (fun g e => b8.block g (o7.lt g e).2)
    · rcases hi with rfl | rfl | hi | hi
      · exact s7.below.size
      · exact l5
      · exact (o6.lt i hi).1
      · exact (o7.lt i hi).1
/-- a new journal over the store at g -/
theorem newAt {w w' : World} {g : Nat} {L : List KV} (hs : IsStore w' g L) (hb : Below w.heap.size w w') (hg : w.heap.size ≤ g) :
    JAt (w'.alloc (.cells #[.pointer (some ⟨g, 0, none⟩), .slice none 0 0, .slice none 0 0] 61)) w'.heap.size g (.slice none 0 0) (.slice none 0 0) L [] [] ∧ Below w.heap.size w (w'.alloc (.cells #[.pointer (some ⟨g, 0, none⟩), .slice none 0 0, .slice none 0 0] 61)) ∧ ∀ i, jset w'.heap.size g (.slice none 0 0) (.slice none 0 0) i → w.heap.size ≤ i :=
  have b8 : Below w'.heap.size w' (w'.alloc (.cells #[.pointer (some ⟨g, 0, none⟩), .slice none 0 0, .slice none 0 0] 61)) := (Below.refl _ _).alloc (Nat.le_refl _) _
  ⟨⟨Blk.new w' _ _, hs.below b8, World.ownsRow_nil _ _ _ _, World.ownsRow_nil _ _ _ _⟩, step_below hb b8, fun i hi => by
    rcases hi with rfl | rfl | hi | hi
    · exact hb.size
    · exact hg
    · cases hi
    · cases hi⟩
/-- what New answers -/
def Fresh1 (L : List KV) (w : World) (e : Ending) (w' : World) : Prop := ∃ j b u s, e = .returned (.pointer (some ⟨j, 0, none⟩)) ∧ JAt w' j b u s L [] [] ∧ Below w.heap.size w w' ∧ ∀ i, jset j b u s i → w.heap.size ≤ i
set_option maxHeartbeats 1000000 in
theorem newJ (b : Nat) (L : List KV) (w : World) (h : IsStore w b L) : Calls Try.prog 17 #[.pointer (some ⟨b, 0, none⟩)] w (Fresh1 L w) := by
  have H1 := Lib.hid (copyC b L w h)
  clear h
  go_enter Try.func17, Try.ntmps17
  go_wp2_with fail
  refine H1.out.mono ?_
  rintro e w' ⟨rfl, hs, hb⟩
  go_wp2
  go_ret
  exact ⟨_, _, _, _, rfl, newAt hs hb (Nat.le_refl _)⟩
set_option maxHeartbeats 1000000 in
theorem newJNil (w : World) : Calls Try.prog 17 #[.pointer none] w (Fresh1 [] w) := by
  go_enter Try.func17, Try.ntmps17
  go_wp2_with fail
  refine (newC w).mono ?_
  rintro e w' ⟨rfl, hs, hb⟩
  go_wp2
  go_ret
  exact ⟨_, _, _, _, rfl, newAt hs hb (Nat.le_refl _)⟩
end Go.Proofs.Ytpjndgcliegloaa.W
