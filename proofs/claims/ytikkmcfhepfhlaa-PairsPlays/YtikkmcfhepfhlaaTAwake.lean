/-
  The law's example calls (chapter 9).
-/
import Derived.Test.YtikkmcfhepfhlaaTDo
namespace Go.Proofs.Ytikkmcfhepfhlaa.W
open Go.RowKit

theorem only_new {w a b : World} {g : Nat} (h : Below w.heap.size w a) (k : a.grownBy b (some g)) (hg : w.heap.size ≤ g) : Below w.heap.size w b := step_only h k hg
abbrev xa : ByteArray := ⟨#[97]⟩
abbrev xb : ByteArray := ⟨#[98]⟩
abbrev xc : ByteArray := ⟨#[99]⟩
abbrev x1 : ByteArray := ⟨#[49]⟩
abbrev x2 : ByteArray := ⟨#[50]⟩
abbrev x3 : ByteArray := ⟨#[51]⟩
theorem prs_built2 (W : World) (x y : KV) : Prs (W.alloc (.cells #[.string x.1, .string x.2, .string y.1, .string y.2] 44)) (.slice (some ⟨W.heap.size, 0, none⟩) 2 2) [x, y] := by
  refine ⟨_, 2, rfl, Nat.le_refl _, fun i hi => ?_⟩
  have hb := Blk.new W 44 #[.string x.1, .string x.2, .string y.1, .string y.2]
  match i, hi with
  | 0, _ => exact ⟨_, 0, rfl, hb.cell 0, hb.cell 1⟩
  | 1, _ => exact ⟨_, 0, rfl, hb.cell 2, hb.cell 3⟩
  | n + 2, h => simp at h; omega
theorem newE (w : World) : Calls Try.prog 7 #[] w fun e w' => ∃ b, e = .returned (.pointer (some ⟨b, 0, none⟩)) ∧ w.heap.size ≤ b ∧ IsStore w' b [] ∧ Below w.heap.size w w' := (newC w).mono fun _ _ ⟨he, h1, h2⟩ => ⟨_, he, Nat.le_refl _, h1, h2⟩
theorem copyE (b : Nat) (L : List KV) (w : World) (h : IsStore w b L) : Calls Try.prog 12 #[.pointer (some ⟨b, 0, none⟩)] w fun e w' => ∃ t, e = .returned (.pointer (some ⟨t, 0, none⟩)) ∧ w.heap.size ≤ t ∧ IsStore w' t L ∧ Below w.heap.size w w' := (copyC b L w h).mono fun _ _ ⟨he, h1, h2⟩ => ⟨_, he, Nat.le_refl _, h1, h2⟩
section
variable (b : Nat) (W : World)
theorem aw1 (h : IsStore W b []) : Calls Try.prog 14 #[.pointer (some ⟨b, 0, none⟩), .string xb, .string x1] W fun e w' => e = .returned (.bool true) ∧ IsStore w' b [(xb, x1)] ∧ W.grownBy w' (some b) := sSet b xb x1 [] W h (by decide)
theorem aw2 (h : IsStore W b [(xb, x1)]) : Calls Try.prog 14 #[.pointer (some ⟨b, 0, none⟩), .string xa, .string x2] W fun e w' => e = .returned (.bool true) ∧ IsStore w' b [(xa, x2), (xb, x1)] ∧ W.grownBy w' (some b) := sSet b xa x2 _ W h (by decide)
theorem aw3 (h : IsStore W b [(xa, x2), (xb, x1)]) : Calls Try.prog 14 #[.pointer (some ⟨b, 0, none⟩), .string xb, .string x3] W fun e w' => e = .returned (.bool false) ∧ IsStore w' b [(xa, x2), (xb, x3)] ∧ W.grownBy w' (some b) := sSet b xb x3 _ W h (by decide)
theorem aw4 (h : IsStore W b [(xa, x2), (xb, x3)]) : Calls Try.prog 13 #[.pointer (some ⟨b, 0, none⟩), .string xb] W fun e w' => e = .returned (.tuple #[.string x3, .bool true]) ∧ w' = W := sGet b xb _ W h
theorem aw5 (h : IsStore W b [(xa, x2), (xb, x3)]) : Calls Try.prog 13 #[.pointer (some ⟨b, 0, none⟩), .string xc] W fun e w' => e = .returned (.tuple #[.string ⟨#[]⟩, .bool false]) ∧ w' = W := sGet b xc _ W h
theorem aw6 (h : IsStore W b [(xa, x2), (xb, x3)]) : Calls Try.prog 15 #[.pointer (some ⟨b, 0, none⟩), .string xa] W fun e w' => e = .returned (.bool true) ∧ IsStore w' b [(xb, x3)] ∧ W.grownBy w' (some b) := sDel b xa _ W h (by decide)
theorem aw7 (h : IsStore W b [(xb, x3)]) : Calls Try.prog 15 #[.pointer (some ⟨b, 0, none⟩), .string xa] W fun e w' => e = .returned (.bool false) ∧ IsStore w' b [(xb, x3)] ∧ W.grownBy w' (some b) := sDel b xa _ W h (by decide)
theorem aw8 (h : IsStore W b [(xa, x2), (xb, x3)]) : Calls Try.prog 16 #[.pointer (some ⟨b, 0, none⟩), .string ⟨#[]⟩, .int .i64 1] W fun e w' => ∃ v, e = .returned v ∧ Prs w' v [(xa, x2)] ∧ Below W.heap.size W w' :=
  (someAt _ ⟨#[]⟩ [(xa, x2), (xb, x3)] W 1 (by decide) (by decide) (fun U hU => sAll b ⟨#[]⟩ _ U (h.below hU.below))).mono fun _ _ ⟨v, he, ho, hb⟩ => ⟨v, he, Prs.of_own (l := [(xa, x2)]) ho, hb⟩
theorem aw9 (h : IsStore W b [(xa, x2), (xb, x3)]) : Calls Try.prog 16 #[.pointer (some ⟨b, 0, none⟩), .string xc, .int .i64 9] W fun e w' => ∃ A c, e = .returned (.slice A 0 c) ∧ Below W.heap.size W w' :=
  (someAt _ xc [] W 9 (by decide) (by decide) (fun U hU => sAll b xc _ U (h.below hU.below))).mono fun _ _ ⟨v, he, ho, hb⟩ => by
    obtain ⟨A, c, rfl, _⟩ := Prs.of_own (l := []) ho
    exact ⟨A, c, he, hb⟩
end
set_option maxHeartbeats 4000000 in
set_option maxRecDepth 100000 in
theorem awake09 (w : World) : Calls Try.prog 6 #[] w fun e w' => e = .returned (.bool true) ∧ Below w.heap.size w w' := by
  go_enter Try.func6, Try.ntmps6
  go_wp2_with fail
  refine (newE w).mono ?_
  rintro e w1 ⟨b, rfl, hbl, S1, B1⟩
  go_wp2_with fail
  refine (aw1 b w1 S1).mono ?_
  rintro e w2 ⟨rfl, S2, G2⟩
  have B2 := only_new B1 G2 hbl
  clear S1 G2 B1
  go_wp2_with fail
  refine (aw2 b w2 S2).mono ?_
  rintro e w3 ⟨rfl, S3, G3⟩
  have B3 := only_new B2 G3 hbl
  clear S2 G3 B2
  go_wp2_with fail
  refine (aw3 b w3 S3).mono ?_
  rintro e w4 ⟨rfl, S4, G4⟩
  have B4 := only_new B3 G4 hbl
  clear S3 G4 B3
  go_wp2_with fail
  refine (aw4 b w4 S4).mono ?_
  rintro e w' ⟨rfl, rfl⟩
  go_wp2_with fail
  refine (aw5 b w' S4).mono ?_
  rintro e w4 ⟨rfl, rfl⟩
  go_wp2_with fail
  refine (copyE b _ w4 S4).mono ?_
  rintro e w5 ⟨t, rfl, htl, T5, B5⟩
  have S5 := S4.below B5
  have hne : t ≠ b := by have := S4.lt; omega
  have B6 := step_below B4 B5
  clear S4 B4 B5
  go_wp2_with fail
  refine (aw6 b w5 S5).mono ?_
  rintro e w6 ⟨rfl, S6, G6⟩
  have T6 := T5.other S5.a G6 hne
  have B7 := only_new B6 G6 hbl
  clear S5 G6 T5 B6
  go_wp2_with fail
  refine (aw7 b w6 S6).mono ?_
  rintro e w7 ⟨rfl, S7, G7⟩
  have T7 := T6.other S6.a G7 hne
  have B8 := only_new B7 G7 hbl
  clear S6 G7 T6 B7
  go_wp2_with fail
  refine (lenC b _ w7 S7).mono ?_
  rintro e w8 ⟨rfl, rfl⟩
  clear S7
  simp only [List.length_cons, List.length_nil]
  go_wp2_with fail
  refine (lenC t _ w8 T7).mono ?_
  rintro e w9 ⟨rfl, rfl⟩
  simp only [List.length_cons, List.length_nil]
  go_wp2_with fail
  refine (sList t _ w9 T7 (by decide)).mono ?_
  rintro e wA ⟨vA, rfl, oA, BA⟩
  have TA := T7.below BA
  have B9 := step_below B8 BA
  have PA := Prs.of_own oA
  clear T7 B8 oA BA
  go_wp2_with fail
  have PL := prs_built2 wA (xa, x2) (xb, x3)
  have BB : Below wA.heap.size wA (wA.alloc (.cells #[.string xa, .string x2, .string xb, .string x3] 44)) := (Below.refl _ _).alloc (Nat.le_refl _) _
  simp only at PL
  have TB := TA.below BB
  have PB := PA.below BB
  have BC := step_below B9 BB
  clear TA PA B9 BB
  generalize wA.alloc (.cells #[.string xa, .string x2, .string xb, .string x3] 44) = wB at *
  refine (rSame _ _ _ _ wB PB PL (by decide)).mono ?_
  rintro e wC ⟨rfl, B1⟩
  rw [decide_eq_true rfl]
  have TC := TB.below B1
  have BD := step_below BC B1
  clear TB PB PL BC B1
  go_wp2_with fail
  refine (aw8 t wC TC).mono ?_
  rintro e wD ⟨vD, rfl, PD, B1⟩
  have TD := TC.below B1
  have BE := step_below BD B1
  clear TC BD B1
  go_wp2_with fail
  have PL := prs_built wD (xa, x2)
  have BB : Below wD.heap.size wD (wD.alloc (.cells #[.string xa, .string x2] 44)) := (Below.refl _ _).alloc (Nat.le_refl _) _
  simp only at PL
  have TE := TD.below BB
  have PE := PD.below BB
  have BF := step_below BE BB
  clear TD PD BE BB
  generalize wD.alloc (.cells #[.string xa, .string x2] 44) = wE at *
  refine (rSame _ _ _ _ wE PE PL (by decide)).mono ?_
  rintro e wF ⟨rfl, B1⟩
  rw [decide_eq_true rfl]
  have TF := TE.below B1
  have BG := step_below BF B1
  clear TE PE PL BF B1
  go_wp2_with fail
  refine (aw9 t wF TF).mono ?_
  rintro e wG ⟨A, c, rfl, B1⟩
  have BH := step_below BG B1
  go_wp2
  go_ret
  exact ⟨rfl, BH⟩
end Go.Proofs.Ytikkmcfhepfhlaa.W
