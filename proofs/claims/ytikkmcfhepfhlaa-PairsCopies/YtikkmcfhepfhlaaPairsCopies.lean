/-
  PairsCopies: a copy stays as it was, whatever is done to the other one.
-/
import Derived.Test.YtikkmcfhepfhlaaTDeeds
namespace Go.Proofs.Ytikkmcfhepfhlaa.W.PairsCopies
open Go.ChangeShapes Go.WideShapes Go.ChangeAt Go.RowKit

set_option maxHeartbeats 4000000 in
set_option maxRecDepth 100000 in
theorem walk (w : World) (s : Value) (l : List Deed) (hD : Deeds w s l) (s' : Value) (m : List Deed) (hE : Deeds w s' m) : Calls Try.prog 4 #[s, s'] w fun e w' => e = .returned (.bool true) ∧ Below w.heap.size w w' := by
  obtain ⟨A, cap, rfl, hc⟩ := hD
  obtain ⟨A', cap', rfl, hc'⟩ := hE
  have HC := Lib.hid hc
  have HC' := Lib.hid hc'
  clear hc hc'
  by_cases hbig : 60 < l.length
  · have hg : (60 : Int) < (l.length : Int) := by omega
    go_enter Try.func4, Try.ntmps4
    go_wp2_with fail
    refine (awake09 w).mono ?_
    rintro e w' ⟨rfl, B⟩
    go_wp2
    go_ret
    exact ⟨rfl, B⟩
  by_cases hbig' : 60 < m.length
  · have hg : ¬ (60 : Int) < (l.length : Int) := by omega
    have hg' : (60 : Int) < (m.length : Int) := by omega
    go_enter Try.func4, Try.ntmps4
    go_wp2_with fail
    refine (awake09 w).mono ?_
    rintro e w' ⟨rfl, B⟩
    go_wp2
    go_ret
    exact ⟨rfl, B⟩
  have hg : ¬ (60 : Int) < (l.length : Int) := by omega
  have hg' : ¬ (60 : Int) < (m.length : Int) := by omega
  go_enter Try.func4, Try.ntmps4
  go_wp2_with fail
  refine (newE w).mono ?_
  rintro e w1 ⟨b, rfl, hbl, S1, B1⟩
  have R0 : ∃ k : Nat, k ≤ l.length ∧ Value.int .i64 0 = .int .i64 k ∧ Hid (∃ L, IsStore w1 b L ∧ Prs w1 (.slice none 0 0) L ∧ L.length ≤ k) ∧ Below w.heap.size w w1 := ⟨0, Nat.zero_le _, rfl, Lib.hid ⟨[], S1, Prs.nil _ _ _, Nat.le_refl _⟩, B1⟩
  clear S1 B1
  go_wp2
  go_loopw [6, 7] (fun x i wr => ∃ k : Nat, k ≤ l.length ∧ i = .int .i64 k ∧ Hid (∃ L, IsStore wr b L ∧ Prs wr x L ∧ L.length ≤ k) ∧ Below w.heap.size w wr) (fun _ i _ => l.length - (intOf i).toNat)
  case atStart => exact R0
  case round =>
    clear R0
    obtain ⟨k, hk, rfl, HL, hbel⟩ := hrel
    by_cases hlt : k < l.length
    · obtain ⟨b0, off, rfl, d0, d1, d2, d3⟩ := HC.out k hlt
      have c0 := (since_of hbel).cell d0
      have c1 := (since_of hbel).cell d1
      have c2 := (since_of hbel).cell d2
      have c3 := (since_of hbel).cell d3
      have hi0 : (0 : Int) ≤ k := by omega
      have hi1 : (k : Int) < (l.length : Int) := by omega
      have hw : IntKind.i64.wrap ((k : Int) + 1) = (k : Int) + 1 := IntWalk.i64_in _ (by omega)
      obtain ⟨⟨kd, n, key, val⟩, hd⟩ : ∃ d : Deed, d = l[k] := ⟨_, rfl⟩
      rw [← hd] at c0 c1 c2 c3
      simp only at c0 c1 c2 c3
      clear d0 d1 d2 d3 hd
      obtain ⟨L, hS, hX, hLk⟩ := HL.out
      have HDo := Lib.hid (doC b u6 L n key val wr kd hS hX (by omega))
      have hLz := deed_len L kd key val
      generalize deed L kd key val = L' at *
      clear HL hS hX
      go_wp2_with fail
      refine HDo.out.mono ?_
      rintro e w2 ⟨x, rfl, hS2, hX2, g2⟩
      have B2 := only_new hbel g2 hbl
      have HR := Lib.hid (show ∃ L, IsStore w2 b L ∧ Prs w2 x L ∧ L.length ≤ k + 1 from ⟨L', hS2, hX2, by omega⟩)
      clear HDo hbel g2 c0 c1 c2 c3 hS2 hX2
      go_wp2
      go_roundw
      case rel => exact ⟨k + 1, by omega, by simp, HR, B2⟩
      case measure => simp [intOf]; omega
    · obtain rfl : k = l.length := by omega
      have hi1 : ¬ (l.length : Int) < (l.length : Int) := by omega
      obtain ⟨L, hS, hX, hLk⟩ := HL.out
      have hLz : L.length ≤ 60 := by omega
      have HCp := Lib.hid (copyE b L wr hS)
      have HS0 := Lib.hid (And.intro hS hX)
      have hX' := hX
      obtain ⟨A0, cap0, rfl, hcap0, _⟩ := hX'
      clear HL hS hX hLk HC
      go_wp2_with fail
      refine HCp.out.mono ?_
      rintro e w2 ⟨t, rfl, htl, T2, B2⟩
      have hbt : t ≠ b := by have := HS0.out.1.lt; omega
      have B3 := step_below hbel B2
      have htw : w.heap.size ≤ t := by have := hbel.size; omega
      have R0 : ∃ k : Nat, k ≤ m.length ∧ Value.int .i64 0 = .int .i64 k ∧ Hid ((∃ M, IsStore w2 b M ∧ Prs w2 (.slice A0 L.length cap0) M ∧ M.length ≤ 60 + k) ∧ IsStore w2 t L ∧ Prs w2 (.slice A0 L.length cap0) L) ∧ Below w.heap.size w w2 :=
        ⟨0, Nat.zero_le _, rfl, Lib.hid ⟨⟨L, HS0.out.1.below B2, HS0.out.2.below B2, by omega⟩, T2, HS0.out.2.below B2⟩, B3⟩
      clear HCp HS0 T2 B2 B3 hbel htl
      go_wp2
      go_loopw [11, 12] (fun y i wr => ∃ k : Nat, k ≤ m.length ∧ i = .int .i64 k ∧ Hid ((∃ M, IsStore wr b M ∧ Prs wr y M ∧ M.length ≤ 60 + k) ∧ IsStore wr t L ∧ Prs wr (.slice A0 L.length cap0) L) ∧ Below w.heap.size w wr) (fun _ i _ => m.length - (intOf i).toNat)
      case atStart => exact R0
      case round =>
        clear R0
        obtain ⟨k, hk, rfl, HL, hbel⟩ := hrel
        by_cases hlt : k < m.length
        · obtain ⟨b0, off, rfl, d0, d1, d2, d3⟩ := HC'.out k hlt
          have c0 := (since_of hbel).cell d0
          have c1 := (since_of hbel).cell d1
          have c2 := (since_of hbel).cell d2
          have c3 := (since_of hbel).cell d3
          have hj0 : (0 : Int) ≤ k := by omega
          have hj1 : (k : Int) < (m.length : Int) := by omega
          have hw : IntKind.i64.wrap ((k : Int) + 1) = (k : Int) + 1 := IntWalk.i64_in _ (by omega)
          obtain ⟨⟨kd, n, key, val⟩, hd⟩ : ∃ d : Deed, d = m[k] := ⟨_, rfl⟩
          rw [← hd] at c0 c1 c2 c3
          simp only at c0 c1 c2 c3
          clear d0 d1 d2 d3 hd
          obtain ⟨⟨M, hS, hX, hMk⟩, hT, hY⟩ := HL.out
          have HDo := Lib.hid (doC b u11 M n key val wr kd hS hX (by omega))
          have HT := Lib.hid (And.intro hS (And.intro hT hY))
          have hMz := deed_len M kd key val
          generalize deed M kd key val = M' at *
          clear HL hS hX hT hY
          go_wp2_with fail
          refine HDo.out.mono ?_
          rintro e w2 ⟨x, rfl, hS2, hX2, g2⟩
          have B2 := only_new hbel g2 hbl
          have HR := Lib.hid (show (∃ M, IsStore w2 b M ∧ Prs w2 x M ∧ M.length ≤ 60 + (k + 1)) ∧ IsStore w2 t L ∧ Prs w2 (.slice A0 L.length cap0) L from ⟨⟨M', hS2, hX2, by omega⟩, HT.out.2.1.other HT.out.1.a g2 hbt, HT.out.2.2.store HT.out.1 g2⟩)
          clear HDo HT hbel g2 c0 c1 c2 c3 hS2 hX2
          go_wp2
          go_roundw
          case rel => exact ⟨k + 1, by omega, by simp, HR, B2⟩
          case measure => simp [intOf]; omega
        · obtain rfl : k = m.length := by omega
          have hj1 : ¬ (m.length : Int) < (m.length : Int) := by omega
          obtain ⟨⟨M, hS, hX, hMk⟩, hT, hY⟩ := HL.out
          have hX' := hX
          obtain ⟨A1, cap1, rfl, hcap1, _⟩ := hX'
          have H1 := Lib.hid (sList t L wr hT (by omega))
          have HA := Lib.hid (And.intro hS (And.intro hX hY))
          clear HL hS hX hT hY HC'
          go_wp2_with fail
          refine H1.out.mono ?_
          rintro e w2 ⟨v2, rfl, o2, B2⟩
          have H2 := Lib.hid (sameYes v2 _ L w2 (Prs.of_own o2) (HA.out.2.2.below B2) (by omega))
          have HB := Lib.hid (And.intro (HA.out.1.below B2) (HA.out.2.1.below B2))
          have B3 := step_below hbel B2
          clear H1 HA o2 B2 hbel
          go_wp2_with fail
          refine H2.out.mono ?_
          rintro e w3 ⟨rfl, B4⟩
          have H3 := Lib.hid (sList b M w3 (HB.out.1.below B4) (by omega))
          have HD := Lib.hid (HB.out.2.below B4)
          have B5 := step_below B3 B4
          clear H2 HB B3 B4
          go_wp2_with fail
          refine H3.out.mono ?_
          rintro e w4 ⟨v4, rfl, o4, B6⟩
          have H4 := Lib.hid (sameYes v4 _ M w4 (Prs.of_own o4) (HD.out.below B6) (by omega))
          have B7 := step_below B5 B6
          clear H3 HD o4 B5 B6
          go_wp2_with fail
          refine H4.out.mono ?_
          rintro e w5 ⟨rfl, B8⟩
          have B9 := step_below B7 B8
          clear H4 B7 B8
          go_wp2_with fail
          refine (awake09 w5).mono ?_
          rintro e w6 ⟨rfl, B10⟩
          have B11 := step_below B9 B10
          go_wp2
          go_ret
          exact ⟨rfl, B11⟩
set_option maxRecDepth 100000 in
theorem lifted (os : Os) (started : os.Started) (H : Type) (enc : TypeId × Value → H) :
    ReturnsInHanded {} Try.checked os 4 .any (Rows.pairsCopiesSpec.pre6 enc Try.prog Try.f4 Rows.pairsCopiesRow.domain false) (Rows.pairsCopiesSpec.post enc Try.prog Try.f4 false true false false) := by
  refine returnsInHanded_of_change (C := Try.checked) own started (by kernel_rfl) Try.func4
    (ChangeSpec.witness6 (enc := enc) (C := Try.checked) false ⟨#[], #[.slice none 0 0, .slice none 0 0], []⟩ 8 (by kernel_rfl) (by kernel_rfl) (by kernel_rfl) (by kernel_rfl)) ?_
  intro W base args ds gs before hval0 hW hcnd _
  have hval : ∀ (j : Nat) t v, Try.f4.params[j]? = some t → args[j]? = some v → Value.okWide Try.prog W .any base t v := hval0
  have hW' := hW
  obtain ⟨p, q, hA0, hV, rfl, hfz, hnd⟩ := hW
  have hA : DataW.TrodAll enc Try.prog W 0 (fun _ => true) true Try.f4.params.toList args.toList ds p := hA0
  rw [Try.params4] at hA hval
  have hK := hA
  obtain ⟨v0, vs0, d0, ds0, p0, q0, hargs, rfl, rfl, h0, r0⟩ := trodAll_cons hA
  obtain ⟨v1, vs1, d1, ds1, p1, q1, rfl, rfl, rfl, h1, r1⟩ := trodAll_cons r0
  obtain ⟨rfl, rfl, rfl⟩ := trodAll_nil r1
  obtain rfl : args = #[v0, v1] := by cases args; simp_all
  obtain ⟨rfl, rfl⟩ := trodVars_none hV
  obtain ⟨A0, len0, cap0, rfl⟩ := okWide_slice Try.underlying22 (hval 0 22 v0 rfl rfl)
  obtain ⟨a0, w0, l0⟩ := open_deeds h0
  obtain ⟨A1, len1, cap1, rfl⟩ := okWide_slice Try.underlying22 (hval 1 22 v1 rfl rfl)
  obtain ⟨a1, w1, l1⟩ := open_deeds h1
  clear hA0 hval0
  refine (walk W _ a0 w0 _ a1 w1).mono fun e W' ⟨he, bel⟩ => ?_
  subst he
  exact ⟨_, rfl, _, _, _, [], _, [], hW', trodAll_mk1 (shut_bool Try.underlying4 _), trodAll_under laidOut bel _ _ _ _ (by kernel_rfl) hK, rfl, bel.frame _, fun h => by cases h⟩

theorem pairsCopies_holds : Rows.PairsCopiesSaid :=
  OpenClaim.holds_of_wide 4 Try.f4 rfl rfl rfl rfl rfl rfl rfl ⟨rfl, rfl, rfl, rfl, rfl⟩ rfl rfl rfl rfl rfl (by kernel_rfl) Try.func4 (by kernel_rfl)
    (of_decide_eq_true (by kernel_rfl)) (by unfold Func.isWrapper; first | (rw [if_pos (by decide +kernel)]; kernel_rfl) | (rw [if_neg (by decide +kernel)]; exact ⟨rfl, rfl⟩))
    (fun os started H enc _ => lifted os started H enc)
#print axioms pairsCopies_holds
end Go.Proofs.Ytikkmcfhepfhlaa.W.PairsCopies
