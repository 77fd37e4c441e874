/-
  PairsPlays: whatever is set, taken away, looked for and gone over, each answer and all pairs are those that the document asks.
-/
import Derived.Test.YtikkmcfhepfhlaaTDeeds
namespace Go.Proofs.Ytikkmcfhepfhlaa.W.PairsPlays
open Go.ChangeShapes Go.WideShapes Go.ChangeAt Go.RowKit

set_option maxHeartbeats 4000000 in
set_option maxRecDepth 100000 in
theorem walk (w : World) (s : Value) (l : List Deed) (hD : Deeds w s l) : Calls Try.prog 3 #[s] w fun e w' => e = .returned (.bool true) ∧ Below w.heap.size w w' := by
  obtain ⟨A, cap, rfl, hc⟩ := hD
  have HC := Lib.hid hc
  clear hc
  by_cases hbig : 80 < l.length
  · have hg : (80 : Int) < (l.length : Int) := by omega
    go_enter Try.func3, Try.ntmps3
    go_wp2_with fail
    refine (awake09 w).mono ?_
    rintro e w' ⟨rfl, B⟩
    go_wp2
    go_ret
    exact ⟨rfl, B⟩
  · have hg : ¬ (80 : Int) < (l.length : Int) := by omega
    go_enter Try.func3, Try.ntmps3
    go_wp2_with fail
    refine (newE w).mono ?_
    rintro e w1 ⟨b, rfl, hbl, S1, B1⟩
    have R0 : ∃ k : Nat, k ≤ l.length ∧ Value.int .i64 0 = .int .i64 k ∧ Hid (∃ L, IsStore w1 b L ∧ Prs w1 (.slice none 0 0) L ∧ L.length ≤ k) ∧ Below w.heap.size w w1 := ⟨0, Nat.zero_le _, rfl, Lib.hid ⟨[], S1, Prs.nil _ _ _, Nat.le_refl _⟩, B1⟩
    clear S1 B1
    go_wp2
    go_loopw [4, 5] (fun x i wr => ∃ k : Nat, k ≤ l.length ∧ i = .int .i64 k ∧ Hid (∃ L, IsStore wr b L ∧ Prs wr x L ∧ L.length ≤ k) ∧ Below w.heap.size w wr) (fun _ i _ => l.length - (intOf i).toNat)
    case atStart => exact R0
    case round =>
      clear R0
      obtain ⟨k, hk, rfl, HL, hbel⟩ := hrel
      by_cases hlt : k < l.length
      · obtain ⟨b0, off, rfl, d0, d1, d2, d3⟩ := HC.out k hlt
        have c0 := (since_of hbel).cell d0
        have c1 := (since_of hbel).cell d1
        have c2 := (since_of hbel).cell d2
        have c3 := (since_of hbel).cell d3
        have hi0 : (0 : Int) ≤ k := by omega
        have hi1 : (k : Int) < (l.length : Int) := by omega
        have hw : IntKind.i64.wrap ((k : Int) + 1) = (k : Int) + 1 := IntWalk.i64_in _ (by omega)
        obtain ⟨⟨kd, n, key, val⟩, hd⟩ : ∃ d : Deed, d = l[k] := ⟨_, rfl⟩
        rw [← hd] at c0 c1 c2 c3
        simp only at c0 c1 c2 c3
        clear d0 d1 d2 d3 hd
        obtain ⟨L, hS, hX, hLk⟩ := HL.out
        have HDo := Lib.hid (doC b u4 L n key val wr kd hS hX (by omega))
        have hLz := deed_len L kd key val
        generalize deed L kd key val = L' at *
        clear HL hS hX
        go_wp2_with fail
        refine HDo.out.mono ?_
        rintro e w2 ⟨x, rfl, hS2, hX2, g2⟩
        have B2 := only_new hbel g2 hbl
        clear HDo hbel g2 c0 c1 c2 c3
        have hX2' := hX2
        obtain ⟨A2, cap2, rfl, hcap2, _⟩ := hX2'
        have HLen := Lib.hid (lenC b L' w2 hS2)
        have HList := Lib.hid (sList b L' w2 hS2 (by omega))
        have HX2 := Lib.hid (And.intro hS2 hX2)
        have hne : ((L'.length : Int) == (L'.length : Int)) = true := by simp
        clear hS2 hX2
        go_wp2_with fail
        refine HLen.out.mono ?_
        rintro e w' ⟨rfl, rfl⟩
        go_wp2_with fail
        refine HList.out.mono ?_
        rintro e w3 ⟨v3, rfl, o3, B3⟩
        have P3 := Prs.of_own o3
        have HSame := Lib.hid (sameYes v3 (.slice A2 L'.length cap2) L' w3 P3 (HX2.out.2.below B3) (by omega))
        have B4 := step_below B2 B3
        have HS3 := Lib.hid (HX2.out.1.below B3)
        have HX3 := Lib.hid (HX2.out.2.below B3)
        clear HLen HList HX2 o3 P3 B2 B3
        go_wp2_with fail
        refine HSame.out.mono ?_
        rintro e w4 ⟨rfl, B5⟩
        have B6 := step_below B4 B5
        have HR := Lib.hid (show ∃ L, IsStore w4 b L ∧ Prs w4 (.slice A2 L'.length cap2) L ∧ L.length ≤ k + 1 from ⟨L', HS3.out.below B5, HX3.out.below B5, by omega⟩)
        clear HSame HS3 HX3 B4 B5
        go_wp2
        go_roundw
        case rel => exact ⟨k + 1, by omega, by simp, HR, B6⟩
        case measure => simp [intOf]; omega
      · obtain rfl : k = l.length := by omega
        have hi1 : ¬ (l.length : Int) < (l.length : Int) := by omega
        go_wp2_with fail
        refine (awake09 wr).mono ?_
        rintro e w2 ⟨rfl, B2⟩
        have B3 := step_below hbel B2
        go_wp2
        go_ret
        exact ⟨rfl, B3⟩
set_option maxRecDepth 100000 in
theorem lifted (os : Os) (started : os.Started) (H : Type) (enc : TypeId × Value → H) :
    ReturnsInHanded {} Try.checked os 3 .any (Rows.pairsPlaysSpec.pre6 enc Try.prog Try.f3 Rows.pairsPlaysRow.domain false) (Rows.pairsPlaysSpec.post enc Try.prog Try.f3 false true false false) := by
  refine returnsInHanded_of_change (C := Try.checked) own started (by kernel_rfl) Try.func3
    (ChangeSpec.witness6 (enc := enc) (C := Try.checked) false ⟨#[], #[.slice none 0 0], []⟩ 8 (by kernel_rfl) (by kernel_rfl) (by kernel_rfl) (by kernel_rfl)) ?_
  intro W base args ds gs before hval0 hW hcnd _
  have hval : ∀ (j : Nat) t v, Try.f3.params[j]? = some t → args[j]? = some v → Value.okWide Try.prog W .any base t v := hval0
  have hW' := hW
  obtain ⟨p, q, hA0, hV, rfl, hfz, hnd⟩ := hW
  have hA : DataW.TrodAll enc Try.prog W 0 (fun _ => true) true Try.f3.params.toList args.toList ds p := hA0
  rw [Try.params3] at hA hval
  have hK := hA
  obtain ⟨v0, vs0, d0, ds0, p0, q0, hargs, rfl, rfl, h0, r0⟩ := trodAll_cons hA
  obtain ⟨rfl, rfl, rfl⟩ := trodAll_nil r0
  obtain rfl : args = #[v0] := by cases args; simp_all
  obtain ⟨rfl, rfl⟩ := trodVars_none hV
  obtain ⟨A0, len0, cap0, rfl⟩ := okWide_slice Try.underlying22 (hval 0 22 v0 rfl rfl)
  obtain ⟨a0, w0, l0⟩ := open_deeds h0
  clear hA0 hval0
  refine (walk W _ a0 w0).mono fun e W' ⟨he, bel⟩ => ?_
  subst he
  exact ⟨_, rfl, _, _, _, [], _, [], hW', trodAll_mk1 (shut_bool Try.underlying4 _), trodAll_under laidOut bel _ _ _ _ (by kernel_rfl) hK, rfl, bel.frame _, fun h => by cases h⟩

theorem pairsPlays_holds : Rows.PairsPlaysSaid :=
  OpenClaim.holds_of_wide 3 Try.f3 rfl rfl rfl rfl rfl rfl rfl ⟨rfl, rfl, rfl, rfl, rfl⟩ rfl rfl rfl rfl rfl (by kernel_rfl) Try.func3 (by kernel_rfl)
    (of_decide_eq_true (by kernel_rfl)) (by unfold Func.isWrapper; first | (rw [if_pos (by decide +kernel)]; kernel_rfl) | (rw [if_neg (by decide +kernel)]; exact ⟨rfl, rfl⟩))
    (fun os started H enc _ => lifted os started H enc)
#print axioms pairsPlays_holds
end Go.Proofs.Ytikkmcfhepfhlaa.W.PairsPlays
