/-
  JournalPlays: any sequence of changes, Begin, Commit and Rollback returns the specified results and leaves the specified pairs in order.
-/
import Derived.Test.YtpjndgcliegloaaJPlay
namespace Go.Proofs.Ytpjndgcliegloaa.W.JournalPlays
open Go.ChangeShapes Go.WideShapes Go.ChangeAt Go.RowKit

/-- what holds between two rounds -/
def At (w : World) (j m : Nat) (lv : Value) (wr : World) : Prop := ∃ S Lv L, Jr wr S j Lv L m ∧ LV S wr lv (Lv ++ [L]) ∧ ∀ i, S i → w.heap.size ≤ i
set_option maxHeartbeats 8000000 in
set_option maxRecDepth 100000 in
theorem walk (w : World) (f : Value) (lf : List KV) (hF : Prs w f lf) (s : Value) (l : List Deed) (hD : Deeds w s l) : Calls Try.prog 3 #[f, s] w fun e w' => e = .returned (.bool true) ∧ Below w.heap.size w w' := by
  have hF' := hF
  obtain ⟨Af, cf, rfl, _⟩ := hF'
  obtain ⟨A, cap, rfl, hc⟩ := hD
  have HC := Lib.hid hc
  have HF := Lib.hid hF
  clear hc hF
  by_cases hbig : 40 < lf.length ∨ 80 < l.length
  · by_cases h1 : 40 < lf.length
    · have g1 : (40 : Int) < (lf.length : Int) := by omega
      clear h1 hbig
      go_enter Try.func3, Try.ntmps3
      go_wp2_with fail
      refine (awake10 w).mono ?_
      rintro e w' ⟨rfl, B⟩
      go_wp2
      go_ret
      exact ⟨rfl, B⟩
    · have g1 : ¬ (40 : Int) < (lf.length : Int) := by omega
      have g2 : (80 : Int) < (l.length : Int) := by omega
      clear h1 hbig
      go_enter Try.func3, Try.ntmps3
      go_wp2_with fail
      refine (awake10 w).mono ?_
      rintro e w' ⟨rfl, B⟩
      go_wp2
      go_ret
      exact ⟨rfl, B⟩
  · have g1 : ¬ (40 : Int) < (lf.length : Int) := by omega
    have g2 : ¬ (80 : Int) < (l.length : Int) := by omega
    have hlf : lf.length ≤ 40 := by omega
    have hl : l.length ≤ 80 := by omega
    clear hbig
    go_enter Try.func3, Try.ntmps3
    go_wp2_with fail
    refine (freshC _ lf w HF.out (by omega)).mono ?_
    rintro e w1 ⟨j, S1, x, rfl, J1, P1, O1, B1, T1⟩
    have P1' := P1
    obtain ⟨Ax, cx, rfl, _⟩ := P1'
    have HW := Lib.hid (And.intro J1 (And.intro P1 (And.intro O1 (And.intro B1 T1))))
    clear J1 P1 O1 B1 T1
    go_wp2
    have R0 : ∃ k : Nat, k ≤ l.length ∧ Value.int .i64 0 = .int .i64 k ∧ Hid (At w j (40 + 2 * k) (.slice (some ⟨w1.heap.size, 0, none⟩) 1 1) (w1.alloc (.cells #[.slice Ax (puts lf).length cx] 26))) ∧ Below w.heap.size w (w1.alloc (.cells #[.slice Ax (puts lf).length cx] 26)) := by
      obtain ⟨J1, P1, O1, B1, T1⟩ := HW.out
      have B2 : Below w1.heap.size w1 (w1.alloc (.cells #[.slice Ax (puts lf).length cx] 26)) := (Below.refl _ _).alloc (Nat.le_refl _) _
      refine ⟨0, Nat.zero_le _, rfl, Lib.hid ⟨S1, [], puts lf, (J1.below B2).mono (by omega), ⟨[.slice Ax (puts lf).length cx], ?_, ?_, ?_⟩, T1⟩, step_below B1 B2⟩
      · refine ⟨_, 1, rfl, Nat.le_refl _, fun i hi => ⟨_, 0, rfl, ?_⟩⟩
        obtain rfl : i = 0 := by simpa using hi
        exact (Blk.new w1 26 #[.slice Ax (puts lf).length cx]).cell 0
      · intro g hg
        cases hg
        exact ⟨by simp, fun h => Nat.lt_irrefl _ (J1.bound _ h)⟩
      · exact Rds.snoc (xs := []) (Ls := []) ⟨rfl, fun i hi => absurd hi (by simp)⟩ (P1.below B2) (O1.below B2)
    clear HW
    generalize w1.alloc (.cells #[.slice Ax (puts lf).length cx] 26) = W0 at *
    go_loopw [7, 8] (fun lv i wr => ∃ k : Nat, k ≤ l.length ∧ i = .int .i64 k ∧ Hid (At w j (40 + 2 * k) lv wr) ∧ Below w.heap.size w wr) (fun _ i _ => l.length - (intOf i).toNat)
    case atStart => exact R0
    case round =>
      clear R0
      obtain ⟨k, hk, rfl, HA, hbel⟩ := hrel
      by_cases hlt : k < l.length
      · obtain ⟨b0, off, rfl, d0, d1, d2⟩ := HC.out k hlt
        have c0 := (since_of hbel).cell d0
        have c1 := (since_of hbel).cell d1
        have c2 := (since_of hbel).cell d2
        have hi0 : (0 : Int) ≤ k := by omega
        have hi1 : (k : Int) < (l.length : Int) := by omega
        have hw : IntKind.i64.wrap ((k : Int) + 1) = (k : Int) + 1 := IntWalk.i64_in _ (by omega)
        obtain ⟨⟨kd, key, val⟩, hd⟩ : ∃ d : Deed, d = l[k] := ⟨_, rfl⟩
        rw [← hd] at c0 c1 c2 d0 d1 d2
        simp only at c0 c1 c2 d0 d1 d2
        have HD0 := Lib.hid (And.intro d0 (And.intro d1 d2))
        clear d0 d1 d2 hd
        obtain ⟨S, Lv, L, hJ, hL, hT⟩ := HA.out
        obtain ⟨hl1, hl2⟩ := hJ.len
        have HM := Lib.hid (movedC kd key val hL hJ.bound hJ.up (by omega) (by omega))
        obtain ⟨⟨Lv', L', ev⟩, hr⟩ : ∃ r, r = act Lv L kd key val := ⟨_, rfl⟩
        have hal := act_len Lv L kd key val
        rw [← hr] at HM hal
        simp only at hal
        have HJ := Lib.hid (And.intro hJ (And.intro hT hr.symm))
        clear HA hJ hL hT hr
        go_wp2_with fail
        refine HM.out.mono ?_
        rintro e w2 ⟨lv2, rfl, hL2, B2⟩
        obtain ⟨g, o2, cap2, ys, y, rfl, hG⟩ := given hL2
        clear HM hL2
        have HDo := Lib.hid (fun W (h : Since w2 W) => doP (w := w) kd key val (HJ.out.1.below (step_below B2 h.below)) (hG.below h.below) (step_below (step_below hbel B2) h.below) HJ.out.2.1 HJ.out.2.2 (by omega))
        have hGl := Lib.hid hG.last
        generalize hn : Lv'.length = n at *
        have hN := Lib.hid hn.symm
        have hnw : IntKind.i64.wrap (n : Int) = (n : Int) := IntWalk.i64_in _ (by omega)
        have e0 := (since_of B2).cell c0
        have e1 := (since_of B2).cell c1
        have e2 := (since_of B2).cell c2
        have e3 := hGl.out
        have gn0 : (0 : Int) ≤ (n : Int) := by omega
        have gn1 : (n : Int) < (n : Int) + 1 := by omega
        clear c0 c1 c2 hG hn
        have r2 := Since.refl w2
        go_wp2
        go_region_held3 (fun W => W.cell? ⟨b0, off + k * 3, none⟩ = some (.int .i64 kd) ∧ W.cell? ⟨b0, off + k * 3 + 1, none⟩ = some (.string key) ∧ W.cell? ⟨b0, off + k * 3 + 2, none⟩ = some (.string val) ∧ W.cell? ⟨g, o2 + n, none⟩ = some y)
          (first | go_keep | exact ⟨p0, p1, p2, p3⟩ | exact ⟨s4.cell p0, s4.cell p1, s4.cell p2, s4.cell p3⟩ | exact ⟨s5.cell p0, s5.cell p1, s5.cell p2, s5.cell p3⟩ | exact ⟨s6.cell p0, s6.cell p1, s6.cell p2, s6.cell p3⟩)
          (first
            | (go_at_call 9; refine (HDo.out _ (by exact r2)).mono ?_; clear HDo; rintro en w3 ⟨rfl, S3, hP⟩; have p0 := (since_of hP.bel).cell HD0.out.1; have p1 := (since_of hP.bel).cell HD0.out.2.1; have p2 := (since_of hP.bel).cell HD0.out.2.2; have p3 := hP.giv.last; replace hP := Lib.hid hP; have HDe := Lib.hid (depthP hP.out hN.out); have HLi := Lib.hid (listP hP.out (by omega)); have HSa := Lib.hid (sameP hP.out (by omega)); have r3 := Since.refl w3)
            | (go_at_call 10; refine (HDe.out _ (by exact r3)).mono ?_; clear HDe; rintro en w4 ⟨rfl, s4⟩)
            | (go_at_call 12; refine (HLi.out _ (by exact s4)).mono ?_; clear HLi; rintro en w5 ⟨u5, rfl, P5, s5⟩)
            | (go_at_call 11; refine (HSa.out _ (by exact s5) _ (by exact P5)).mono ?_; clear HSa; rintro en w6 ⟨rfl, s6⟩))
        have hP6 := Lib.hid (hP.out.below s6.below)
        have q1 := s6.cell p1
        have q3 := s6.cell p3
        have HG := Lib.hid (jGet key hP6.out.jr)
        have HR := Lib.hid (fun W (h : Since w6 W) => rGet y L' key W (hP6.out.giv.prs.below h.below) hP6.out.jr.up (by have := hP6.out.jr.len.1; omega))
        clear hP s4 s5 s6 p0 p1 p2 p3 P5 r2 r3 e0 e1 e2 e3 B2 hGl HJ
        have r6 := Since.refl w6
        unfold retGet at HG HR
        generalize (lget L' key).getD ⟨#[]⟩ = rv at *
        generalize (lget L' key).isSome = rb at *
        go_wp2_with fail
        refine HG.out.mono ?_
        rintro e w7 ⟨rfl, rfl⟩
        go_wp2
        go_region_held3 (fun W => W.cell? ⟨b0, off + k * 3 + 1, none⟩ = some (.string key) ∧ W.cell? ⟨g, o2 + n, none⟩ = some y)
          (first | go_keep | exact ⟨s8.cell q1, s8.cell q3⟩)
          (first | (go_at_call 14; refine ((HR.out _ (by exact r6)).mono (R' := fun e w' => e = .returned (.tuple #[.string rv, .bool rb]) ∧ Since w7 w') (fun _ _ ⟨he, hw⟩ => ⟨he, by rw [hw]; exact r6⟩)).mono ?_; clear HR; rintro en w8 ⟨rfl, s8⟩))
        all_goals
          have HF := Lib.hid (show At w j (40 + 2 * (k + 1)) (.slice (some ⟨g, o2, none⟩) (n + 1) cap2) w8 from by
            have hP8 := hP6.out.below s8.below
            exact ⟨S3, Lv', L', hP8.jr, hP8.giv.to, hP8.low⟩)
          have B8 := step_below hP6.out.bel s8.below
          clear hP6 s8 q1 q3 r6 HG
          go_wp2
          go_roundw
          case rel => exact ⟨k + 1, by omega, by simp, HF, B8⟩
          case measure => simp [intOf]; omega
      · obtain rfl : k = l.length := by omega
        have hi1 : ¬ (l.length : Int) < (l.length : Int) := by omega
        go_wp2_with fail
        refine (awake10 wr).mono ?_
        rintro e w2 ⟨rfl, B2⟩
        have B3 := step_below hbel B2
        go_wp2
        go_ret
        exact ⟨rfl, B3⟩
set_option maxRecDepth 100000 in
theorem lifted (os : Os) (started : os.Started) (H : Type) (enc : TypeId × Value → H) :
    ReturnsInHanded {} Try.checked os 3 .any (Rows.journalPlaysSpec.pre6 enc Try.prog Try.f3 Rows.journalPlaysRow.domain false) (Rows.journalPlaysSpec.post enc Try.prog Try.f3 false true false false) := by
  refine returnsInHanded_of_change (C := Try.checked) own started (by kernel_rfl) Try.func3
    (ChangeSpec.witness6 (enc := enc) (C := Try.checked) false ⟨#[], #[.slice none 0 0, .slice none 0 0], []⟩ 8 (by kernel_rfl) (by kernel_rfl) (by kernel_rfl) (by kernel_rfl)) ?_
  intro W base args ds gs before hval0 hW hcnd _
  have hval : ∀ (j : Nat) t v, Try.f3.params[j]? = some t → args[j]? = some v → Value.okWide Try.prog W .any base t v := hval0
  have hW' := hW
  obtain ⟨p, q, hA0, hV, rfl, hfz, hnd⟩ := hW
  have hA : DataW.TrodAll enc Try.prog W 0 (fun _ => true) true Try.f3.params.toList args.toList ds p := hA0
  rw [Try.params3] at hA hval
  have hK := hA
  obtain ⟨v0, vs0, d0, ds0, p0, q0, hargs, rfl, rfl, h0, r0⟩ := trodAll_cons hA
  obtain ⟨v1, vs1, d1, ds1, p1, q1, rfl, rfl, rfl, h1, r1⟩ := trodAll_cons r0
  obtain ⟨rfl, rfl, rfl⟩ := trodAll_nil r1
  obtain rfl : args = #[v0, v1] := by cases args; simp_all
  obtain ⟨rfl, rfl⟩ := trodVars_none hV
  obtain ⟨A0, len0, cap0, rfl⟩ := okWide_slice Try.underlying22 (hval 0 22 v0 rfl rfl)
  obtain ⟨a0, w0, l0⟩ := open_prs h0
  obtain ⟨A1, len1, cap1, rfl⟩ := okWide_slice Try.underlying23 (hval 1 23 v1 rfl rfl)
  obtain ⟨a1, w1, l1⟩ := open_deeds h1
  clear hA0 hval0
  refine (walk W _ a0 w0 _ a1 w1).mono fun e W' ⟨he, bel⟩ => ?_
  subst he
  exact ⟨_, rfl, _, _, _, [], _, [], hW', trodAll_mk1 (shut_bool Try.underlying4 _), trodAll_under laidOut bel _ _ _ _ (by kernel_rfl) hK, rfl, bel.frame _, fun h => by cases h⟩

theorem journalPlays_holds : Rows.JournalPlaysSaid :=
  OpenClaim.holds_of_wide 3 Try.f3 rfl rfl rfl rfl rfl rfl rfl ⟨rfl, rfl, rfl, rfl, rfl⟩ rfl rfl rfl rfl rfl (by kernel_rfl) Try.func3 (by kernel_rfl)
    (of_decide_eq_true (by kernel_rfl)) (by unfold Func.isWrapper; first | (rw [if_pos (by decide +kernel)]; kernel_rfl) | (rw [if_neg (by decide +kernel)]; exact ⟨rfl, rfl⟩))
    (fun os started H enc _ => lifted os started H enc)
#print axioms journalPlays_holds
end Go.Proofs.Ytpjndgcliegloaa.W.JournalPlays
