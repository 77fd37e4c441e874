/-
  JournalCopies: a copy, including its levels, does not change when the original changes, and the other way round.
-/
import Derived.Test.YtpjndgcliegloaaJCops
namespace Go.Proofs.Ytpjndgcliegloaa.W.JournalCopies
open Go.ChangeShapes Go.WideShapes Go.ChangeAt Go.RowKit

/-- what holds between two rounds -/
def At (w : World) (j m : Nat) (lv : Value) (wr : World) : Prop := ∃ S Lv L, Jr wr S j Lv L m ∧ LV S wr lv (Lv ++ [L]) ∧ ∀ i, S i → w.heap.size ≤ i
theorem at_take (Ls : List (List KV)) (p : Nat) (h : p + 1 < Ls.length) : Ls.take (p + 1) = Ls.take p ++ [Ls[p]'(by omega)] := List.take_succ_eq_append_getElem (by omega)
set_option maxHeartbeats 16000000 in
set_option maxRecDepth 100000 in
theorem walk (w : World) (f : Value) (lf : List KV) (hF : Prs w f lf) (s : Value) (l : List Deed) (hD : Deeds w s l) (s2 : Value) (l2 : List Deed) (hD2 : Deeds w s2 l2) : Calls Try.prog 4 #[f, s, s2] w fun e w' => e = .returned (.bool true) ∧ Below w.heap.size w w' := by
  have hF' := hF
  obtain ⟨Af, cf, rfl, _⟩ := hF'
  obtain ⟨A, cap, rfl, hc⟩ := hD
  obtain ⟨A2, cap2, rfl, hc2⟩ := hD2
  have HC := Lib.hid hc
  have HC2 := Lib.hid hc2
  have HF := Lib.hid hF
  clear hc hF hc2
  by_cases hbig : 20 < lf.length ∨ 40 < l.length ∨ 40 < l2.length
  · by_cases h1 : 20 < lf.length
    · have g1 : (20 : Int) < (lf.length : Int) := by omega
      clear h1
      clear hbig
      go_enter Try.func4, Try.ntmps4
      go_wp2_with fail
      refine (awake10 w).mono ?_
      rintro e w' ⟨rfl, B⟩
      go_wp2
      go_ret
      exact ⟨rfl, B⟩
    · by_cases h2 : 40 < l.length
      · have g1 : ¬ (20 : Int) < (lf.length : Int) := by omega
        have g2 : (40 : Int) < (l.length : Int) := by omega
        clear h1 h2
        clear hbig
        go_enter Try.func4, Try.ntmps4
        go_wp2_with fail
        refine (awake10 w).mono ?_
        rintro e w' ⟨rfl, B⟩
        go_wp2
        go_ret
        exact ⟨rfl, B⟩
      · have g1 : ¬ (20 : Int) < (lf.length : Int) := by omega
        have g2 : ¬ (40 : Int) < (l.length : Int) := by omega
        have g3 : (40 : Int) < (l2.length : Int) := by omega
        clear h1 h2
        clear hbig
        go_enter Try.func4, Try.ntmps4
        go_wp2_with fail
        refine (awake10 w).mono ?_
        rintro e w' ⟨rfl, B⟩
        go_wp2
        go_ret
        exact ⟨rfl, B⟩
  · have g1 : ¬ (20 : Int) < (lf.length : Int) := by omega
    have g2 : ¬ (40 : Int) < (l.length : Int) := by omega
    have g3 : ¬ (40 : Int) < (l2.length : Int) := by omega
    have hlf : lf.length ≤ 20 := by omega
    have hl : l.length ≤ 40 := by omega
    have hl2 : l2.length ≤ 40 := by omega
    clear hbig
    go_enter Try.func4, Try.ntmps4
    go_wp2_with fail
    refine (freshC _ lf w HF.out (by omega)).mono ?_
    rintro e w1 ⟨j, S1, x, rfl, J1, P1, O1, B1, T1⟩
    have P1' := P1
    obtain ⟨Ax, cx, rfl, _⟩ := P1'
    have HW := Lib.hid (And.intro J1 (And.intro P1 (And.intro O1 (And.intro B1 T1))))
    clear J1 P1 O1 B1 T1
    go_wp2
    have R0 : ∃ k : Nat, k ≤ l.length ∧ Value.int .i64 0 = .int .i64 k ∧ Hid (At w j (20 + 2 * k) (.slice (some ⟨w1.heap.size, 0, none⟩) 1 1) (w1.alloc (.cells #[.slice Ax (puts lf).length cx] 26))) ∧ Below w.heap.size w (w1.alloc (.cells #[.slice Ax (puts lf).length cx] 26)) := by
      obtain ⟨J1, P1, O1, B1, T1⟩ := HW.out
      have B2 : Below w1.heap.size w1 (w1.alloc (.cells #[.slice Ax (puts lf).length cx] 26)) := (Below.refl _ _).alloc (Nat.le_refl _) _
      refine ⟨0, Nat.zero_le _, rfl, Lib.hid ⟨S1, [], puts lf, (J1.below B2).mono (by omega), ⟨[.slice Ax (puts lf).length cx], ?_, ?_, ?_⟩, T1⟩, step_below B1 B2⟩
      · refine ⟨_, 1, rfl, Nat.le_refl _, fun i hi => ⟨_, 0, rfl, ?_⟩⟩
        obtain rfl : i = 0 := by simpa using hi
        exact (Blk.new w1 26 #[.slice Ax (puts lf).length cx]).cell 0
      · intro g hg
        cases hg
        exact ⟨by simp, fun h => Nat.lt_irrefl _ (J1.bound _ h)⟩
      · exact Rds.snoc (xs := []) (Ls := []) ⟨rfl, fun i hi => absurd hi (by simp)⟩ (P1.below B2) (O1.below B2)
    clear HW
    generalize w1.alloc (.cells #[.slice Ax (puts lf).length cx] 26) = W0 at *
    go_loopw [9, 10] (fun lv i wr => ∃ k : Nat, k ≤ l.length ∧ i = .int .i64 k ∧ Hid (At w j (20 + 2 * k) lv wr) ∧ Below w.heap.size w wr) (fun _ i _ => l.length - (intOf i).toNat)
    case atStart => exact R0
    case round =>
      clear R0
      obtain ⟨k, hk, rfl, HA, hbel⟩ := hrel
      by_cases hlt : k < l.length
      · obtain ⟨b0, off, rfl, d0, d1, d2⟩ := HC.out k hlt
        have c0 := (since_of hbel).cell d0
        have c1 := (since_of hbel).cell d1
        have c2 := (since_of hbel).cell d2
        have hi0 : (0 : Int) ≤ k := by omega
        have hi1 : (k : Int) < (l.length : Int) := by omega
        have hw : IntKind.i64.wrap ((k : Int) + 1) = (k : Int) + 1 := IntWalk.i64_in _ (by omega)
        obtain ⟨⟨kd, key, val⟩, hd⟩ : ∃ d : Deed, d = l[k] := ⟨_, rfl⟩
        rw [← hd] at c0 c1 c2 d0 d1 d2
        simp only at c0 c1 c2 d0 d1 d2
        clear d0 d1 d2 hd
        obtain ⟨S, Lv, L, hJ, hL, hT⟩ := HA.out
        obtain ⟨hl1, hl2'⟩ := hJ.len
        have HM := Lib.hid (movedC kd key val hL hJ.bound hJ.up (by omega) (by omega))
        obtain ⟨⟨Lv', L', ev⟩, hr⟩ : ∃ r, r = act Lv L kd key val := ⟨_, rfl⟩
        rw [← hr] at HM
        have HJ := Lib.hid (And.intro hJ (And.intro hT hr.symm))
        clear HA hJ hL hT hr
        go_wp2_with fail
        refine HM.out.mono ?_
        rintro e w2 ⟨lv2, rfl, hL2, B2⟩
        obtain ⟨g, o2, cp2, ys, y, rfl, hG⟩ := given hL2
        clear HM hL2
        have HDo := Lib.hid (doP (w := w) kd key val (HJ.out.1.below B2) hG (step_below hbel B2) HJ.out.2.1 HJ.out.2.2 (by omega))
        have e0 := (since_of B2).cell c0
        have e1 := (since_of B2).cell c1
        have e2 := (since_of B2).cell c2
        generalize hn : Lv'.length = n at *
        clear c0 c1 c2 hG hn B2 HJ
        go_wp2_with fail
        refine HDo.out.mono ?_
        rintro e w3 ⟨rfl, S3, hP⟩
        have HF3 := Lib.hid (show At w j (20 + 2 * (k + 1)) (.slice (some ⟨g, o2, none⟩) (n + 1) cp2) w3 from ⟨S3, Lv', L', hP.jr, hP.giv.to, hP.low⟩)
        have B3 := hP.bel
        clear hP HDo e0 e1 e2
        go_wp2
        go_roundw
        case rel => exact ⟨k + 1, by omega, by simp, HF3, B3⟩
        case measure => simp [intOf]; omega
      · obtain rfl : k = l.length := by omega
        have hi1 : ¬ (l.length : Int) < (l.length : Int) := by omega
        obtain ⟨S, Lv, L, hJ, hL, hT⟩ := HA.out
        have HCp := Lib.hid (jCopy hJ (by omega))
        obtain ⟨xs, hCn, hOf⟩ := hL.open
        obtain ⟨gb, go, cp, rfl, hcell⟩ := hCn.form (n := Lv.length) (by simp)
        have HK := Lib.hid (And.intro hJ (And.intro hCn (And.intro hOf (And.intro hT hbel))))
        have HCe := Lib.hid hcell
        clear HA hJ hL hT hCn hOf hcell hbel
        go_wp2_with fail
        refine HCp.out.mono ?_
        rintro e w2 ⟨k2, T, rfl, hJ2, B2, hT2⟩
        have R1 : ∃ q : Nat, q ≤ l2.length ∧ Value.int .i64 0 = .int .i64 q ∧ Hid (∃ S, Two w j k2 (100 + 2 * q) 100 (.slice (some ⟨gb, go, none⟩) (Lv.length + 1) cp) xs Lv L S T w2) := by
          obtain ⟨hJ, hCn, hOf, hT, hbel⟩ := HK.out
          exact ⟨0, Nat.zero_le _, rfl, Lib.hid ⟨S, ⟨_, _, (hJ.below B2).mono (by omega)⟩, hJ2.mono (by omega), hCn.below B2, hOf.size B2.size, hOf.fresh B2.size hT2, fun i hi hs => by have := hT2 i hi; have := hJ.bound i hs; omega, hT, fun i hi => Nat.le_trans hbel.size (hT2 i hi), step_below hbel B2⟩⟩
        clear HK HCp hJ2 B2 hT2
        go_wp2
        go_loopw [14] (fun i wr => ∃ q : Nat, q ≤ l2.length ∧ i = .int .i64 q ∧ Hid (∃ S, Two w j k2 (100 + 2 * q) 100 (.slice (some ⟨gb, go, none⟩) (Lv.length + 1) cp) xs Lv L S T wr)) (fun i _ => l2.length - (intOf i).toNat)
        case atStart => exact R1
        case round =>
          clear R1
          obtain ⟨q, hq, rfl, HT⟩ := hrel
          obtain ⟨S4, hTwo⟩ := HT.out
          by_cases hlt2 : q < l2.length
          · obtain ⟨b0, off, rfl, d0, d1, d2⟩ := HC2.out q hlt2
            have c0 := (since_of hTwo.bel).cell d0
            have c1 := (since_of hTwo.bel).cell d1
            have c2 := (since_of hTwo.bel).cell d2
            have hi0 : (0 : Int) ≤ q := by omega
            have hi2 : (q : Int) < (l2.length : Int) := by omega
            have hw : IntKind.i64.wrap ((q : Int) + 1) = (q : Int) + 1 := IntWalk.i64_in _ (by omega)
            obtain ⟨⟨kd, key, val⟩, hd⟩ : ∃ d : Deed, d = l2[q] := ⟨_, rfl⟩
            rw [← hd] at c0 c1 c2
            simp only at c0 c1 c2
            have HDo := Lib.hid (doTwo kd key val hTwo (by omega))
            clear d0 d1 d2 hd HT hTwo
            go_wp2_with fail
            refine HDo.out.mono ?_
            rintro e w3 ⟨n3, S5, rfl, hTwo5⟩
            have HF5 := Lib.hid (show ∃ S, Two w j k2 (100 + 2 * (q + 1)) 100 (.slice (some ⟨gb, go, none⟩) (Lv.length + 1) cp) xs Lv L S T w3 from ⟨S5, hTwo5⟩)
            clear hTwo5 HDo c0 c1 c2
            go_wp2
            go_roundw
            case rel => exact ⟨q + 1, by omega, by simp, HF5⟩
            case measure => simp [intOf]; omega
          · obtain rfl : q = l2.length := by omega
            have hi2 : ¬ (l2.length : Int) < (l2.length : Int) := by omega
            have hP : Cp w k2 100 (.slice (some ⟨gb, go, none⟩) (Lv.length + 1) cp) xs (Lv ++ [L]) Lv L T wr := ⟨hTwo.two, hTwo.cn, hTwo.offT, hTwo.lowT, hTwo.bel⟩
            clear HT hTwo
            have hxl : xs.length = Lv.length + 1 := by rw [hP.cn.len]; simp
            obtain ⟨n, hn⟩ : ∃ n, n = Lv.length := ⟨_, rfl⟩
            have hLe : (Lv ++ [L])[n]? = some L := by simp [hn]
            have hle := hP.jr.len.2
            rw [← hn] at hxl hle hP HCe ⊢
            have hnx : n < xs.length := by omega
            have p3 := HCe.out wr hP.cn n hnx
            have HDe := Lib.hid (depthC1 hP hn)
            have HLi := Lib.hid (listC hP (by omega))
            have HSa := Lib.hid (sameC hP (by omega) (i := n) hnx hLe)
            have HP := Lib.hid hP
            have hN := Lib.hid (And.intro hn (And.intro hxl hLe))
            have hnw : IntKind.i64.wrap (n : Int) = (n : Int) := IntWalk.i64_in _ (by omega)
            have gn0 : (0 : Int) ≤ (n : Int) := by omega
            have gn1 : (n : Int) < (n : Int) + 1 := by omega
            have hw2 : IntKind.i64.wrap ((n : Int) + 1 - 2) = (n : Int) - 1 := by rw [IntWalk.i64_in _ (by omega)]; omega
            have hw3 : IntKind.i64.wrap ((n : Int) - 1) = (n : Int) - 1 := IntWalk.i64_in _ (by omega)
            generalize hy : xs[n]'hnx = y at *
            clear hy
            clear hP hLe hxl hn hnx
            have r2 := Since.refl wr
            go_wp2
            go_region_held3 (fun W => W.cell? ⟨gb, go + n, none⟩ = some y)
              (first | go_keep | exact s4.cell p3 | exact s5.cell p3 | exact s6.cell p3)
              (first
                | (go_at_call 10; refine (HDe.out _ (by exact r2)).mono ?_; clear HDe; rintro en w4 ⟨rfl, s4⟩)
                | (go_at_call 12; refine (HLi.out _ (by exact s4)).mono ?_; clear HLi; rintro en w5 ⟨u5, rfl, P5, s5⟩)
                | (go_at_call 11; refine (HSa.out _ (by exact s5) _ (by exact P5)).mono ?_; clear HSa; rintro en w6 ⟨rfl, s6⟩))
            have R2 : ∃ p : Nat, p ≤ n ∧ Value.int .i64 ((n : Int) - 1) = .int .i64 ((p : Int) - 1) ∧ Hid (∃ T, Cp w k2 100 (.slice (some ⟨gb, go, none⟩) (n + 1) cp) xs (Lv ++ [L]) ((Lv ++ [L]).take p) (((Lv ++ [L])[p]?).getD []) T w6) := by
              obtain ⟨hn, _, hLe⟩ := hN.out
              refine ⟨n, Nat.le_refl _, rfl, Lib.hid ⟨T, ?_⟩⟩
              have e1 : (Lv ++ [L]).take n = Lv := by rw [hn]; simp
              rw [hLe, e1]
              exact HP.out.below s6.below
            have hLs : Hid ((Lv ++ [L]).length = n + 1 ∧ xs.length = n + 1) := ⟨by simp [hN.out.1], hN.out.2.1⟩
            clear s4 s5 s6 p3 P5 r2 HP hN
            generalize hLL : Lv ++ [L] = Ls at *
            clear hLL
            go_wp2
            go_loopw [15] (fun i wr => ∃ p : Nat, p ≤ n ∧ i = .int .i64 ((p : Int) - 1) ∧ Hid (∃ T, Cp w k2 100 (.slice (some ⟨gb, go, none⟩) (n + 1) cp) xs Ls (Ls.take p) ((Ls[p]?).getD []) T wr)) (fun i _ => (intOf i + 1).toNat)
            case atStart => exact R2
            case round =>
              clear R2
              obtain ⟨p, hp, rfl, HQ⟩ := hrel
              obtain ⟨T7, hP7⟩ := HQ.out
              by_cases hp0 : p = 0
              · subst hp0
                have gz : ¬ (0 : Int) ≤ ((0 : Nat) : Int) - 1 := by omega
                have B7 := hP7.bel
                clear HQ hP7
                go_wp2_with fail
                refine (awake10 _).mono ?_
                rintro e w9 ⟨rfl, B9⟩
                have B10 := step_below B7 B9
                go_wp2
                go_ret
                exact ⟨rfl, B10⟩
              · obtain ⟨r, rfl⟩ : ∃ r, p = r + 1 := ⟨p - 1, by omega⟩
                have hLr := hLs.out
                have hrx : r < xs.length := by omega
                have hrL : r < Ls.length := by omega
                have hxe : Ls[r]? = some ((Ls[r]?).getD []) := by rw [List.getElem?_eq_getElem hrL]; rfl
                have htk : Ls.take (r + 1) = Ls.take r ++ [(Ls[r]?).getD []] := by rw [List.take_succ_eq_append_getElem hrL, List.getElem?_eq_getElem hrL]; rfl
                rw [htk] at hP7
                have HRo := Lib.hid (fun W (h : Since _ W) => rollP (hP7.below h.below) (by omega))
                have HCr := Lib.hid (fun w' h => HCe.out w' h r hrx)
                have HSr := Lib.hid (fun T w1 (h : Cp w k2 100 (.slice (some ⟨gb, go, none⟩) (n + 1) cp) xs Ls (Ls.take r) ((Ls[r]?).getD []) T w1) => sameC h (by omega) (i := r) hrx hxe)
                have HCn := Lib.hid hP7.cn
                have c9 := HCr.out _ hP7.cn
                have hir : (((r + 1 : Nat) : Int) - 1) = (r : Int) := by omega
                have gr0 : (0 : Int) ≤ (r : Int) := by omega
                have gr1 : (r : Int) < (n : Int) + 1 := by omega
                have hwr : IntKind.i64.wrap ((r : Int) - 1) = (r : Int) - 1 := IntWalk.i64_in _ (by omega)
                generalize hyy : xs[r]'hrx = yr at *
                clear hyy hxe htk hLr HQ hP7
                rw [hir]
                clear hir
                generalize hxL : (Ls[r]?).getD [] = xL at *
                replace hxL := Lib.hid hxL
                have r7 := Since.refl wr
                go_wp2
                go_region_held3 (fun W => W.cell? ⟨gb, go + r, none⟩ = some yr)
                  (first | go_keep | exact p4 | exact s5.cell p4 | exact s6.cell p4)
                  (first
                    | (go_at_call 16; refine (HRo.out _ (by exact r7)).mono ?_; clear HRo; rintro en w3 ⟨rfl, T3, hP3⟩; have p4 := HCr.out _ hP3.cn; replace hP3 := Lib.hid hP3; have HLi := Lib.hid (listC hP3.out (by omega)); have HSa := Lib.hid (HSr.out _ _ hP3.out); have r3 := Since.refl w3)
                    | (go_at_call 12; refine (HLi.out _ (by exact r3)).mono ?_; clear HLi; rintro en w5 ⟨u5, rfl, P5, s5⟩)
                    | (go_at_call 11; refine (HSa.out _ (by exact s5) _ (by exact P5)).mono ?_; clear HSa; rintro en w6 ⟨rfl, s6⟩))
                all_goals
                  have HF8 := Lib.hid (show ∃ T, Cp w k2 100 (.slice (some ⟨gb, go, none⟩) (n + 1) cp) xs Ls (Ls.take r) ((Ls[r]?).getD []) T w6 from ⟨T3, by rw [hxL.out]; exact hP3.out.below s6.below⟩)
                  clear hP3 s5 s6 p4 P5 r3 r7 c9 HCr HSr HCn
                  go_wp2
                  go_roundw
                  case rel => exact ⟨r, by omega, by simp, HF8⟩
                  case measure => simp [intOf]
set_option maxRecDepth 100000 in
theorem lifted (os : Os) (started : os.Started) (H : Type) (enc : TypeId × Value → H) :
    ReturnsInHanded {} Try.checked os 4 .any (Rows.journalCopiesSpec.pre6 enc Try.prog Try.f4 Rows.journalCopiesRow.domain false) (Rows.journalCopiesSpec.post enc Try.prog Try.f4 false true false false) := by
  refine returnsInHanded_of_change (C := Try.checked) own started (by kernel_rfl) Try.func4
    (ChangeSpec.witness6 (enc := enc) (C := Try.checked) false ⟨#[], #[.slice none 0 0, .slice none 0 0, .slice none 0 0], []⟩ 8 (by kernel_rfl) (by kernel_rfl) (by kernel_rfl) (by kernel_rfl)) ?_
  intro W base args ds gs before hval0 hW hcnd _
  have hval : ∀ (j : Nat) t v, Try.f4.params[j]? = some t → args[j]? = some v → Value.okWide Try.prog W .any base t v := hval0
  have hW' := hW
  obtain ⟨p, q, hA0, hV, rfl, hfz, hnd⟩ := hW
  have hA : DataW.TrodAll enc Try.prog W 0 (fun _ => true) true Try.f4.params.toList args.toList ds p := hA0
  rw [Try.params4] at hA hval
  have hK := hA
  obtain ⟨v0, vs0, d0, ds0, p0, q0, hargs, rfl, rfl, h0, r0⟩ := trodAll_cons hA
  obtain ⟨v1, vs1, d1, ds1, p1, q1, rfl, rfl, rfl, h1, r1⟩ := trodAll_cons r0
  obtain ⟨v2, vs2, d2, ds2, p2, q2, rfl, rfl, rfl, h2, r2⟩ := trodAll_cons r1
  obtain ⟨rfl, rfl, rfl⟩ := trodAll_nil r2
  obtain rfl : args = #[v0, v1, v2] := by cases args; simp_all
  obtain ⟨rfl, rfl⟩ := trodVars_none hV
  obtain ⟨A0, len0, cap0, rfl⟩ := okWide_slice Try.underlying22 (hval 0 22 v0 rfl rfl)
  obtain ⟨a0, w0, l0⟩ := open_prs h0
  obtain ⟨A1, len1, cap1, rfl⟩ := okWide_slice Try.underlying23 (hval 1 23 v1 rfl rfl)
  obtain ⟨a1, w1, l1⟩ := open_deeds h1
  obtain ⟨A2, len2, cap2, rfl⟩ := okWide_slice Try.underlying23 (hval 2 23 v2 rfl rfl)
  obtain ⟨a2, w2, l2⟩ := open_deeds h2
  clear hA0 hval0
  refine (walk W _ a0 w0 _ a1 w1 _ a2 w2).mono fun e W' ⟨he, bel⟩ => ?_
  subst he
  exact ⟨_, rfl, _, _, _, [], _, [], hW', trodAll_mk1 (shut_bool Try.underlying4 _), trodAll_under laidOut bel _ _ _ _ (by kernel_rfl) hK, rfl, bel.frame _, fun h => by cases h⟩

theorem journalCopies_holds : Rows.JournalCopiesSaid :=
  OpenClaim.holds_of_wide 4 Try.f4 rfl rfl rfl rfl rfl rfl rfl ⟨rfl, rfl, rfl, rfl, rfl⟩ rfl rfl rfl rfl rfl (by kernel_rfl) Try.func4 (by kernel_rfl)
    (of_decide_eq_true (by kernel_rfl)) (by unfold Func.isWrapper; first | (rw [if_pos (by decide +kernel)]; kernel_rfl) | (rw [if_neg (by decide +kernel)]; exact ⟨rfl, rfl⟩))
    (fun os started H enc _ => lifted os started H enc)
#print axioms journalCopies_holds
end Go.Proofs.Ytpjndgcliegloaa.W.JournalCopies
