/-
  footbridgelaw01.WireLays returns true for every number, text and list of texts, and changes nothing: wire's Num, Text and Join answer what the reference's do. No condition.
-/
import Derived.Test.YtdjljpkoodonjaaWLift
import Derived.Test.YtdjljpkoodonjaaWAwake
import Derived.Test.YtdjljpkoodonjaaWRefEnc
namespace Go.Proofs.Ytdjljpkoodonjaa.wireLays
open Go.ChangeShapes Go.WideShapes Go.ChangeAt Go.RowKit
open Go.ChangeMaps (open_string shut_string)
open W

set_option maxHeartbeats 2000000 in
set_option maxRecDepth 100000 in
theorem walk (w : World) (n : Int) (_h0 : -9223372036854775808 ≤ n) (_h1 : n ≤ 9223372036854775807) (s : ByteArray) (_hs : s.size ≤ maxLen) (v : Value) (l : List ByteArray) (hl : Txs w w.heap.size v l) (hm : l.length ≤ maxLen) :
    Calls Try.prog 3 #[.int .i64 n, .string s, v] w fun e w' => e = .returned (.bool true) ∧ Below w.heap.size w w' := by
  unfold maxLen at hm
  have HL := Lib.hid hl
  obtain ⟨A, cap, rfl, hc⟩ := hl
  clear hc
  by_cases hlen : l.length ≤ 300
  · go_enter Try.func3, Try.ntmps3
    go_wp2_with fail
    refine (wNum n w).mono ?_
    rintro e w1 ⟨rfl, h1⟩
    have R := Lib.hid (fun W => rNum n W)
    generalize encNum n = pn at *
    unfold retSE
    go_wp2_with fail
    refine (R.out w1).mono ?_
    rintro e w2 ⟨rfl, h2⟩
    replace h2 := step_below h1 h2
    clear h1 R
    unfold retSE
    go_wp2_with fail
    refine (wText s w2).mono ?_
    rintro e w3 ⟨rfl, h3⟩
    replace h3 := step_below h2 h3
    clear h2
    have R := Lib.hid (fun W => rText s W)
    generalize encText s = ps at *
    unfold retSE
    go_wp2_with fail
    refine (R.out w3).mono ?_
    rintro e w4 ⟨rfl, h4⟩
    replace h4 := step_below h3 h4
    clear h3 R
    unfold retSE
    go_wp2_with fail
    refine (wJoin _ l w4 ((HL.out.below h4).more h4.size) (by omega)).mono ?_
    rintro e w5 ⟨rfl, h5⟩
    replace h5 := step_below h4 h5
    clear h4
    have R := Lib.hid (rJoin _ l w5 ((HL.out.below h5).more h5.size) (by omega))
    generalize encJoin l = pl at *
    unfold retSE
    go_wp2_with fail
    refine R.out.mono ?_
    rintro e w6 ⟨rfl, h6⟩
    replace h6 := step_below h5 h6
    clear h5 R
    unfold retSE
    go_wp2_with fail
    refine (awake w6).mono ?_
    rintro e w7 ⟨rfl, h7⟩
    replace h7 := step_below h6 h7
    go_wp2
    go_ret
    exact ⟨rfl, h7⟩
  · go_enter Try.func3, Try.ntmps3
    go_wp2_with fail
    refine (awake w).mono ?_
    rintro e w7 ⟨rfl, h7⟩
    go_wp2
    go_ret
    exact ⟨rfl, h7⟩
set_option maxRecDepth 100000 in
theorem lifted (os : Os) (started : os.Started) (H : Type) (enc : TypeId × Value → H) :
    ReturnsInHanded {} Try.checked os 3 .any (Rows.wireLaysSpec.pre6 enc Try.prog Try.f3 Rows.wireLaysRow.domain false) (Rows.wireLaysSpec.post enc Try.prog Try.f3 false true false false) := by
  refine returnsInHanded_of_change (C := Try.checked) own started (by kernel_rfl) Try.func3
    (ChangeSpec.witness6 (enc := enc) (C := Try.checked) false ⟨#[], #[.int .i64 0, .string ByteArray.empty, .slice none 0 0], []⟩ 8 (by kernel_rfl) (by kernel_rfl) (by kernel_rfl) (by kernel_rfl)) ?_
  intro W base args ds gs before hval0 hW hcnd _
  have hval : ∀ (j : Nat) t v, Try.f3.params[j]? = some t → args[j]? = some v → Value.okWide Try.prog W .any base t v := hval0
  have hW' := hW
  obtain ⟨p, q, hA0, hV, rfl, hfz, hnd⟩ := hW
  have hA : DataW.TrodAll enc Try.prog W 0 (fun _ => true) true Try.f3.params.toList args.toList ds p := hA0
  rw [Try.params3] at hA hval
  have hK := hA
  obtain ⟨v0, vs0, d0, ds0, p0, q0, hargs, rfl, rfl, h0, r0⟩ := trodAll_cons hA
  obtain ⟨v1, vs1, d1, ds1, p1, q1, rfl, rfl, rfl, h1, r1⟩ := trodAll_cons r0
  obtain ⟨v2, vs2, d2, ds2, p2, q2, rfl, rfl, rfl, h2, r2⟩ := trodAll_cons r1
  obtain ⟨rfl, rfl, rfl⟩ := trodAll_nil r2
  obtain rfl : args = #[v0, v1, v2] := by cases args; simp_all
  obtain ⟨rfl, rfl⟩ := trodVars_none hV
  obtain ⟨a0, rfl, rfl, rfl, w0⟩ := open_int Try.underlying3 (hval 0 3 v0 rfl rfl) h0
  have b0 := bounds_i64 w0
  obtain ⟨a1, rfl, rfl, rfl, w1⟩ := open_string Try.underlying9 (hval 1 9 v1 rfl rfl) h1
  obtain ⟨A2, len2, cap2, rfl⟩ := okWide_slice Try.underlying22 (hval 2 22 v2 rfl rfl)
  obtain ⟨a2, w2, l2⟩ := open_txs Try.underlying22 Try.underlying9 (by kernel_rfl) h2
  clear hA0 hval0
  refine (walk W a0 b0.1 b0.2 a1 w1 _ a2 w2 l2).mono fun e W' ⟨he, bel⟩ => ?_
  subst he
  exact ⟨_, rfl, _, _, _, [], _, [], hW', trodAll_mk1 (shut_bool Try.underlying4 _), trodAll_under laidOut bel _ _ _ _ (by kernel_rfl) hK, rfl, bel.frame _, fun h => by cases h⟩

theorem wireLays_holds : Rows.WireLaysSaid :=
  OpenClaim.holds_of_wide 3 Try.f3 rfl rfl rfl rfl rfl rfl rfl ⟨rfl, rfl, rfl, rfl, rfl⟩ rfl rfl rfl rfl rfl (by kernel_rfl) Try.func3 (by kernel_rfl)
    (of_decide_eq_true (by kernel_rfl)) (by unfold Func.isWrapper; first | (rw [if_pos (by decide +kernel)]; kernel_rfl) | (rw [if_neg (by decide +kernel)]; exact ⟨rfl, rfl⟩))
    (fun os started H enc _ => lifted os started H enc)
#print axioms wireLays_holds
end Go.Proofs.Ytdjljpkoodonjaa.wireLays
