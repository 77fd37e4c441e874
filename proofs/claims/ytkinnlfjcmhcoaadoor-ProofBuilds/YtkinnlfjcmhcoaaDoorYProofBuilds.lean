/-
  footbridgelaw12.ProofBuilds returns true for any list of pairs and any key, and changes nothing: Build answers what the reference's does. Condition: the table sha.roots starts as the program's text lays it (tied by the card).
-/
import Derived.Test.YtkinnlfjcmhcoaaDoorCards
import Derived.Test.YtkinnlfjcmhcoaaDoorTie
import Derived.Deep.DeepHandedRow
import Derived.Test.YtkinnlfjcmhcoaaDoorYXRBld
import Derived.Test.YtkinnlfjcmhcoaaDoorZ2a
import Derived.Test.YtkinnlfjcmhcoaaDoorZXRead
import Derived.Test.YtkinnlfjcmhcoaaDoorZ0f
import Derived.Test.YtkinnlfjcmhcoaaDoorYXTells
import Derived.Test.YtkinnlfjcmhcoaaDoorYXCmp
import Derived.Test.YtkinnlfjcmhcoaaDoorZ0e
namespace Go.Proofs.YtkinnlfjcmhcoaaDoor.proofBuilds
open Go.ChangeShapes Go.WideShapes Go.ChangeAt Go.RowKit
open Go.ChangeMaps (open_string shut_string)
open W

set_option maxHeartbeats 2000000 in
set_option maxRecDepth 100000 in
theorem builds_this (v : Value) (key : ByteArray) (x : Pf) (n pos : Int) (t : Bool) (a b : Nat) (w : World) (hk : key.size ≤ 100)
    (H0 : Hid (Calls Tryd.prog 8 #[v, .int .i64 20] w fun e w' => e = .returned (.bool true) ∧ Since w w'))
    (H1 : Hid (∀ W, Since w W → Calls Tryd.prog 11 #[v, .string key] W fun e w' => ∃ A1 c1 A2 c2, e = .returned (pvv n pos t A1 a c1 A2 b c2) ∧ Prf w' (pvv n pos t A1 a c1 A2 b c2) x ∧ Since W w'))
    (H2 : Hid (∀ W, Since w W → Calls Tryd.prog 12 #[v, .string key] W fun e w' => ∃ A1 c1 A2 c2, e = .returned (pvv n pos t A1 a c1 A2 b c2) ∧ Prf w' (pvv n pos t A1 a c1 A2 b c2) x ∧ Since W w'))
    (H3 : Hid (∀ W u v, Since w W → Prf W u x → Prf W v x → Calls Tryd.prog 10 #[u, v] W fun e w' => e = .returned (.bool true) ∧ Since W w'))
    (H9 : Hid (∀ W, Since w W → Calls Tryd.prog 9 #[] W fun e w' => e = .returned (.bool true) ∧ Since W w')) :
    Calls Tryd.prog 3 #[v, .string key] w fun e w' => e = .returned (.bool true) ∧ Since w w' := by
  go_enter Tryd.func3, Tryd.ntmps3
  go_wp2_with fail
  refine H0.out.mono ?_
  rintro e w1 ⟨rfl, s1⟩
  clear H0
  go_wp2_with fail
  refine (H1.out w1 s1).mono ?_
  rintro e w2 ⟨A1, c1, A2, c2, rfl, P2, s2⟩
  have HP := Lib.hid P2
  have HS2 := Lib.hid (since_of (step_below s1.below s2.below))
  clear H1 s1 s2 P2
  go_wp2_with fail
  refine (H2.out w2 HS2.out).mono ?_
  rintro e w3 ⟨B1, d1, B2, d2, rfl, P3, s3⟩
  have HQ := Lib.hid (HP.out.below s3.below)
  have HR := Lib.hid P3
  have HS3 := Lib.hid (since_of (step_below HS2.out.below s3.below))
  clear H2 s3 P3 HP HS2
  go_wp2_with fail
  refine (H3.out w3 _ _ HS3.out HQ.out HR.out).mono ?_
  rintro e w4 ⟨rfl, s4⟩
  have HS4 := Lib.hid (since_of (step_below HS3.out.below s4.below))
  clear H3 s4 HQ HR HS3
  go_wp2_with fail
  refine (H9.out w4 HS4.out).mono ?_
  rintro e w5 ⟨rfl, s5⟩
  go_wp2
  go_ret
  exact ⟨rfl, since_of (step_below HS4.out.below s5.below)⟩
theorem walk (w : World) (hd : Roots w) (v : Value) (l : List KV) (hP : Prs w v l) (key : ByteArray) (_hk : key.size ≤ maxLen) :
    Calls Tryd.prog 3 #[v, .string key] w fun e w' => e = .returned (.bool true) ∧ Below w.heap.size w w' := by
  have hf := few12C v l 20 w hP (by decide)
  have hA : Hid (∀ W, Since w W → Calls Tryd.prog 9 #[] W fun e w' => e = .returned (.bool true) ∧ Since W w') := Lib.hid fun W hW => awake12 W (roots_since hd hW) readC
  by_cases hF : (l.length ≤ 20 ∧ Brief l) ∧ key.size ≤ 100
  · obtain ⟨hF, hk⟩ := hF
    rw [decide_eq_true hF] at hf
    have hform : ∀ W u, Prf W u (bldAny l key) → ∃ A1 c1 A2 c2, u = pvv (bldAny l key).n (bldAny l key).pos (bldAny l key).there A1 (bldAny l key).near.length c1 A2 (bldAny l key).paths.length c2 := fun W u h => by
      obtain ⟨nv, pv, rfl, ⟨A1, c1, rfl, _, _⟩, ⟨A2, c2, rfl, _, _⟩⟩ := h
      exact ⟨A1, c1, A2, c2, rfl⟩
    have hb : (bldAny l key).near.length ≤ 1000000000 ∧ (bldAny l key).paths.length ≤ 1000000000 ∧ ∀ q ∈ (bldAny l key).paths, q.length ≤ 1000000000 := by
      by_cases hu : Up l
      · rw [any_up hu]
        have hpl : Plain (bld l key) := plain_bld (by omega) (prs_sizes hF.2)
        have h1 := hpl.near
        have h2 := hpl.paths
        exact ⟨by omega, by omega, fun q hq => by have := (bld_paths hF.1 key q hq).1; omega⟩
      · have e : bldAny l key = Pf.zero := if_neg hu
        rw [e]
        exact ⟨Nat.zero_le _, Nat.zero_le _, fun q hq => by cases hq⟩
    refine (builds_this v key (bldAny l key) (bldAny l key).n (bldAny l key).pos (bldAny l key).there (bldAny l key).near.length (bldAny l key).paths.length w hk (Lib.hid (hf.mono fun e w' ⟨he, hb⟩ => ⟨he, since_of hb⟩)) ?_ ?_ ?_ hA).mono fun e w' ⟨he, hs⟩ => ⟨he, hs.below⟩
    · exact Lib.hid fun W hW => (buildC v l key W (hP.below hW.below) (roots_since hd hW) (by omega)).mono fun e w' ⟨u, he, hp, hs⟩ => by
        obtain ⟨A1, c1, A2, c2, rfl⟩ := hform _ _ hp
        exact ⟨A1, c1, A2, c2, he, hp, hs⟩
    · exact Lib.hid fun W hW => (rBuildC v l key W (hP.below hW.below) (by omega)).mono fun e w' ⟨u, he, hp, hs⟩ => by
        obtain ⟨A1, c1, A2, c2, rfl⟩ := hform _ _ hp
        exact ⟨A1, c1, A2, c2, he, hp, hs⟩
    · exact Lib.hid fun W u v _ hp hq => samePf u v _ W hp hq hb.1 hb.2.1 hb.2.2
  · have H0 := Lib.hid hf
    by_cases hG : l.length ≤ 20 ∧ Brief l
    · have hk2 : 100 < key.size := by
        by_cases h : key.size ≤ 100
        · exact absurd ⟨hG, h⟩ hF
        · omega
      rw [decide_eq_true hG] at H0
      clear hf hF hG
      go_enter Tryd.func3, Tryd.ntmps3
      go_wp2_with fail
      refine H0.out.mono ?_
      rintro e w1 ⟨rfl, b1⟩
      go_wp2_with fail
      refine (hA.out w1 (since_of b1)).mono ?_
      rintro e w7 ⟨rfl, b7⟩
      go_wp2
      go_ret
      exact ⟨rfl, step_below b1 b7.below⟩
    · rw [decide_eq_false hG] at H0
      clear hf hF hG
      go_enter Tryd.func3, Tryd.ntmps3
      go_wp2_with fail
      refine H0.out.mono ?_
      rintro e w1 ⟨rfl, b1⟩
      go_wp2_with fail
      refine (hA.out w1 (since_of b1)).mono ?_
      rintro e w7 ⟨rfl, b7⟩
      go_wp2
      go_ret
      exact ⟨rfl, step_below b1 b7.below⟩
noncomputable def laidWorld (os : Os) : World :=
  { World.holding Tryd.prog os ⟨#[], #[], []⟩ with heap := ((World.holding Tryd.prog os ⟨#[], #[], []⟩).heap.modify 0 (fun | .cells _ t frozen => .cells #[.int .u32 1116352408, .int .u32 1899447441, .int .u32 3049323471, .int .u32 3921009573, .int .u32 961987163, .int .u32 1508970993, .int .u32 2453635748, .int .u32 2870763221, .int .u32 3624381080, .int .u32 310598401, .int .u32 607225278, .int .u32 1426881987, .int .u32 1925078388, .int .u32 2162078206, .int .u32 2614888103, .int .u32 3248222580, .int .u32 3835390401, .int .u32 4022224774, .int .u32 264347078, .int .u32 604807628, .int .u32 770255983, .int .u32 1249150122, .int .u32 1555081692, .int .u32 1996064986, .int .u32 2554220882, .int .u32 2821834349, .int .u32 2952996808, .int .u32 3210313671, .int .u32 3336571891, .int .u32 3584528711, .int .u32 113926993, .int .u32 338241895, .int .u32 666307205, .int .u32 773529912, .int .u32 1294757372, .int .u32 1396182291, .int .u32 1695183700, .int .u32 1986661051, .int .u32 2177026350, .int .u32 2456956037, .int .u32 2730485921, .int .u32 2820302411, .int .u32 3259730800, .int .u32 3345764771, .int .u32 3516065817, .int .u32 3600352804, .int .u32 4094571909, .int .u32 275423344, .int .u32 430227734, .int .u32 506948616, .int .u32 659060556, .int .u32 883997877, .int .u32 958139571, .int .u32 1322822218, .int .u32 1537002063, .int .u32 1747873779, .int .u32 1955562222, .int .u32 2024104815, .int .u32 2227730452, .int .u32 2361852424, .int .u32 2428436474, .int .u32 2756734187, .int .u32 3204031479, .int .u32 3329325298] t frozen | o => o)) }
theorem laid_met (os : Os) : laidMet Tryd.prog Rows.proofBuildsRow.laid ((laidWorld os).forCall (fun _ _ => 0) ⟨#[], #[.slice none 0 0, .string ByteArray.empty], []⟩).memory :=
  laidMet_of_run' 8 (by kernel_rfl) (by kernel_rfl)
theorem reads (os : Os) {H : Type} (enc : TypeId × Value → H) : ∃ ds places, DataW.whole enc Tryd.prog ((laidWorld os).forCall (fun _ _ => 0) ⟨#[], #[.slice none 0 0, .string ByteArray.empty], []⟩).memory Tryd.f3.params.toList Rows.proofBuildsSpec.vars false (#[.slice none 0 0, .string ByteArray.empty] : Array Value).toList 8 = some (ds, [], places) :=
  ⟨[.nil, .lit (.string [])], [], by kernel_rfl⟩
set_option maxRecDepth 100000 in
theorem contract (H : Type) (enc : TypeId × Value → H) (W : World) (base : Nat) (args : Array Value) (ds gs : List (DataW H)) (before : List MemPlace)
    (hval0 : ∀ (j : Nat) t v, Tryd.f3.params[j]? = some t → args[j]? = some v → Value.okWide Tryd.prog W .any base t v)
    (hW : DataW.Whole enc Tryd.prog Tryd.f3.params.toList Rows.proofBuildsSpec.vars false W args.toList ds gs before) (hL : laidMetH Tryd.prog Rows.proofBuildsRow.laid W) (_hS : W.ShapedOpen Tryd.prog) :
    Calls Tryd.prog 3 args W fun e W' => ∃ v, e = .returned v ∧ Rows.proofBuildsSpec.post enc Tryd.prog Tryd.f3 false true false false W args v W' := by
  have hval : ∀ (j : Nat) t v, Tryd.f3.params[j]? = some t → args[j]? = some v → Value.okWide Tryd.prog W .any base t v := hval0
  have hW' := hW
  obtain ⟨p, q, hA0, hV, rfl, hfz, hnd⟩ := hW
  have hA : DataW.TrodAll enc Tryd.prog W 0 (fun _ => true) true Tryd.f3.params.toList args.toList ds p := hA0
  rw [Tryd.params3] at hA hval
  have hK := hA
  obtain ⟨v0, vs0, d0, ds0, p0, q0, hargs, rfl, rfl, h0, r0⟩ := trodAll_cons hA
  obtain ⟨v1, vs1, d1, ds1, p1, q1, rfl, rfl, rfl, h1, r1⟩ := trodAll_cons r0
  obtain ⟨rfl, rfl, rfl⟩ := trodAll_nil r1
  obtain rfl : args = #[v0, v1] := by cases args; simp_all
  obtain ⟨rfl, rfl⟩ := trodVars_none hV
  obtain ⟨A0, len0, cap0, rfl⟩ := okWide_slice Tryd.underlying22 (hval 0 22 v0 rfl rfl)
  obtain ⟨a0, w0, l0⟩ := open_prs h0
  obtain ⟨a1, rfl, rfl, rfl, w1⟩ := open_string Tryd.underlying9 (hval 1 9 v1 rfl rfl) h1
  clear hA0 hval0
  refine (walk W (roots_of hL) _ a0 w0 a1 w1).mono fun e W' ⟨he, bel⟩ => ?_
  subst he
  exact ⟨_, rfl, _, _, _, [], _, [], hW', trodAll_mk1 (shut_bool Tryd.underlying4 _), trodAll_under laidOut bel _ _ _ _ (by kernel_rfl) hK, rfl, bel.frame _, fun h => by cases h⟩
set_option maxRecDepth 100000 in
theorem lifted (os : Os) (started : os.Started) (H : Type) (enc : TypeId × Value → H) (F : Stop.Interp) :
    ReturnsInHanded {} Tryd.checked os 3 .any ((OpenSpec.ofChange Rows.proofBuildsSpec).preRow enc Tryd.prog Tryd.f3 Rows.proofBuildsRow.domain false Rows.proofBuildsRow.laid) (((OpenSpec.ofChange Rows.proofBuildsSpec).at F).post enc Tryd.prog Tryd.f3 false true false false) := by
  obtain ⟨ds, places, hx⟩ := reads os enc
  refine returnsInHanded_of_row (C := Tryd.checked) (s := OpenSpec.ofChange Rows.proofBuildsSpec) own started (by kernel_rfl) Tryd.func3
    (witness_row_at (enc := enc) (C := Tryd.checked) false (laidWorld os) #[.slice none 0 0, .string ByteArray.empty] rfl (by kernel_rfl) (by kernel_rfl) (by kernel_rfl)
      (OpenSpec.preRow_of_cond 8 hx (by kernel_rfl) (fun k hk => by cases hk) (by kernel_rfl) (laid_met os))) ?_
  intro W base args ds gs before hval hW _ _ _ hL hS _
  exact contract H enc W base args ds gs before hval hW hL hS
theorem said : Rows.ProofBuildsSaid :=
  OpenClaim.holds_of_cond 3 Tryd.f3 rfl rfl rfl rfl rfl rfl rfl ⟨rfl, rfl, rfl, rfl, rfl⟩ rfl rfl rfl rfl rfl (by kernel_rfl) Tryd.func3 (by kernel_rfl)
    (of_decide_eq_true (by kernel_rfl)) (by unfold Func.isWrapper; first | (rw [if_pos (by decide +kernel)]; kernel_rfl) | (rw [if_neg (by decide +kernel)]; exact ⟨rfl, rfl⟩))
    (fun os started H enc _ F => by rw [OpenClaim.pre_eq_preRow]; exact lifted os started H enc F)
theorem plain (f : FuncId) (fn : Func) (hf : Tryd.pinned.checked.prog.funcNamed "footbridge/footbridgelaw12.ProofBuilds" = some f) (hfn : Tryd.pinned.checked.prog.funcs[f]? = some fn) :
    false = Tryd.pinned.checked.prog.looks [] ∧ ∀ (j : Nat) t, fn.params[j]? = some t → Tryd.pinned.checked.prog.wantsStandIn t = false := by
  obtain rfl : f = 3 := Option.some.inj ((show Tryd.prog.funcNamed "footbridge/footbridgelaw12.ProofBuilds" = some 3 by kernel_rfl).symm.trans hf) |>.symm
  obtain rfl : fn = Tryd.f3 := (Option.some.inj (Tryd.func3.symm.trans hfn)).symm
  refine ⟨by kernel_rfl, fun j t ht => ?_⟩
  rw [Tryd.params3] at ht
  have hd : t = 22 ∨ t = 9 := by simpa using Array.mem_of_getElem? ht
  rcases hd with rfl | rfl
  · exact (show Tryd.prog.wantsStandIn 22 = false by kernel_rfl)
  · exact (show Tryd.prog.wantsStandIn 9 = false by kernel_rfl)
theorem proofBuilds_holds : Rows.ProofBuildsCardSaid :=
  Claim7.holds_tied_plain_at .later [] _ _ _ _ said (fun _ h => by cases h) (by kernel_rfl) (fun _ h => by cases h) proofBuilds_row_tie rfl ⟨rfl, rfl⟩ (by kernel_rfl) rfl plain (by kernel_rfl)
#print axioms proofBuilds_holds
end Go.Proofs.YtkinnlfjcmhcoaaDoor.proofBuilds
