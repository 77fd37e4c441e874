/-
  The reference's Build, for every list of pairs and every key.
-/
import Derived.Test.YtkinnlfjcmhcoaaDoorYXRBuild
import Derived.Test.YtkinnlfjcmhcoaaDoorZ1a
namespace Go.Proofs.YtkinnlfjcmhcoaaDoor.W
open Go.RowKit

set_option maxRecDepth 100000 in
theorem rBuildC (v : Value) (l : List KV) (key : ByteArray) (w : World) (hP : Prs w v l) (hz : l.length ≤ 900000) :
    Calls Tryd.prog 12 #[v, .string key] w fun e w' => ∃ u, e = .returned u ∧ Prf w' u (bldAny l key) ∧ Since w w' := by
  have hP0 := hP
  obtain ⟨A, cap, rfl, hcap, hc⟩ := hP0
  have HI : ∀ W, Since w W → Calls Tryd.prog 22 #[.slice A l.length cap] W fun e w' => e = .returned (.bool (decide (Up l))) ∧ Since W w' := fun W hW => risesC _ l W (hP.below hW.below) (by omega)
  have hp : ∀ (i : Nat), i < 1000000 → ∀ W, Since w W → Calls Tryd.prog 35 #[.slice A l.length cap, .int .i64 i] W fun e w' => ∃ A m c, m ≤ c ∧ e = .returned (.slice A m c) ∧ OwnStrs W.heap.size (.slice A m c) (bss (pth l i)) W w' := fun i hi W hW => (rPathC _ l _ i W rfl hi (hP.below hW.below) (by omega)).mono fun e w' ⟨u, he, ho⟩ => by
    obtain ⟨A, m, c, rfl, h⟩ := own_roomy ho.1
    exact ⟨A, m, c, h, he, ho⟩
  by_cases hu : Up l
  · rw [decide_eq_true hu] at HI
    have e0 : bldAny l key = bld l key := if_pos hu
    rw [e0]
    have hle := lat_le (l := l) (key := key)
    cases hg : lget l key with
    | some x =>
      have hat := lat_some hu hg
      obtain ⟨hlt, hel⟩ := List.getElem?_eq_some_iff.1 hat
      rw [bld_some hg]
      refine (rBuildIn A l.length cap (latN l key) key l (bss (pth l (latN l key))) w rfl hlt (by omega) (by rw [hel]) hc (fun k h hk => latN_less l key k h hk) (Lib.hid HI) (Lib.hid fun W hW => (hp (latN l key) (by omega) W hW).mono fun e w' ⟨A, m, c, _, he, ho⟩ => ⟨A, m, c, he, ho⟩)).mono ?_
      rintro e w' ⟨pv, rfl, ⟨g, pu, rfl, hB, hT, hR⟩, hs⟩
      exact ⟨_, rfl, ⟨_, _, rfl, Prs.nil _ _ _, pths_one hB hT hR⟩, hs⟩
    | none =>
      have hlh := low_high hle
      rw [bld_none hg]
      have hno := nearTo_of hle
      rw [← hno]
      refine rBuildOut A l.length cap (latN l key) (lowOf (latN l key)) (highOf (latN l key) l.length - lowOf (latN l key)) key l w rfl hle (by omega) rfl (by omega) (fun h => ⟨latN_here l key h, fun e => ?_⟩) hc (fun k h hk => latN_less l key k h hk) (Lib.hid HI) (Lib.hid fun k hk W hW => hp (lowOf (latN l key) + k) (by omega) W hW)
      rcases latN_parts hu key with ⟨h1, _⟩ | ⟨_, h2, _⟩ | ⟨_, _, h3, _⟩
      · omega
      · exact h2 e
      · rw [h3] at hg; cases hg
  · rw [decide_eq_false hu] at HI
    have e0 : bldAny l key = Pf.zero := if_neg hu
    rw [e0]
    refine (rBuildNo A l.length cap key w (Lib.hid HI)).mono ?_
    rintro e w' ⟨rfl, hs⟩
    exact ⟨_, rfl, Prf.zero w', hs⟩
end Go.Proofs.YtkinnlfjcmhcoaaDoor.W
