/-
  proof.Build, for every list of pairs and every key.
-/
import Derived.Test.YtkinnlfjcmhcoaaDoorZXOut
namespace Go.Proofs.YtkinnlfjcmhcoaaDoor.W
open Go.RowKit

open Classical in
/-- what is built of any list -/
noncomputable def bldAny (l : List KV) (key : ByteArray) : Pf := if Up l then bld l key else Pf.zero
set_option maxRecDepth 100000 in
theorem buildC (v : Value) (l : List KV) (key : ByteArray) (w : World) (hP : Prs w v l) (hr : Roots w) (hz : l.length ≤ 1000000) :
    Calls Tryd.prog 11 #[v, .string key] w fun e w' => ∃ u, e = .returned u ∧ Prf w' u (bldAny l key) ∧ Since w w' := by
  have hP0 := hP
  obtain ⟨A, cap, rfl, hcap, hc⟩ := hP0
  have HI : ∀ W, Since w W → Calls Tryd.prog 29 #[.slice A l.length cap] W fun e w' => e = .returned (.bool (decide (Up l))) ∧ Since W w' := fun W hW => increasingC _ l W (hP.below hW.below) (by omega)
  by_cases hu : Up l
  · rw [decide_eq_true hu] at HI
    have e0 : bldAny l key = bld l key := if_pos hu
    rw [e0]
    have H2 : ∀ W, BoxAt w (.slice A l.length cap) key W → Calls Tryd.prog 30 #[.int .i64 l.length, .func (.func 31) #[] #[.pointer (some ⟨w.heap.size, 0, none⟩), .pointer (some ⟨w.heap.size + 1, 0, none⟩)]] W fun e w' => e = .returned (.int .i64 (latN l key)) ∧ Since W w' :=
      fun W hW => searchAt _ _ A cap l key W hu (by omega) (hP.below hW.s.below) (hW.l.c 0 rfl) (hW.k.c 0 rfl)
    have H3 : ∀ W, Since w W → Calls Tryd.prog 32 #[.slice A l.length cap] W fun e w' => ∃ u, e = .returned u ∧ OwnStrs W.heap.size u (bss (lv l)) W w' := fun W hW => leavesC _ l W (hP.below hW.below) (roots_since hr hW) hz
    cases hg : lget l key with
    | some x =>
      have hat := lat_some hu hg
      obtain ⟨hlt, hel⟩ := List.getElem?_eq_some_iff.1 hat
      obtain ⟨b, off, rfl, c0, _⟩ := hc (latN l key) hlt
      rw [hel] at c0
      rw [bld_some hg]
      refine (buildIn (some ⟨b, off, none⟩) l.length cap (latN l key) key (bss (lv l)) (bss (pth l (latN l key))) b off w rfl hlt c0 (Lib.hid HI) (Lib.hid H2) (Lib.hid H3) (Lib.hid fun W u hW hT hR => pathOfC _ l u (latN l key) W rfl hlt hT hR (roots_since hr hW) hz)).mono ?_
      rintro e w' ⟨pv, rfl, ⟨g, pu, rfl, hB, hT, hR⟩, hs⟩
      exact ⟨_, rfl, ⟨_, _, rfl, Prs.nil _ _ _, pths_one hB hT hR⟩, hs⟩
    | none =>
      have hle := lat_le (l := l) (key := key)
      have hlh := low_high hle
      have hnl := nearOf_len hle
      obtain ⟨A', hs3, hPn⟩ := prs_lhm hP (lowOf (latN l key)) (highOf (latN l key) l.length) hlh.1 hlh.2.1
      have em : highOf (latN l key) l.length - lowOf (latN l key) = (nearOf l (latN l key)).length := hnl.symm
      have el : highOf (latN l key) l.length = lowOf (latN l key) + (nearOf l (latN l key)).length := by omega
      rw [em] at hs3 hPn
      obtain ⟨A'', hs4⟩ := run_none' A' (nearOf l (latN l key)).length (nearOf l (latN l key)).length
      rw [bld_none hg]
      have e1 : pathsOf l (lowOf (latN l key)) (highOf (latN l key) l.length - lowOf (latN l key)) = pathsOf l (lowOf (latN l key)) (nearOf l (latN l key)).length := by rw [em]
      rw [e1]
      refine (buildOut A l.length cap (latN l key) (lowOf (latN l key)) (nearOf l (latN l key)).length key l (nearOf l (latN l key)) w hle hz (by omega) (by omega) rfl A' A'' ?_ (by rw [← el]; exact hs3) hs4.1 (fun hne => hs4.2 ?_) (Lib.hid fun W hW => hPn.below hW.below) (Lib.hid HI) (Lib.hid H2) (Lib.hid H3) (Lib.hid fun W u k hk hW hT => pathOfC _ l u (lowOf (latN l key) + k) W rfl (by omega) hT.1 hT.2 (roots_since hr hW) hz) (Lib.hid fun W => ?_)).mono ?_
      · rcases Nat.lt_or_ge (latN l key) l.length with hlt | hge
        · right
          obtain ⟨b, off, rfl, c0, _⟩ := hc (latN l key) hlt
          refine ⟨b, off, _, rfl, hlt, c0, str_ne fun e => ?_⟩
          rcases latN_parts hu key with ⟨h1, _⟩ | ⟨_, h2, _⟩ | ⟨_, _, h3, _⟩
          · omega
          · exact h2 e
          · rw [h3] at hg; cases hg
        · exact .inl (by omega)
      · obtain ⟨A0, c0, e, _, hcn⟩ := hPn
        obtain ⟨b, off, e2, _⟩ := hcn 0 (List.length_pos_iff.2 hne)
        cases e
        exact ⟨_, e2⟩
      · have h1 := sidesC (latN l key) l.length W (by omega) (by omega) (by omega)
        have e2 : sLo (latN l key) = (lowOf (latN l key) : Nat) := by unfold sLo lowOf; split <;> omega
        have e3 : sHi (latN l key) l.length = ((lowOf (latN l key) + (nearOf l (latN l key)).length : Nat) : Int) := by
          rw [← el]
          unfold sHi highOf
          split <;> split <;> omega
        rw [e2, e3] at h1
        exact h1
      · rintro e w' ⟨u, rfl, h1, h2⟩
        exact ⟨u, rfl, h1, h2⟩
  · rw [decide_eq_false hu] at HI
    have e0 : bldAny l key = Pf.zero := if_neg hu
    rw [e0]
    refine (buildNo A l.length cap key w (Lib.hid HI)).mono ?_
    rintro e w' ⟨rfl, hs⟩
    exact ⟨_, rfl, Prf.zero w', hs⟩
end Go.Proofs.YtkinnlfjcmhcoaaDoor.W
