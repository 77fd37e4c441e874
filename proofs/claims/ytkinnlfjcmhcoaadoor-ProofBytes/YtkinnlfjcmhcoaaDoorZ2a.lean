/-
  footbridgelaw12.awake answers true: the calls of its examples.
-/
import Derived.Test.YtkinnlfjcmhcoaaDoorZXAwk
import Derived.Test.YtkinnlfjcmhcoaaDoorZ0e
import Derived.Test.YtkinnlfjcmhcoaaDoorZ0f
import Derived.Test.YtkinnlfjcmhcoaaDoorZ0d
namespace Go.Proofs.YtkinnlfjcmhcoaaDoor.W
open Go.RowKit

theorem prs_ac {W : World} {g : Nat} (h : lBlk W g) : Prs W (.slice (some ⟨g, 0, none⟩) 2 2) exL := by
  refine ⟨_, 2, rfl, Nat.le_refl _, fun i hi => ?_⟩
  match i, hi with
  | 0, _ => exact ⟨_, 0, rfl, h.cell 0, h.cell 1⟩
  | 1, _ => exact ⟨_, 0, rfl, h.cell 2, h.cell 3⟩
/-- what a proof's value looks like -/
theorem prf_form {w : World} {v : Value} {n pos : Int} {t : Bool} {near : List KV} {paths : List (List (List UInt8))} {a b : Nat} (ha : near.length = a) (hb : paths.length = b) (h : Prf w v ⟨n, pos, t, near, paths⟩) : ∃ A1 c1 A2 c2, v = pv5 n pos t A1 a c1 A2 b c2 := by
  subst ha hb
  obtain ⟨nv, pv, rfl, ⟨A1, c1, rfl, _, _⟩, ⟨A2, c2, rfl, _, _⟩⟩ := h
  exact ⟨A1, c1, A2, c2, rfl⟩
theorem any_up {l : List KV} {key : ByteArray} (h : Up l) : bldAny l key = bld l key := by unfold bldAny; rw [if_pos h]
theorem plain_b : Plain (bld exL ⟨#[98]⟩) := plain_bld (by decide) (by decide +kernel)
theorem small_c : ∀ q ∈ (bld exL ⟨#[99]⟩).paths, q.length ≤ 1000000 ∧ ∀ y ∈ q, y.length ≤ 1000 := by rw [ex_c]; decide +kernel
theorem small_b : ∀ q ∈ (bld exL ⟨#[98]⟩).paths, q.length ≤ 1000000 ∧ ∀ y ∈ q, y.length ≤ 1000 := by
  intro q hq
  rw [bld_none get_b] at hq
  simp only at hq
  obtain ⟨i, rfl⟩ : ∃ i, q = pth exL i := by
    unfold pathsOf at hq
    rw [List.mem_map] at hq
    obtain ⟨i, _, rfl⟩ := hq
    exact ⟨_, rfl⟩
  obtain ⟨h1, h2⟩ := pth_len _ exL i rfl (by decide)
  exact ⟨Nat.le_trans h1 (by decide), fun y hy => Nat.le_trans (h2 y hy) (by decide)⟩
theorem near_b : (bld exL ⟨#[98]⟩).near.length = 2 ∧ (bld exL ⟨#[98]⟩).paths.length = 2 := by
  obtain ⟨near, paths, h, rfl, h2⟩ := ex_b
  rw [h]
  exact ⟨rfl, h2⟩
/-- a step of the walk -/
theorem two_steps {V W w' : World} (h1 : Since V W) (h2 : Since W w') : Since V w' := since_of (step_below h1.below h2.below)
theorem awk12 (V : World) (hr : Roots V)
    (RD : ∀ (s : ByteArray) (w : World), s.size ≤ 9223372036854775807 → Calls Tryd.prog 20 #[.string s] w fun e w' => ∃ v, e = .returned (.tuple #[v, .int .i64 (rdPf s).2]) ∧ Prf w' v (rdPf s).1 ∧ Since w w') :
    Aw12 V (bld exL ⟨#[98]⟩) (bld exL ⟨#[99]⟩) (bld [] ⟨#[98]⟩) (rootOf exL) (rootOf []) (bs (pfBytes (bld exL ⟨#[98]⟩))) where
  bx W g hW hB := (buildC _ exL ⟨#[98]⟩ W (prs_ac hB) (roots_since hr hW) (by decide)).mono fun e w' ⟨u, he, hp, hs⟩ => by
    rw [any_up up_ac] at hp
    obtain ⟨near, paths, h, rfl, h2⟩ := ex_b
    have hp' := hp
    rw [h] at hp'
    obtain ⟨A1, c1, A2, c2, rfl⟩ := prf_form rfl h2 hp'
    exact ⟨A1, c1, A2, c2, he, hp, two_steps hW hs, hs⟩
  by_ W g hW hB := (buildC _ exL ⟨#[99]⟩ W (prs_ac hB) (roots_since hr hW) (by decide)).mono fun e w' ⟨u, he, hp, hs⟩ => by
    rw [any_up up_ac] at hp
    have hp' := hp
    rw [ex_c] at hp'
    obtain ⟨A1, c1, A2, c2, rfl⟩ := prf_form rfl rfl hp'
    exact ⟨A1, c1, A2, c2, he, hp, two_steps hW hs, hs⟩
  bz W hW := (buildC _ [] ⟨#[98]⟩ W (Prs.nil W none 0) (roots_since hr hW) (by decide)).mono fun e w' ⟨u, he, hp, hs⟩ => by
    rw [any_up .nil] at hp
    have hp' := hp
    rw [ex_0] at hp'
    obtain ⟨A1, c1, A2, c2, rfl⟩ := prf_form rfl rfl hp'
    exact ⟨A1, c1, A2, c2, he, hp, two_steps hW hs, hs⟩
  r W g hW hB := (rootC exL _ W (prs_ac hB) (roots_since hr hW) (by decide)).mono fun _ _ ⟨he, hb⟩ => ⟨he, since_of (step_below hW.below hb), since_of hb⟩
  r0 W hW := (rootC [] _ W (Prs.nil W none 0) (roots_since hr hW) (by decide)).mono fun _ _ ⟨he, hb⟩ => ⟨he, since_of (step_below hW.below hb), since_of hb⟩
  put W v hW hP := (putC _ v W hP (by rw [near_b.1]; omega) (by rw [near_b.2]; omega) (fun q hq => (small_b q hq).1)).mono fun e w' ⟨he, hs⟩ => ⟨by rw [he, enc_plain plain_b]; rfl, two_steps hW hs, hs⟩
  rd W hW := (RD _ W (by rw [bs_size]; have := plain_len plain_b; omega)).mono fun e w' ⟨v, he, hp, hs⟩ => by
    have hb := rd_back plain_b []
    rw [List.append_nil, if_pos rfl] at hb
    rw [hb] at he hp
    obtain ⟨near, paths, h, rfl, h2⟩ := ex_b
    have hp' := hp
    rw [h] at hp'
    obtain ⟨A1, c1, A2, c2, rfl⟩ := prf_form rfl h2 hp'
    exact ⟨A1, c1, A2, c2, he, hp, two_steps hW hs, hs⟩
  rx W hW := by
    rw [show (⟨#[120]⟩ : ByteArray) = bs [120] from rfl, bs_append]
    refine (RD _ W (by rw [bs_size, List.length_append]; have := plain_len plain_b; show _ + 1 ≤ _; omega)).mono fun e w' ⟨v, he, hp, hs⟩ => ?_
    have hb := rd_back plain_b [120]
    rw [if_neg (by simp)] at hb
    rw [hb] at he hp
    obtain ⟨A1, c1, A2, c2, rfl⟩ := prf_form rfl rfl hp
    exact ⟨A1, c1, A2, c2, he, two_steps hW hs, hs⟩
  lb W v hW hP := (lacksC (rootOf exL) ⟨#[98]⟩ _ v W hP (roots_since hr hW) (by obtain ⟨near, paths, h, _⟩ := ex_b; rw [h]; show (2 : Int) ≤ _; omega) small_b).mono fun e w' ⟨he, hs⟩ => ⟨by rw [he, lacks_yes], two_steps hW hs, hs⟩
  la W v hW hP := (lacksC (rootOf exL) ⟨#[97]⟩ _ v W hP (roots_since hr hW) (by obtain ⟨near, paths, h, _⟩ := ex_b; rw [h]; show (2 : Int) ≤ _; omega) small_b).mono fun e w' ⟨he, hs⟩ => ⟨by rw [he, lacks_no], two_steps hW hs, hs⟩
  lz W v hW hP := (lacksC (rootOf []) ⟨#[98]⟩ _ v W hP (roots_since hr hW) (by rw [ex_0]; decide) (by rw [ex_0]; intro q hq; cases hq)).mono fun e w' ⟨he, hs⟩ => ⟨by rw [he, lacks_none], two_steps hW hs, hs⟩
  hc W v hW hP := (hasC (rootOf exL) exC _ v W hP (roots_since hr hW) (by rw [ex_c]; decide) small_c).mono fun e w' ⟨he, hs⟩ => ⟨by rw [he, has_yes], two_steps hW hs, hs⟩
  ha W v hW hP := (hasC (rootOf exL) exA _ v W hP (roots_since hr hW) (by rw [ex_c]; decide) small_c).mono fun e w' ⟨he, hs⟩ => ⟨by rw [he, has_no], two_steps hW hs, hs⟩
  sm W a b hW hP hQ := (samePf a b _ W hP hQ (by rw [near_b.1]; omega) (by rw [near_b.2]; omega) (fun q hq => Nat.le_trans (small_b q hq).1 (by omega))).mono fun e w' ⟨he, hs⟩ => ⟨he, two_steps hW hs, hs⟩
theorem awake12 (w : World) (hr : Roots w)
    (RD : ∀ (s : ByteArray) (w : World), s.size ≤ 9223372036854775807 → Calls Tryd.prog 20 #[.string s] w fun e w' => ∃ v, e = .returned (.tuple #[v, .int .i64 (rdPf s).2]) ∧ Prf w' v (rdPf s).1 ∧ Since w w') :
    Calls Tryd.prog 9 #[] w fun e w' => e = .returned (.bool true) ∧ Since w w' :=
  awake_this w _ _ _ _ _ _ (by rw [bs_size]; have := plain_len plain_b; omega) fun V hV => awk12 V (roots_since hr hV) RD
end Go.Proofs.YtkinnlfjcmhcoaaDoor.W
