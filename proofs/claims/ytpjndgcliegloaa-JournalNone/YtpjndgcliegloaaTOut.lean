/-
  Package pairs: a tree without a key.
-/
import Derived.Test.YtpjndgcliegloaaTWith
import Derived.Deep.LoopGhost
namespace Go.Proofs.Ytpjndgcliegloaa.W
open Go.RowKit

theorem mergeNil (l : BT) (pl : Option Addr) (w : World) (hl : IsTree w pl l) : Calls Try.prog 52 #[.pointer pl, .pointer none] w (Makes l.list w) := by
  go_enter Try.func52, Try.ntmps52
  go_wp2
  go_ret
  exact ⟨_, _, rfl, hl, rfl, Below.refl _ _⟩

set_option maxHeartbeats 2000000 in
theorem mergeC (l r : BT) (pl : Option Addr) (b : Nat) (w : World) (hl : IsTree w pl l) (hr : IsTree w (some ⟨b, 0, none⟩) r) (hu : Up r.list) (hz : l.list.length + r.list.length < 4611686018427387904)
    (ih : ∀ k p w, IsTree w p r → Up r.list → r.list.length < 4611686018427387904 → Calls Try.prog 45 #[.pointer p, .string k] w (Makes (ldel r.list k) w)) :
    Calls Try.prog 52 #[.pointer pl, .pointer (some ⟨b, 0, none⟩)] w (Makes (l.list ++ r.list) w) := by
  have H1 := Lib.hid (fun k W (h : Since w W) => makesQ h (ih k (some ⟨b, 0, none⟩) W (hr.below h.below) hu (by omega)))
  have H2 := Lib.hid (fun W y (h : Since w W) p' t' (h1 : IsTree W p' t') (h2 : y :: t'.list = r.list) => makesQ h (balance l t' y pl p' W (hl.below h.below) h1 (by
    simp only [BT.list, List.length_append, List.length_cons]; rw [← List.length_cons (a := y), h2]; exact hz)))
  have H3 := Lib.hid (show ∀ (t' : BT) (y : KV), y :: t'.list = r.list → (BT.node l y t').list = l.list ++ r.list from fun t' y h => by simp only [BT.list, h])
  have H4 := Lib.hid (show ∀ (t' : BT) (y : KV) rest, r.list = y :: rest → t'.list = ldel r.list y.1 → y :: t'.list = r.list from fun t' y rest h k => by
    rw [k, h, ldel_cons_eq rfl, ldel_same]
    intro z hz
    have := up_mid (A := []) (h ▸ hu)
    exact (kc_ne (this.2.2.2.1 z hz)).symm)
  obtain ⟨n0, hn0⟩ : ∃ n0, n0 = r.list.length := ⟨_, rfl⟩
  have H0 := Lib.hid (show ∃ rest, r.list = r.list ++ rest from ⟨[], by simp⟩)
  have HR := Lib.hid (And.intro hr hn0)
  clear hl hr hu hz ih hn0
  go_enter Try.func52, Try.ntmps52
  go_wp2
  go_loopg [5] n0 (fun g v wr => wr = w ∧ ∃ c s, v = .pointer (some ⟨c, 0, none⟩) ∧ Hid (IsTree w (some ⟨c, 0, none⟩) s ∧ g = s.list.length ∧ ∃ rest, r.list = s.list ++ rest))
  case atStart => exact ⟨rfl, _, _, rfl, Lib.hid ⟨HR.out.1, HR.out.2, H0.out⟩⟩
  case round =>
    obtain ⟨rfl, c, s, rfl, HS⟩ := hrel
    obtain ⟨hT, hg, rest, hrest⟩ := HS.out
    clear HS
    cases s with
    | leaf => cases hT
    | node sl y sr =>
      obtain ⟨c', psl, psr, e0, hb, hsl, hsr⟩ := hT
      cases e0
      obtain ⟨c0, c1, c2, c3, _⟩ := node_cells hb
      obtain ⟨yk, yv⟩ := y
      simp only at *
      simp only [BT.list, List.length_append, List.length_cons] at hg hrest
      cases sl with
      | node a z d =>
        have hsl' := hsl
        obtain ⟨c5, p6, p7, rfl, _, _, _⟩ := hsl'
        have HS2 := Lib.hid (show IsTree wr (some ⟨c5, 0, none⟩) (BT.node a z d) ∧ (BT.node a z d).list.length = (BT.node a z d).list.length ∧ ∃ rest, r.list = (BT.node a z d).list ++ rest from ⟨hsl, rfl, _, by rw [hrest, List.append_assoc]⟩)
        have HG := Lib.hid (show (BT.node a z d).list.length < gk by omega)
        clear hb hsl hsr hg hrest
        go_wp2
        go_roundg (BT.node a z d).list.length
        case measure => exact HG.out
        case rel => exact ⟨rfl, _, _, rfl, Lib.hid ⟨HS2.out.1, rfl, HS2.out.2.2⟩⟩
      | leaf =>
        obtain rfl : psl = none := hsl
        have HE := Lib.hid (show r.list = (yk, yv) :: (sr.list ++ rest) by rw [hrest]; rfl)
        have s1 := Since.refl wr
        clear hb hsr hg hrest
        go_wp2
        go_region_held3 (fun w' => w'.cell? ⟨c, 1, none⟩ = some (.string yk) ∧ w'.cell? ⟨c, 2, none⟩ = some (.string yv))
          (first | go_keep | exact ⟨qJ _ _ c1, qJ _ _ c2⟩ | exact ⟨qK _ _ (qJ _ _ c1), qK _ _ (qJ _ _ c2)⟩)
          (first
            | (go_at_call 45; refine (H1.out _ _ (by exact s1)).mono ?_; clear H1; rintro en wJ ⟨p', t', rfl, tJ, lJ, bJ, qJ⟩)
            | (go_at_call 48; refine (H2.out _ (yk, yv) (by exact bJ) _ _ (by exact tJ) (by exact H4.out _ (yk, yv) _ HE.out lJ)).mono ?_; clear H2; rintro en wK ⟨p'', t'', rfl, tK, lK, bK, qK⟩))
        go_wp2
        go_ret
        exact ⟨_, _, rfl, tK, lK.trans (H3.out _ _ (H4.out _ (yk, yv) _ HE.out lJ)), bK.below⟩
set_option maxHeartbeats 2000000 in
theorem withoutLeft (l r : BT) (k : ByteArray) (y : KV) (b : Nat) (w : World) (hT : IsTree w (some ⟨b, 0, none⟩) (.node l y r)) (hu : Up (BT.node l y r).list) (hz : (BT.node l y r).list.length < 4611686018427387904) (hk : kc k y.1 = -1)
    (ih : ∀ k p w, IsTree w p l → Up l.list → l.list.length < 4611686018427387904 → Calls Try.prog 45 #[.pointer p, .string k] w (Makes (ldel l.list k) w)) :
    Calls Try.prog 45 #[.pointer (some ⟨b, 0, none⟩), .string k] w (Makes (ldel (BT.node l y r).list k) w) := by
  obtain ⟨b0, pl, pr, e0, hb, hl, hr⟩ := hT
  cases e0
  have HN := Lib.hid (node_cells hb)
  have hu' := up_mid hu
  simp only [BT.list, List.length_append, List.length_cons] at hz
  have H1 := Lib.hid (fun W (h : Since w W) => makesQ h (ih k pl W (hl.below h.below) hu'.1 (by omega)))
  have H2 := Lib.hid (fun W (h : Since w W) p' t' (h1 : IsTree W p' t') (h2 : t'.list = ldel l.list k) => makesQ h (balance t' r y p' pr W h1 (hr.below h.below) (by
    have := ldel_len (k := k) l.list
    simp only [BT.list, List.length_append, List.length_cons, h2]; omega)))
  have HL := Lib.hid (show ∀ t' : BT, t'.list = ldel l.list k → (BT.node t' y r).list = ldel (BT.node l y r).list k from fun t' h => by simp only [BT.list, h]; rw [ldel_left hu hk])
  have HC := Lib.hid (fun W => compareAs hk W)
  clear hb hu' hu hz ih hl hr hk
  obtain ⟨yk, yv⟩ := y
  simp only at *
  obtain ⟨c0, c1, c2, c3, _⟩ := HN.out
  have s1 := Since.refl w
  go_enter Try.func45, Try.ntmps45
  go_wp2_with fail
  refine (HC.out _).mono ?_
  rintro e w' ⟨rfl, rfl⟩
  go_wp2_with fail
  go_region_held3 (fun w' => w'.cell? ⟨b, 0, none⟩ = some (.pointer pl) ∧ w'.cell? ⟨b, 1, none⟩ = some (.string yk) ∧ w'.cell? ⟨b, 2, none⟩ = some (.string yv) ∧ w'.cell? ⟨b, 3, none⟩ = some (.pointer pr))
    (first | go_keep | exact ⟨qJ _ _ c0, qJ _ _ c1, qJ _ _ c2, qJ _ _ c3⟩ | exact ⟨qK _ _ (qJ _ _ c0), qK _ _ (qJ _ _ c1), qK _ _ (qJ _ _ c2), qK _ _ (qJ _ _ c3)⟩)
    (first
      | (go_at_call 45; refine (H1.out _ (by exact s1)).mono ?_; clear H1; rintro en wJ ⟨p', t', rfl, tJ, lJ, bJ, qJ⟩)
      | (go_at_call 48; refine (H2.out _ (by exact bJ) _ _ (by exact tJ) (by exact lJ)).mono ?_; clear H2; rintro en wK ⟨p'', t'', rfl, tK, lK, bK, qK⟩))
  go_wp2
  go_ret
  exact ⟨_, _, rfl, tK, lK.trans (HL.out _ lJ), bK.below⟩
set_option maxHeartbeats 2000000 in
theorem withoutRight (l r : BT) (k : ByteArray) (y : KV) (b : Nat) (w : World) (hT : IsTree w (some ⟨b, 0, none⟩) (.node l y r)) (hu : Up (BT.node l y r).list) (hz : (BT.node l y r).list.length < 4611686018427387904) (hk : kc k y.1 = 1)
    (ih : ∀ k p w, IsTree w p r → Up r.list → r.list.length < 4611686018427387904 → Calls Try.prog 45 #[.pointer p, .string k] w (Makes (ldel r.list k) w)) :
    Calls Try.prog 45 #[.pointer (some ⟨b, 0, none⟩), .string k] w (Makes (ldel (BT.node l y r).list k) w) := by
  obtain ⟨b0, pl, pr, e0, hb, hl, hr⟩ := hT
  cases e0
  have HN := Lib.hid (node_cells hb)
  have hu' := up_mid hu
  simp only [BT.list, List.length_append, List.length_cons] at hz
  have H1 := Lib.hid (fun W (h : Since w W) => makesQ h (ih k pr W (hr.below h.below) hu'.2.1 (by omega)))
  have H2 := Lib.hid (fun W (h : Since w W) p' t' (h1 : IsTree W p' t') (h2 : t'.list = ldel r.list k) => makesQ h (balance l t' y pl p' W (hl.below h.below) h1 (by
    have := ldel_len (k := k) r.list
    simp only [BT.list, List.length_append, List.length_cons, h2]; omega)))
  have HL := Lib.hid (show ∀ t' : BT, t'.list = ldel r.list k → (BT.node l y t').list = ldel (BT.node l y r).list k from fun t' h => by simp only [BT.list, h]; rw [ldel_right hu hk])
  have HC := Lib.hid (fun W => compareAs hk W)
  clear hb hu' hu hz ih hl hr hk
  obtain ⟨yk, yv⟩ := y
  simp only at *
  obtain ⟨c0, c1, c2, c3, _⟩ := HN.out
  have s1 := Since.refl w
  go_enter Try.func45, Try.ntmps45
  go_wp2_with fail
  refine (HC.out _).mono ?_
  rintro e w' ⟨rfl, rfl⟩
  go_wp2_with fail
  go_region_held3 (fun w' => w'.cell? ⟨b, 0, none⟩ = some (.pointer pl) ∧ w'.cell? ⟨b, 1, none⟩ = some (.string yk) ∧ w'.cell? ⟨b, 2, none⟩ = some (.string yv) ∧ w'.cell? ⟨b, 3, none⟩ = some (.pointer pr))
    (first | go_keep | exact ⟨qJ _ _ c0, qJ _ _ c1, qJ _ _ c2, qJ _ _ c3⟩ | exact ⟨qK _ _ (qJ _ _ c0), qK _ _ (qJ _ _ c1), qK _ _ (qJ _ _ c2), qK _ _ (qJ _ _ c3)⟩)
    (first
      | (go_at_call 45; refine (H1.out _ (by exact s1)).mono ?_; clear H1; rintro en wJ ⟨p', t', rfl, tJ, lJ, bJ, qJ⟩)
      | (go_at_call 48; refine (H2.out _ (by exact bJ) _ _ (by exact tJ) (by exact lJ)).mono ?_; clear H2; rintro en wK ⟨p'', t'', rfl, tK, lK, bK, qK⟩))
  go_wp2
  go_ret
  exact ⟨_, _, rfl, tK, lK.trans (HL.out _ lJ), bK.below⟩
set_option maxHeartbeats 2000000 in
theorem withoutHere (l r : BT) (k : ByteArray) (y : KV) (b : Nat) (w : World) (hT : IsTree w (some ⟨b, 0, none⟩) (.node l y r)) (hu : Up (BT.node l y r).list) (hz : (BT.node l y r).list.length < 4611686018427387904) (hk : kc k y.1 = 0)
    (ih : ∀ k p w, IsTree w p r → Up r.list → r.list.length < 4611686018427387904 → Calls Try.prog 45 #[.pointer p, .string k] w (Makes (ldel r.list k) w)) :
    Calls Try.prog 45 #[.pointer (some ⟨b, 0, none⟩), .string k] w (Makes (ldel (BT.node l y r).list k) w) := by
  obtain ⟨b0, pl, pr, e0, hb, hl, hr⟩ := hT
  cases e0
  have HN := Lib.hid (node_cells hb)
  have hu' := up_mid hu
  simp only [BT.list, List.length_append, List.length_cons] at hz
  have HL := Lib.hid (show ldel (BT.node l y r).list k = l.list ++ r.list by simp only [BT.list]; rw [ldel_here hu hk])
  have H1 : Hid (∀ W, Since w W → Calls Try.prog 52 #[.pointer pl, .pointer pr] W (MakesQ (l.list ++ r.list) w W)) := by
    refine Lib.hid fun W h => makesQ h ?_
    cases r with
    | leaf =>
      obtain rfl : pr = none := hr
      simp only [BT.list, List.append_nil]
      exact mergeNil l pl W (hl.below h.below)
    | node rl z rr =>
      have hr' := hr
      obtain ⟨b2, _, _, rfl, _⟩ := hr'
      exact mergeC l _ pl b2 W (hl.below h.below) (hr.below h.below) hu'.2.1 (by omega) ih
  have HC := Lib.hid (fun W => compareAs hk W)
  clear hb hu' hu hz ih hl hr hk
  obtain ⟨yk, yv⟩ := y
  simp only at *
  obtain ⟨c0, c1, c2, c3, _⟩ := HN.out
  have s1 := Since.refl w
  go_enter Try.func45, Try.ntmps45
  go_wp2_with fail
  refine (HC.out _).mono ?_
  rintro e w' ⟨rfl, rfl⟩
  go_wp2_with fail
  go_region_held3 (fun w' => w'.cell? ⟨b, 0, none⟩ = some (.pointer pl) ∧ w'.cell? ⟨b, 3, none⟩ = some (.pointer pr))
    (first | go_keep | exact ⟨qJ _ _ c0, qJ _ _ c3⟩)
    (first
      | (go_at_call 52; refine (H1.out _ (by exact s1)).mono ?_; clear H1; rintro en wJ ⟨p', t', rfl, tJ, lJ, bJ, qJ⟩))
  go_wp2
  go_ret
  exact ⟨_, _, rfl, tJ, lJ.trans HL.out.symm, bJ.below⟩
theorem withoutNil (k : ByteArray) (w : World) : Calls Try.prog 45 #[.pointer none, .string k] w (Makes [] w) := by
  go_enter Try.func45, Try.ntmps45
  go_wp2
  go_ret
  exact ⟨_, .leaf, rfl, rfl, rfl, Below.refl _ _⟩
theorem withoutC (t : BT) : ∀ k p w, IsTree w p t → Up t.list → t.list.length < 4611686018427387904 → Calls Try.prog 45 #[.pointer p, .string k] w (Makes (ldel t.list k) w) := by
  induction t with
  | leaf =>
    intro k p w hT _ _
    obtain rfl : p = none := hT
    exact withoutNil k w
  | node l y r ihl ihr =>
    intro k p w hT hu hz
    have hT' := hT
    obtain ⟨b, _, _, rfl, _⟩ := hT'
    rcases kc_cases k y.1 with h | h | h
    · exact withoutLeft l r k y b w hT hu hz h ihl
    · exact withoutHere l r k y b w hT hu hz h ihr
    · exact withoutRight l r k y b w hT hu hz h ihr
end Go.Proofs.Ytpjndgcliegloaa.W
