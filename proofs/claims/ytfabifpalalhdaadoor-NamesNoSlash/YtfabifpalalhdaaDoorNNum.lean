/-
  Package names: Number, for every kind and every string of at most a million bytes.
-/
import Derived.Test.YtfabifpalalhdaaDoorNProg
namespace Go.Proofs.YtfabifpalalhdaaDoor.W
open Go.RowKit

/-- Number's answer -/
def nmV (k : Int) (l : List UInt8) : Value := .tuple #[.int .i64 (nmN k l), .int .i64 (nmE k l)]
theorem nmV_arg {k : Int} (h : wd k = []) (l : List UInt8) : nmV k l = .tuple #[.int .i64 0, .int .i64 1] := by
  obtain ⟨h1, h2⟩ := nm_none h l
  rw [nmV, h1, h2]
theorem nmV_no {k : Int} {l : List UInt8} (hw : wd k ≠ []) (h : ∀ n, mkE k n = 0 → mkS k n ≠ l) : nmV k l = .tuple #[.int .i64 0, .int .i64 7] := by
  obtain ⟨h1, h2⟩ := nm_no hw h
  rw [nmV, h1, h2]
theorem nmV_yes {k n : Int} {l : List UInt8} (h1 : mkE k n = 0) (h2 : mkS k n = l) : nmV k l = .tuple #[.int .i64 n, .int .i64 0] := by
  obtain ⟨h1, h2⟩ := nm_yes h1 h2
  rw [nmV, h1, h2]
theorem cut_no (s : ByteArray) (k : Int) (h : ∀ d, s.data.toList ≠ wd k ++ d) (w : World) :
    Calls Tryd.prog 14 #[.string s, .string (bs (wd k))] w fun e w' => (∃ t, e = .returned (.tuple #[.string t, .bool false])) ∧ w = w' := by
  refine (cutPrefix s (bs (wd k)) w).mono ?_
  rintro e w' ⟨rfl, rfl⟩
  have : Lib.hasPrefix s.data.toList (wd k) = false := by
    unfold Lib.hasPrefix
    cases hp : (wd k).isPrefixOf s.data.toList with
    | false => rfl
    | true =>
      obtain ⟨d, hd⟩ := List.isPrefixOf_iff_prefix.mp hp
      exact absurd hd.symm (h d)
  rw [bs_data, this]
  exact ⟨⟨_, rfl⟩, rfl⟩
theorem cut_yes (s : ByteArray) (k : Int) (d : List UInt8) (h : s.data.toList = wd k ++ d) (w : World) :
    Calls Tryd.prog 14 #[.string s, .string (bs (wd k))] w fun e w' => e = .returned (.tuple #[.string (bs d), .bool true]) ∧ w = w' := by
  refine (cutPrefix s (bs (wd k)) w).mono ?_
  rintro e w' ⟨rfl, rfl⟩
  have hp : Lib.hasPrefix s.data.toList (wd k) = true := by
    unfold Lib.hasPrefix
    exact List.isPrefixOf_iff_prefix.mpr ⟨d, h.symm⟩
  have ht : Lib.trimPrefix s.data.toList (wd k) = d := by
    unfold Lib.trimPrefix
    rw [if_pos hp, h, List.drop_left]
  rw [bs_data, hp, ht]
  exact ⟨rfl, rfl⟩
/-- a name's digits, read -/
theorem name_digits {k n : Int} {d : List UInt8} (h1 : mkE k n = 0) (h2 : mkS k n = wd k ++ d) : Lib.atoiAll d = .ok n := by
  obtain ⟨e, h0, hn⟩ := mk_is h1 h2
  have : d = dec n.toNat := List.append_cancel_left e
  rw [this, atoi_dec _ (by omega)]
  congr 1
  omega
theorem no_none {k : Int} {l : List UInt8} (h : ∀ d, l ≠ wd k ++ d) : ∀ n, mkE k n = 0 → mkS k n ≠ l := by
  intro n h1 h2
  exact h _ (mk_is h1 h2).1
theorem no_bad {k : Int} {d : List UInt8} (h : ∀ v, Lib.atoiAll d ≠ .ok v) : ∀ n, mkE k n = 0 → mkS k n ≠ wd k ++ d := by
  intro n h1 h2
  exact h _ (name_digits h1 h2)
theorem no_other {k v : Int} {d : List UInt8} (hv : Lib.atoiAll d = .ok v) (h : ¬ (mkE k v = 0 ∧ mkS k v = wd k ++ d)) : ∀ n, mkE k n = 0 → mkS k n ≠ wd k ++ d := by
  intro n h1 h2
  have e := name_digits h1 h2
  rw [hv] at e
  injection e with e
  subst e
  exact h ⟨h1, h2⟩
theorem make_this (k v : Int) (q : ByteArray) (z : Int) (h1 : bs (mkS k v) = q) (h2 : mkE k v = z) (w : World) (hL : Lay w) :
    Calls Tryd.prog 11 #[.int .i64 k, .int .i64 v] w fun e w' => e = .returned (.tuple #[.string q, .int .i64 z]) ∧ Below w.heap.size w w' := by
  subst h1 h2
  exact make k v w hL

set_option maxHeartbeats 2000000 in
theorem number (k : Int) (s : ByteArray) (w : World) (hL : Lay w) (hs : s.size ≤ 1000000) :
    Calls Tryd.prog 7 #[.int .i64 k, .string s] w fun e w' => e = .returned (nmV k s.data.toList) ∧ Below w.heap.size w w' := by
  by_cases h : wd k = []
  · have HE := Lib.hid (nmV_arg h s.data.toList)
    have HP := Lib.hid (pref_no h)
    clear h
    go_enter Tryd.func7, Tryd.ntmps7
    go_wp2_with fail
    refine (HP.out w).mono ?_
    rintro e w1 ⟨rfl, rfl⟩
    go_wp2
    go_ret2
    exact ⟨by rw [HE.out]; rfl, Below.refl _ _⟩
  · have HP := Lib.hid (pref_yes h)
    have hw := wd_len k
    by_cases hd : ∃ d, s.data.toList = wd k ++ d
    · obtain ⟨d, hd⟩ := hd
      have hdl : d.length ≤ 1000000 := by
        have := congrArg List.length hd
        rw [List.length_append, size_list] at this
        omega
      have HC := Lib.hid (cut_yes s k d hd)
      by_cases ha : ∃ v, Lib.atoiAll d = .ok v
      · obtain ⟨v, hv⟩ := ha
        have HA := Lib.hid (atoi_ok (bs d) (by rw [bs_size]; exact hdl) v (by rw [bs_data]; exact hv))
        by_cases hm : mkE k v = 0 ∧ mkS k v = wd k ++ d
        · have HE := Lib.hid (nmV_yes hm.1 (hm.2.trans hd.symm))
          have HM := Lib.hid (make_this k v s 0 (by rw [hm.2, ← hd, bs_of]) hm.1)
          clear h hd hv hm
          go_enter Tryd.func7, Tryd.ntmps7
          go_wp2_with fail
          refine (HP.out w).mono ?_
          rintro e w1 ⟨rfl, rfl⟩
          go_wp2_with fail
          refine (HC.out w).mono ?_
          rintro e w1 ⟨rfl, rfl⟩
          go_wp2_with fail
          refine (HA.out w).mono ?_
          rintro e w1 ⟨rfl, b1⟩
          go_wp2_with fail
          refine (HM.out w1 (hL.next b1)).mono ?_
          rintro e w2 ⟨rfl, b2⟩
          replace b2 := step_below b1 b2
          go_wp2
          go_ret2
          exact ⟨by rw [HE.out]; rfl, b2⟩
        · have HE := Lib.hid (nmV_no (l := s.data.toList) h (by rw [hd]; exact no_other hv hm))
          by_cases hz : mkE k v = 0
          · have hne : bs (mkS k v) ≠ s := by
              intro e
              refine hm ⟨hz, ?_⟩
              rw [← hd, ← e, bs_data]
            have HM := Lib.hid (make_this k v (bs (mkS k v)) 0 rfl hz)
            generalize bs (mkS k v) = q at *
            replace hne := str_ne hne
            clear h hd hv hm hz
            go_enter Tryd.func7, Tryd.ntmps7
            go_wp2_with fail
            refine (HP.out w).mono ?_
            rintro e w1 ⟨rfl, rfl⟩
            go_wp2_with fail
            refine (HC.out w).mono ?_
            rintro e w1 ⟨rfl, rfl⟩
            go_wp2_with fail
            refine (HA.out w).mono ?_
            rintro e w1 ⟨rfl, b1⟩
            go_wp2_with fail
            refine (HM.out w1 (hL.next b1)).mono ?_
            rintro e w2 ⟨rfl, b2⟩
            replace b2 := step_below b1 b2
            go_wp2
            go_ret2
            exact ⟨by rw [HE.out]; rfl, b2⟩
          · have HM := Lib.hid (make_this k v (bs (mkS k v)) (mkE k v) rfl rfl)
            generalize bs (mkS k v) = q at *
            generalize mkE k v = z at *
            clear h hd hv hm
            go_enter Tryd.func7, Tryd.ntmps7
            go_wp2_with fail
            refine (HP.out w).mono ?_
            rintro e w1 ⟨rfl, rfl⟩
            go_wp2_with fail
            refine (HC.out w).mono ?_
            rintro e w1 ⟨rfl, rfl⟩
            go_wp2_with fail
            refine (HA.out w).mono ?_
            rintro e w1 ⟨rfl, b1⟩
            go_wp2_with fail
            refine (HM.out w1 (hL.next b1)).mono ?_
            rintro e w2 ⟨rfl, b2⟩
            replace b2 := step_below b1 b2
            go_wp2
            go_ret2
            exact ⟨by rw [HE.out]; rfl, b2⟩
      · have ha' : ∀ v, Lib.atoiAll d ≠ .ok v := fun v e => ha ⟨v, e⟩
        have HA := Lib.hid (atoi_bad (bs d) (by rw [bs_size]; exact hdl) (by rw [bs_data]; exact ha'))
        have HE := Lib.hid (nmV_no (l := s.data.toList) h (by rw [hd]; exact no_bad ha'))
        clear h hd ha ha'
        go_enter Tryd.func7, Tryd.ntmps7
        go_wp2_with fail
        refine (HP.out w).mono ?_
        rintro e w1 ⟨rfl, rfl⟩
        go_wp2_with fail
        refine (HC.out w).mono ?_
        rintro e w1 ⟨rfl, rfl⟩
        go_wp2_with fail
        refine (HA.out w hL).mono ?_
        rintro e w1 ⟨⟨n, t, p, rfl⟩, b1⟩
        go_wp2
        go_ret2
        exact ⟨by rw [HE.out]; rfl, b1⟩
    · have hd' : ∀ d, s.data.toList ≠ wd k ++ d := fun d e => hd ⟨d, e⟩
      have HC := Lib.hid (cut_no s k hd')
      have HE := Lib.hid (nmV_no h (no_none hd'))
      clear h hd hd'
      go_enter Tryd.func7, Tryd.ntmps7
      go_wp2_with fail
      refine (HP.out w).mono ?_
      rintro e w1 ⟨rfl, rfl⟩
      go_wp2_with fail
      refine (HC.out w).mono ?_
      rintro e w1 ⟨⟨t, rfl⟩, rfl⟩
      go_wp2
      go_ret2
      exact ⟨by rw [HE.out]; rfl, Below.refl _ _⟩
end Go.Proofs.YtfabifpalalhdaaDoor.W
