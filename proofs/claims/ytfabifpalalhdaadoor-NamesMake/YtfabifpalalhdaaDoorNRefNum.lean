/-
  The reference's Number and Check: they answer what names' do.
-/
import Derived.Test.YtfabifpalalhdaaDoorNRef
namespace Go.Proofs.YtfabifpalalhdaaDoor.W
open Go.RowKit

theorem no_short {k : Int} {l : List UInt8} (h : l.length ≤ (wd k).length ∨ (wd k).length + 13 < l.length) : ∀ n, mkE k n = 0 → mkS k n ≠ l := by
  intro n h1 h2
  obtain ⟨e, h0, hn⟩ := mk_is h1 h2
  have h3 := dec_pos n.toNat
  have h4 := dec_len n.toNat (by omega)
  have h5 := congrArg List.length e
  rw [List.length_append] at h5
  omega
theorem no_digit {k : Int} {d : List UInt8} {b : UInt8} (hb : b ∈ d) (h : b.toNat < 48 ∨ 57 < b.toNat) : ∀ n, mkE k n = 0 → mkS k n ≠ wd k ++ d := by
  intro n h1 h2
  obtain ⟨e, h0, hn⟩ := mk_is h1 h2
  have : d = dec n.toNat := List.append_cancel_left e
  rw [this] at hb
  have := dec_digit _ b hb
  omega
theorem no_value {k : Int} {m : Nat} {d : List UInt8} (hv : Lib.decFrom 0 d = some m) (h : ¬ (mkE k m = 0 ∧ mkS k m = wd k ++ d)) : ∀ n, mkE k n = 0 → mkS k n ≠ wd k ++ d := by
  intro n h1 h2
  obtain ⟨e, h0, hn⟩ := mk_is h1 h2
  have e2 : d = dec n.toNat := List.append_cancel_left e
  rw [e2, decFrom_dec] at hv
  injection hv with hv
  have : n = m := by omega
  subst this
  exact h ⟨h1, h2⟩
theorem rMake_this (k v : Int) (q : ByteArray) (z : Int) (h1 : bs (mkS k v) = q) (h2 : mkE k v = z) (w : World) :
    Calls Tryd.prog 12 #[.int .i64 k, .int .i64 v] w fun e w' => e = .returned (.tuple #[.string q, .int .i64 z]) ∧ Below w.heap.size w w' := by
  subst h1 h2
  exact rMake k v w

theorem ext_list (s : ByteArray) (m : Nat) : (s.extract 0 m).data.toList = s.data.toList.take m := by
  rw [ByteArray.data_extract]
  simp
theorem pre_yes {s q : ByteArray} (h : ((s.extract 0 q.size).toList == q.toList) = true) : ∃ d, s.data.toList = q.data.toList ++ d := by
  have e := congrArg (fun x : ByteArray => x.data.toList) (str_eq h)
  simp only [ext_list] at e
  exact ⟨s.data.toList.drop q.size, by rw [← e, List.take_append_drop]⟩
theorem pre_no {s q : ByteArray} (h : ((s.extract 0 q.size).toList == q.toList) = false) : ∀ d, s.data.toList ≠ q.data.toList ++ d := by
  intro d e
  have e2 : s.extract 0 q.size = q := by
    refine Go.WideShapes.bytes_inj ?_
    rw [ext_list, e, ← size_list q, List.take_left]
  rw [e2] at h
  simp at h
/-- the digits from q's end to p spell m -/
def DRel (s q : ByteArray) (p m : Nat) : Prop := Lib.decFrom 0 ((s.data.toList.take p).drop q.size) = some m
theorem DRel.start (s q : ByteArray) : DRel s q q.size 0 := by
  unfold DRel
  rw [List.drop_eq_nil_of_le (by rw [List.length_take]; omega)]
  rfl
theorem DRel.step {s q : ByteArray} {p m : Nat} (h : DRel s q p m) (hq : q.size ≤ p) (hp : p < s.size) (h1 : 48 ≤ s[p].toNat) (h2 : s[p].toNat ≤ 57) : DRel s q (p + 1) (m * 10 + (s[p].toNat - 48)) := by
  unfold DRel at h ⊢
  rw [take_snoc s p hp, List.drop_append_of_le_length (by rw [List.length_take, size_list]; omega), decFrom_append, h]
  simp only [Option.bind_some, Lib.decFrom, Lib.digitVal]
  rw [if_pos ⟨h1, h2⟩]
theorem DRel.lt {s q : ByteArray} {p m : Nat} (h : DRel s q p m) (hp : p ≤ q.size + 12) : m < 1000000000000 := by
  have h3 := Lib.decFrom_lt _ _ _ h
  have h4 : ((s.data.toList.take p).drop q.size).length ≤ 12 := by rw [List.length_drop, List.length_take]; omega
  have h5 := Nat.pow_le_pow_right (n := 10) (by omega) h4
  omega
theorem DRel.lt13 {s q : ByteArray} {p m : Nat} (h : DRel s q p m) (hp : p ≤ q.size + 13) : m < 10000000000000 := by
  have h3 := Lib.decFrom_lt _ _ _ h
  have h4 : ((s.data.toList.take p).drop q.size).length ≤ 13 := by rw [List.length_drop, List.length_take]; omega
  have h5 := Nat.pow_le_pow_right (n := 10) (by omega) h4
  omega
theorem DRel.all {s q : ByteArray} {m : Nat} {d : List UInt8} (h : DRel s q s.size m) (e : s.data.toList = q.data.toList ++ d) : Lib.decFrom 0 d = some m := by
  unfold DRel at h
  rw [List.take_of_length_le (by rw [size_list]; exact Nat.le_refl _), e, ← size_list q, List.drop_left] at h
  exact h
theorem mem_tail {s q : ByteArray} {d : List UInt8} (e : s.data.toList = q.data.toList ++ d) {p : Nat} (hq : q.size ≤ p) (hp : p < s.size) : s[p] ∈ d := by
  have h1 : s.data.toList[p]? = some s[p] := by
    rw [List.getElem?_eq_getElem (by rw [size_list]; exact hp)]
    rfl
  rw [e, List.getElem?_append_right (by rw [size_list]; exact hq)] at h1
  exact List.mem_of_getElem? h1

set_option maxHeartbeats 2000000 in
theorem rNumber (k : Int) (s : ByteArray) (w : World) :
    Calls Tryd.prog 8 #[.int .i64 k, .string s] w fun e w' => e = .returned (nmV k s.data.toList) ∧ Below w.heap.size w w' := by
  by_cases h : wd k = []
  · have HE := Lib.hid (nmV_arg h s.data.toList)
    have HW := Lib.hid (rWord_none h)
    have hem := str_none
    clear h
    go_enter Tryd.func8, Tryd.ntmps8
    go_wp2_with fail
    refine (HW.out w).mono ?_
    rintro e w1 ⟨rfl, rfl⟩
    go_wp2
    go_ret2
    exact ⟨by rw [HE.out]; rfl, Below.refl _ _⟩
  · have HW := Lib.hid (rWord k)
    have hw := wd_len k
    have hem := str_some (bs_ne h)
    have hqs := bs_size (wd k)
    have HQ := Lib.hid (bs_data (wd k))
    have hls := size_list s
    generalize bs (wd k) = q at *
    by_cases h1 : s.size ≤ q.size
    · have HE := Lib.hid (nmV_no (l := s.data.toList) h (no_short (.inl (by omega))))
      clear h hqs hls
      go_enter Tryd.func8, Tryd.ntmps8
      go_wp2_with fail
      refine (HW.out w).mono ?_
      rintro e w1 ⟨rfl, rfl⟩
      go_wp2
      go_ret2
      exact ⟨by rw [HE.out]; rfl, Below.refl _ _⟩
    · by_cases h2 : q.size + 13 < s.size
      · have HE := Lib.hid (nmV_no (l := s.data.toList) h (no_short (.inr (by omega))))
        have hq9 : q.size ≤ 11 := by omega
        clear h hqs hls
        go_enter Tryd.func8, Tryd.ntmps8
        go_wp2_with fail
        refine (HW.out w).mono ?_
        rintro e w1 ⟨rfl, rfl⟩
        go_wp2
        go_ret2
        exact ⟨by rw [HE.out]; rfl, Below.refl _ _⟩
      · have hq9 : q.size ≤ 11 := by omega
        clear hqs hls
        cases hp : ((s.extract 0 q.size).toList == q.toList) with
        | false =>
          have HE := Lib.hid (nmV_no (l := s.data.toList) h (no_none (by rw [← HQ.out]; exact pre_no hp)))
          clear h
          go_enter Tryd.func8, Tryd.ntmps8
          go_wp2_with fail
          refine (HW.out w).mono ?_
          rintro e w1 ⟨rfl, rfl⟩
          go_wp2
          go_ret2
          exact ⟨by rw [HE.out]; rfl, Below.refl _ _⟩
        | true =>
          obtain ⟨d, hd⟩ := pre_yes hp
          have HD := Lib.hid hd
          have hd2 : s.data.toList = wd k ++ d := by rw [← HQ.out]; exact hd
          have HD2 := Lib.hid hd2
          have HN := Lib.hid (fun H => nmV_no (l := s.data.toList) h H)
          clear h hd hd2
          go_enter Tryd.func8, Tryd.ntmps8
          go_wp2_with fail
          refine (HW.out w).mono ?_
          rintro e w1 ⟨rfl, rfl⟩
          go_wp2
          clear hp hem
          go_loop [7, 8] (fun v i => ∃ p m : Nat, v = .int .i64 m ∧ i = .int .i64 p ∧ q.size ≤ p ∧ p ≤ s.size ∧ Hid (DRel s q p m)) (fun _ i => s.size - (intOf i).toNat)
          case atStart => exact ⟨q.size, 0, rfl, rfl, Nat.le_refl _, by omega, Lib.hid (DRel.start s q)⟩
          case round =>
            obtain ⟨p, m, rfl, rfl, hqp, hps, HR⟩ := hrel
            by_cases hlt : p < s.size
            · have hb := s[p].toNat_lt
              have hm := HR.out.lt (by omega)
              by_cases c1 : s[p].toNat < 48
              · have HE := Lib.hid (HN.out (by rw [HD2.out]; exact no_digit (mem_tail HD.out hqp hlt) (.inl c1)))
                go_wp2
                go_ret2
                exact ⟨by rw [HE.out]; rfl, Below.refl _ _⟩
              · by_cases c2 : 57 < s[p].toNat
                · have HE := Lib.hid (HN.out (by rw [HD2.out]; exact no_digit (mem_tail HD.out hqp hlt) (.inr c2)))
                  go_wp2
                  go_ret2
                  exact ⟨by rw [HE.out]; rfl, Below.refl _ _⟩
                · have HR2 := Lib.hid (HR.out.step hqp hlt (by omega) (by omega))
                  go_wp2
                  go_round
                  case rel => exact ⟨p + 1, m * 10 + (s[p].toNat - 48), by go_num, by go_num, by omega, by omega, HR2⟩
                  case measure => simp [intOf]; omega
            · obtain rfl : p = s.size := by omega
              have hm := HR.out.lt13 (by omega)
              have hv := HR.out.all HD.out
              by_cases hm2 : mkE k m = 0 ∧ mkS k m = wd k ++ d
              · have HE := Lib.hid (nmV_yes hm2.1 (hm2.2.trans HD2.out.symm))
                have HM := Lib.hid (rMake_this k m s 0 (by rw [hm2.2, ← HD2.out, bs_of]) hm2.1)
                clear hv hm2
                go_wp2_with fail
                refine (HM.out w).mono ?_
                rintro e w2 ⟨rfl, b2⟩
                go_wp2
                go_ret2
                exact ⟨by rw [HE.out]; rfl, b2⟩
              · have HE := Lib.hid (HN.out (by rw [HD2.out]; exact no_value hv hm2))
                by_cases hz : mkE k m = 0
                · have hne : bs (mkS k m) ≠ s := by
                    intro e
                    refine hm2 ⟨hz, ?_⟩
                    rw [← HD2.out, ← e, bs_data]
                  have HM := Lib.hid (rMake_this k m (bs (mkS k m)) 0 rfl hz)
                  generalize bs (mkS k m) = y at *
                  replace hne := str_ne hne
                  clear hv hm2 hz
                  go_wp2_with fail
                  refine (HM.out w).mono ?_
                  rintro e w2 ⟨rfl, b2⟩
                  go_wp2
                  go_ret2
                  exact ⟨by rw [HE.out]; rfl, b2⟩
                · have HM := Lib.hid (rMake_this k m (bs (mkS k m)) (mkE k m) rfl rfl)
                  generalize bs (mkS k m) = y at *
                  generalize mkE k m = z at *
                  clear hv hm2
                  go_wp2_with fail
                  refine (HM.out w).mono ?_
                  rintro e w2 ⟨rfl, b2⟩
                  go_wp2
                  go_ret2
                  exact ⟨by rw [HE.out]; rfl, b2⟩

theorem rNumber_this (k : Int) (s : ByteArray) (a b : Int) (h1 : nmN k s.data.toList = a) (h2 : nmE k s.data.toList = b) (w : World) :
    Calls Tryd.prog 8 #[.int .i64 k, .string s] w fun e w' => e = .returned (.tuple #[.int .i64 a, .int .i64 b]) ∧ Below w.heap.size w w' := by
  subst h1 h2
  exact rNumber k s w
theorem rPlain_this (s : ByteArray) (hs : s.size ≤ 1000000) (b : Bool) (h : plain s.data.toList = b) (w : World) :
    Calls Tryd.prog 18 #[.string s] w fun e w' => e = .returned (.bool b) ∧ w = w' := by
  subst h
  exact rPlain s w hs
theorem ck_of_plain {k : Int} (h : wd k = []) (h1 : 0 ≤ k) (h2 : k ≤ 6) (l : List UInt8) : ck k l = if plain l then 0 else 7 := by
  rw [ck, if_neg (by omega), if_pos h]

set_option maxHeartbeats 1000000 in
theorem rCheck (k : Int) (s : ByteArray) (w : World) (hs : s.size ≤ 1000000) :
    Calls Tryd.prog 10 #[.int .i64 k, .string s] w fun e w' => e = .returned (.int .i64 (ck k s.data.toList)) ∧ Below w.heap.size w w' := by
  by_cases h0 : k < 0
  · have HE := Lib.hid (ck_arg (.inl h0) s.data.toList)
    go_enter Tryd.func10, Tryd.ntmps10
    go_wp2
    go_ret
    exact ⟨by rw [HE.out]; rfl, Below.refl _ _⟩
  · by_cases h6 : 6 < k
    · have HE := Lib.hid (ck_arg (.inr h6) s.data.toList)
      go_enter Tryd.func10, Tryd.ntmps10
      go_wp2
      go_ret
      exact ⟨by rw [HE.out]; rfl, Below.refl _ _⟩
    · by_cases h : wd k = []
      · have HW := Lib.hid (rWord_none h)
        have hem := str_none
        have HE := Lib.hid (ck_of_plain h (by omega) (by omega) s.data.toList)
        clear h
        cases hp : plain s.data.toList with
        | true =>
          have HP := Lib.hid (rPlain_this s hs true hp)
          have HZ := Lib.hid hp
          clear hp
          go_enter Tryd.func10, Tryd.ntmps10
          go_wp2_with fail
          refine (HW.out w).mono ?_
          rintro e w1 ⟨rfl, rfl⟩
          go_wp2_with fail
          refine (HP.out w).mono ?_
          rintro e w1 ⟨rfl, rfl⟩
          go_wp2
          go_ret
          exact ⟨by rw [HE.out, HZ.out]; rfl, Below.refl _ _⟩
        | false =>
          have HP := Lib.hid (rPlain_this s hs false hp)
          have HZ := Lib.hid hp
          clear hp
          go_enter Tryd.func10, Tryd.ntmps10
          go_wp2_with fail
          refine (HW.out w).mono ?_
          rintro e w1 ⟨rfl, rfl⟩
          go_wp2_with fail
          refine (HP.out w).mono ?_
          rintro e w1 ⟨rfl, rfl⟩
          go_wp2
          go_ret
          exact ⟨by rw [HE.out, HZ.out]; rfl, Below.refl _ _⟩
      · have HW := Lib.hid (rWord k)
        have hem := str_some (bs_ne h)
        have HE := Lib.hid (ck_num h s.data.toList)
        have HN := Lib.hid (rNumber_this k s _ _ rfl rfl)
        generalize nmN k s.data.toList = a at *
        generalize nmE k s.data.toList = b at *
        generalize bs (wd k) = q at *
        clear h
        go_enter Tryd.func10, Tryd.ntmps10
        go_wp2_with fail
        refine (HW.out w).mono ?_
        rintro e w1 ⟨rfl, rfl⟩
        go_wp2_with fail
        refine (HN.out w).mono ?_
        rintro e w1 ⟨rfl, b1⟩
        go_wp2
        go_ret
        exact ⟨by rw [HE.out]; rfl, b1⟩
end Go.Proofs.YtfabifpalalhdaaDoor.W
