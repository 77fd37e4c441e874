/-
  The reference's Split: it answers what path.Split does.
-/
import Derived.Test.YtjmbbkjepgahgaaDoorPRefRd
namespace Go.Proofs.YtjmbbkjepgahgaaDoor.W
open Go.RowKit

/-- what Split has read at place i, the last piece beginning at f -/
def SpRel (s : List UInt8) (i f : Nat) (all : List (List UInt8)) : Prop :=
  ∃ done, shs done = some all ∧ ((i ≤ s.length ∧ f ≤ i ∧ pcs s = done ++ pcs (s.drop f) ∧ ns ((s.drop f).take (i - f))) ∨ (i = s.length + 1 ∧ pcs s = done))
theorem SpRel.start (s : List UInt8) : SpRel s 0 0 [] := ⟨[], rfl, .inl ⟨Nat.zero_le _, Nat.le_refl _, rfl, by simpa using ns_nil⟩⟩
theorem piece_next (s : ByteArray) (i f : Nat) (hf : f ≤ i) (hi : i < s.size) : (s.data.toList.drop f).take (i + 1 - f) = (s.data.toList.drop f).take (i - f) ++ [s[i]] := by
  rw [show i + 1 - f = (i - f) + 1 by omega, List.take_succ_eq_append_getElem (by rw [List.length_drop, size_list]; omega)]
  congr 2
  simp only [List.getElem_drop, show f + (i - f) = i by omega]
  rfl
theorem SpRel.facts {s : ByteArray} {i f : Nat} {all : List (List UInt8)} (h : SpRel s.data.toList i f all) (hi : i ≤ s.size) : f ≤ i := by
  obtain ⟨done, -, ⟨_, h2, _⟩ | ⟨h1, _⟩⟩ := h
  · exact h2
  · rw [size_list] at h1; omega
theorem SpRel.skip {s : ByteArray} {i f : Nat} {all : List (List UInt8)} (h : SpRel s.data.toList i f all) (hi : i < s.size) (hb : s[i] ≠ 47) : SpRel s.data.toList (i + 1) f all := by
  obtain ⟨done, h1, ⟨h2, h3, h4, h5⟩ | ⟨h2, _⟩⟩ := h
  · refine ⟨done, h1, .inl ⟨by rw [size_list]; omega, by omega, h4, ?_⟩⟩
    rw [piece_next s i f h3 hi]
    intro b hbm
    rcases List.mem_append.mp hbm with hbm | hbm
    · exact h5 b hbm
    · rw [List.mem_singleton] at hbm; rw [hbm]; exact hb
  · rw [size_list] at h2; omega
/-- the piece that ends at i -/
theorem SpRel.piece {s : ByteArray} {i f : Nat} {all : List (List UInt8)} (h : SpRel s.data.toList i f all) (hi : i ≤ s.size) (hb : ∀ h : i < s.size, s[i] = 47) :
    ∃ done rest, shs done = some all ∧ pcs s.data.toList = done ++ (s.data.toList.drop f).take (i - f) :: rest ∧ ns ((s.data.toList.drop f).take (i - f)) ∧ (i < s.size → rest = pcs (s.data.toList.drop (i + 1))) ∧ (i = s.size → rest = []) := by
  obtain ⟨done, h1, ⟨h2, h3, h4, h5⟩ | ⟨h2, _⟩⟩ := h
  · have hd : s.data.toList.drop f = (s.data.toList.drop f).take (i - f) ++ s.data.toList.drop i := by
      have := List.take_append_drop (i - f) (s.data.toList.drop f)
      rw [List.drop_drop, show f + (i - f) = i by omega] at this
      exact this.symm
    by_cases hlt : i < s.size
    · refine ⟨done, pcs (s.data.toList.drop (i + 1)), h1, ?_, h5, fun _ => rfl, fun e => by omega⟩
      rw [h4]
      congr 1
      conv => lhs; rw [hd]
      rw [drop_cons s i hlt, hb hlt, pcs_slash _ h5]
    · refine ⟨done, [], h1, ?_, h5, fun e => absurd e hlt, fun _ => rfl⟩
      rw [h4]
      congr 1
      conv => lhs; rw [hd]
      rw [List.drop_eq_nil_of_le (i := i) (by rw [size_list]; omega), List.append_nil, pcs_ns _ h5]
  · rw [size_list] at h2; omega
theorem SpRel.some {s : ByteArray} {i f : Nat} {all : List (List UInt8)} (h : SpRel s.data.toList i f all) (hi : i ≤ s.size) (hb : ∀ h : i < s.size, s[i] = 47) {t : List UInt8} (ht : shw ((s.data.toList.drop f).take (i - f)) = some t) :
    SpRel s.data.toList (i + 1) (i + 1) (all ++ [t]) := by
  obtain ⟨done, rest, h1, h2, h3, h4, h5⟩ := h.piece hi hb
  refine ⟨done ++ [(s.data.toList.drop f).take (i - f)], by rw [shs_snoc, h1]; simp [shs, ht], ?_⟩
  by_cases hlt : i < s.size
  · refine .inl ⟨by rw [size_list]; omega, Nat.le_refl _, ?_, by rw [Nat.sub_self, List.take_zero]; exact ns_nil⟩
    rw [h2, h4 hlt]
    simp
  · refine .inr ⟨by rw [size_list]; omega, ?_⟩
    rw [h2, h5 (by omega)]
theorem SpRel.none {s : ByteArray} {i f : Nat} {all : List (List UInt8)} (h : SpRel s.data.toList i f all) (hi : i ≤ s.size) (hb : ∀ h : i < s.size, s[i] = 47) (ht : shw ((s.data.toList.drop f).take (i - f)) = none) :
    ¬ isKey s.data.toList := by
  obtain ⟨done, rest, h1, h2, -⟩ := h.piece hi hb
  intro hk
  have e := shs_key hk
  rw [h2, shs_snoc, h1, shs, ht] at e
  cases e
theorem SpRel.all {s : ByteArray} {f : Nat} {all : List (List UInt8)} (h : SpRel s.data.toList (s.size + 1) f all) : isKey s.data.toList ∧ txt s.data.toList = all := by
  obtain ⟨done, h1, ⟨h2, _⟩ | ⟨_, h2⟩⟩ := h
  · rw [size_list] at h2; omega
  · by_cases hk : isKey s.data.toList
    · have e := shs_key hk
      rw [h2, h1] at e
      injection e with e
      exact ⟨hk, e.symm⟩
    · have e := shs_none hk
      rw [h2, h1] at e
      cases e
theorem sum_une : ∀ (r : List (List UInt8)), ((r.map une).map List.length).sum ≤ (r.map List.length).sum
  | [] => by simp
  | p :: r => by
    have h := sum_une r
    have h1 := une_len p
    simp only [List.map_cons, List.sum_cons]
    omega
theorem tot_txt {s wd : ByteArray} {ps : List ByteArray} (h : txt s.data.toList = wd.data.toList :: ps.map (·.data.toList)) : tot wd ps ≤ s.size := by
  obtain ⟨p, r, hp⟩ := pcs_form s.data.toList
  obtain ⟨g, -, -⟩ := glue_pcs s.data.toList p r hp
  have hl := glue_len r p
  rw [g, size_list] at hl
  rw [txt, hp, List.map_cons, List.cons.injEq] at h
  have h1 := une_len p
  have h2 := sum_une r
  rw [h.1, size_list] at h1
  rw [h.2, sum_sizes] at h2
  have h3 := congrArg List.length h.2
  rw [List.length_map, List.length_map] at h3
  unfold tot
  omega
theorem ext_data (s : ByteArray) (f i : Nat) : (s.extract f i).data.toList = (s.data.toList.drop f).take (i - f) := by
  rw [ByteArray.data_extract, Array.toList_extract, List.extract_eq_take_drop]

set_option maxHeartbeats 2000000 in
set_option maxRecDepth 100000 in
theorem rSplit (s : ByteArray) (w : World) (hs : s.size ≤ 5000000) :
    Calls Tryd.prog 8 #[.string s] w (SplitPost s w) := by
  go_enter Tryd.func8, Tryd.ntmps8
  go_wp2
  go_loopw [5, 6, 7] (fun v f i wr => ∃ (k g : Nat) (all : List ByteArray), k ≤ s.size + 1 ∧ f = .int .i64 g ∧ i = .int .i64 k ∧ all.length ≤ k ∧ Hid (SpRel s.data.toList k g (all.map (·.data.toList))) ∧ OwnStrs w.heap.size v all w wr) (fun _ _ i _ => s.size + 1 - (intOf i).toNat)
  case atStart => exact ⟨0, 0, [], Nat.zero_le _, rfl, rfl, by simp, Lib.hid (SpRel.start _), OwnStrs_nil w⟩
  case round =>
    obtain ⟨k, g, all, hk, rfl, rfl, hal, hrel, hown⟩ := hrel
    by_cases hle : k ≤ s.size
    · have hki : (k : Int) ≤ (s.size : Int) := by omega
      have hg := hrel.out.facts hle
      by_cases hsk : ∃ h : k < s.size, s[k] ≠ 47
      · obtain ⟨hlt, hb⟩ := hsk
        have hki2 : (k : Int) < (s.size : Int) := by omega
        have hlt8 := s[k].toNat_lt
        have q1 : ((s[k].toNat : Int) != 47) = true := by rw [bne_iff_ne]; exact fun e => hb (u8_eq (n := 47) (by omega))
        have HN := Lib.hid (hrel.out.skip hlt hb)
        clear hb hrel
        go_wp2
        go_roundw
        case rel => exact ⟨k + 1, g, all, by omega, rfl, by go_num, by omega, HN, hown⟩
        case measure => simp [intOf]; omega
      · have hb : ∀ h : k < s.size, s[k] = 47 := fun h => Classical.byContradiction fun e => hsk ⟨h, e⟩
        have HSH := Lib.hid (rShown (s.extract g k) wr (by rw [← size_list, ext_data, List.length_take, List.length_drop, size_list]; omega))
        have HE := Lib.hid (ext_data s g k)
        have HY := Lib.hid (fun t => hrel.out.some (t := t) hle hb)
        have HZ := Lib.hid (hrel.out.none hle hb)
        have q1 : ∀ h : k < s.size, ((s[k].toNat : Int) != 47) = false := fun h => by rw [hb h]; rfl
        have hgi : (g : Int) ≤ (k : Int) := by omega
        clear hsk hb hrel
        by_cases hlt : k < s.size
        · have hki2 : (k : Int) < (s.size : Int) := by omega
          have q1 := q1 hlt
          go_wp2_with fail
          refine HSH.out.mono ?_
          rintro e w1 ⟨b1, ⟨t, ht, rfl⟩ | ⟨ht, rfl⟩⟩
          · rw [HE.out] at ht
            have R := Lib.hid (HY.out t ht)
            replace hown := hown.after b1
            clear b1 ht HSH HE HY HZ
            go_wp2_with (at_builtin; go_must (refine wpList_append_str rfl _ _ rfl w.heap.size u5 all rfl w w1 _ hown rfl (by omega) ?_))
            intro v2 w2 HO2
            clear hown
            go_wp2
            go_roundw
            case rel => exact ⟨k + 1, k + 1, all ++ [bs t], by omega, by go_num, by go_num, by simp; omega, Lib.hid (by rw [List.map_append]; exact R.out), HO2⟩
            case measure => simp [intOf]; omega
          · rw [HE.out] at ht
            have R := Lib.hid (HZ.out ht)
            have hbel := step_below hown.2.1 b1
            clear b1 ht HSH HE HY HZ hown
            go_wp2
            go_returns
            exact ⟨hbel, .inr ⟨R.out, rfl⟩⟩
        · have hki2 : ¬ (k : Int) < (s.size : Int) := by omega
          clear q1
          go_wp2_with fail
          refine HSH.out.mono ?_
          rintro e w1 ⟨b1, ⟨t, ht, rfl⟩ | ⟨ht, rfl⟩⟩
          · rw [HE.out] at ht
            have R := Lib.hid (HY.out t ht)
            replace hown := hown.after b1
            clear b1 ht HSH HE HY HZ
            go_wp2_with (at_builtin; go_must (refine wpList_append_str rfl _ _ rfl w.heap.size u5 all rfl w w1 _ hown rfl (by omega) ?_))
            intro v2 w2 HO2
            clear hown
            go_wp2
            go_roundw
            case rel => exact ⟨k + 1, k + 1, all ++ [bs t], by omega, by go_num, by go_num, by simp; omega, Lib.hid (by rw [List.map_append]; exact R.out), HO2⟩
            case measure => simp [intOf]; omega
          · rw [HE.out] at ht
            have R := Lib.hid (HZ.out ht)
            have hbel := step_below hown.2.1 b1
            clear b1 ht HSH HE HY HZ hown
            go_wp2
            go_returns
            exact ⟨hbel, .inr ⟨R.out, rfl⟩⟩
    · obtain rfl : k = s.size + 1 := by omega
      obtain ⟨hky, htx⟩ := hrel.out.all
      obtain ⟨p, r, rfl⟩ : ∃ p r, all = p :: r := by
        cases all with
        | nil => obtain ⟨_, _, e⟩ := txt_form s.data.toList; rw [htx] at e; cases e
        | cons p r => exact ⟨p, r, rfl⟩
      have HX := Lib.hid htx
      have HK := Lib.hid hky
      have HT := Lib.hid (tot_txt (wd := p) (ps := r) htx)
      have hcap := own_cap hown.1
      have hbel := hown.2.1
      obtain ⟨A, c, rfl, hc⟩ := hown.txs
      have hcap1 := hcap _ _ _ rfl
      have HC := Lib.hid hc
      obtain ⟨b, off, rfl, hb0, c0⟩ := hc 0 (by simp)
      have T : Txs wr wr.heap.size (.slice (some ⟨b, off + 1, none⟩) r.length (c - 1)) r := by
        refine ⟨some ⟨b, off + 1, none⟩, c - 1, rfl, fun i hi => ⟨b, off + 1, rfl, hb0, ?_⟩⟩
        obtain ⟨b', off', e, -, hcell⟩ := HC.out (i + 1) (by simp; omega)
        cases e
        rw [show off + 1 + i = off + (i + 1) by omega, hcell]
        simp
      have hcap2 : r.length + 1 ≤ c := hcap1
      have c0' : wr.cell? ⟨b, off, none⟩ = some (.string p) := by simpa using c0
      have hp1 : (0 : Int) < ((r.length + 1 : Nat) : Int) := by omega
      have hp2 : (1 : Int) ≤ ((r.length + 1 : Nat) : Int) := by omega
      have hp3 : (1 : Int) ≤ (c : Int) := by omega
      have hp4 : ((r.length + 1 : Nat) : Int) ≤ (c : Int) := by omega
      clear hrel hky htx hown hc c0 HC hle hcap hcap1
      go_wp2_with fail
      go_quiet (fail)
      go_wp2_with fail
      · have hr : r = [] := List.eq_nil_of_length_eq_zero (by omega)
        subst hr
        go_returns
        exact ⟨Below.drewN hbel _, .inl ⟨HK.out, p, _, [], HX.out, rfl, Txs.nil _ _ _ _, HT.out⟩⟩
      · go_returns
        exact ⟨Below.drewN hbel _, .inl ⟨HK.out, p, _, r, HX.out, rfl, T, HT.out⟩⟩
end Go.Proofs.YtjmbbkjepgahgaaDoor.W
