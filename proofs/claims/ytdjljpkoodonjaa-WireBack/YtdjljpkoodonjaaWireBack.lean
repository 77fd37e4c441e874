/-
  footbridgelaw01.WireBack returns true for every number, list of texts and text, and changes nothing: decoding an encoding yields the value, and bytes that decode are the encoding of what they decode to. No condition.
-/
import Derived.Test.YtdjljpkoodonjaaWLift
import Derived.Test.YtdjljpkoodonjaaWAwake
import Derived.Test.YtdjljpkoodonjaaWBack
import Derived.Test.YtdjljpkoodonjaaWRefEnc
namespace Go.Proofs.Ytdjljpkoodonjaa.wireBack
open Go.ChangeShapes Go.WideShapes Go.ChangeAt Go.RowKit
open Go.ChangeMaps (open_string shut_string)
open W

theorem encJoin_cases (l : List ByteArray) : ((l.length ≤ 256 ∧ ∀ s ∈ l, s.size ≤ 65536) ∧ encJoin l = (num l.length ++ cat l, 0)) ∨ encJoin l = ([], 4) := by
  unfold encJoin
  split
  · next h => exact .inl ⟨h, by rw [join_cat]⟩
  · exact .inr rfl

theorem cat_len (l : List ByteArray) (hl : ∀ s ∈ l, s.size ≤ 65536) : (cat l).length ≤ 65600 * l.length := by
  induction l with
  | nil => simp [cat]
  | cons x l ih =>
    rw [cat_cons, List.length_append, List.length_cons]
    have h1 := text_len x (hl x (by simp))
    have h2 := ih (fun s hs => hl s (by simp [hs]))
    omega

theorem numBackAt (b n : Nat) (t : List UInt8) (w : World) (hn : n ≤ 9007199254740992) (ht : t.length ≤ 4611686018427387904) (h : RdAt w b (bs (num n ++ t)) 0) :
    Calls Try.prog 16 #[.pointer (some ⟨b, 0, none⟩)] w (RdPost w b (.int .i64 n) (bs t) 0) := by
  have hl := be_len_le n 7 (by omega)
  have h := numAt b _ 0 w h (by rw [bs_size, List.length_append, num_len]; omega)
  rw [stNum_back n hn t] at h
  exact h
theorem listBackAt (b : Nat) (l : List ByteArray) (w : World) (hn : l.length ≤ 256) (hl : ∀ s ∈ l, s.size ≤ 65536) (h : RdAt w b (bs (num l.length ++ cat l)) 0) :
    Calls Try.prog 21 #[.pointer (some ⟨b, 0, none⟩)] w (ListPost w b ((bs [], 0), l)) := by
  have h1 := be_len_le l.length 7 (by omega)
  have h2 := cat_len l hl
  have h := listAt b _ 0 w h (by rw [bs_size, List.length_append, num_len]; omega)
  have e := stList_back l hn hl []
  rw [List.append_nil] at e
  rw [e] at h
  exact h
theorem doneBackAt (b : Nat) (w : World) (h : RdAt w b (bs []) 0) :
    Calls Try.prog 23 #[.pointer (some ⟨b, 0, none⟩)] w fun e' w' => e' = .returned (.int .i64 0) ∧ w = w' := by
  have h := doneAt b _ 0 w h
  rw [show stDone (bs []) 0 = 0 by kernel_rfl] at h
  exact h
/-- what is told of any bytes is laid again, or it is not told to the end -/
theorem again (s : ByteArray) : stDone (stList s 0).1.1 (stList s 0).1.2 ≠ 0 ∨ encJoin (stList s 0).2 = (s.data.toList, 0) := by
  by_cases h : stDone (stList s 0).1.1 (stList s 0).1.2 = 0
  · right
    by_cases he : (stList s 0).1.2 = 0
    · rw [he] at h
      have h1 := stDone_zero _ h
      obtain ⟨h2, h3, h4⟩ := list_of_st s he
      rw [h1, bs_data, List.append_nil] at h2
      unfold encJoin
      rw [if_pos ⟨h3, h4⟩, join_cat, ← h2]
    · unfold stDone at h
      rw [if_pos he] at h
      exact absurd h he
  · exact .inl h

set_option maxHeartbeats 4000000 in
set_option maxRecDepth 100000 in
theorem walk (w : World) (n : Int) (h0 : 0 ≤ n) (h1 : n ≤ 4294967295) (v : Value) (l : List ByteArray) (hl : Txs w w.heap.size v l) (hm : l.length ≤ maxLen) (s : ByteArray) (hs : s.size ≤ maxLen) :
    Calls Try.prog 5 #[.int .u32 n, v, .string s] w fun e w' => e = .returned (.bool true) ∧ Below w.heap.size w w' := by
  obtain ⟨n, rfl⟩ := Int.eq_ofNat_of_zero_le h0
  unfold maxLen at hm hs
  have HL := Lib.hid hl
  obtain ⟨A, cap, rfl, hc⟩ := hl
  clear hc
  by_cases hlen : l.length ≤ 60 ∧ s.size ≤ 1000
  · obtain ⟨hln, hsn⟩ := hlen
    have hN := wNum n w
    rw [encNum_small n (by omega)] at hN
    have HN := Lib.hid hN
    clear hN
    go_enter Try.func5, Try.ntmps5
    go_wp2_with fail
    refine HN.out.mono ?_
    rintro e w1 ⟨rfl, b1⟩
    unfold retSE
    have hJ := wJoin _ l w1 ((HL.out.below b1).more b1.size) (by omega)
    rcases encJoin_cases l with ⟨⟨hl1, hl2⟩, hE⟩ | hE
    · rw [hE] at hJ
      have HJ := Lib.hid hJ
      have HG := Lib.hid hl2
      clear hJ hE hl2
      go_wp2_with fail
      refine HJ.out.mono ?_
      rintro e w2 ⟨rfl, b2⟩
      replace b2 := step_below b1 b2
      clear b1 HJ
      unfold retSE
      have hnl := be_len_le n 7 (by omega)
      have hll := be_len_le l.length 7 (by omega)
      have hcl := cat_len l HG.out
      have hadd := fun W => run_add W (num n) (num l.length ++ cat l) (by rw [List.length_append, num_len, num_len]; omega)
      go_wp2_with fail
      refine (newAt _ w2).mono ?_
      rintro e w3 ⟨b, rfl, hR, hg, b3⟩
      have hgb := Nat.le_trans b2.size hg
      replace b3 := step_below b2 b3
      clear hadd b2 hg
      go_wp2_with fail
      refine (newAt _ w3).mono ?_
      rintro e w4 ⟨b', rfl, hR', hg', b4⟩
      have hgb' := Nat.le_trans b3.size hg'
      have hbb : b < b' := Nat.lt_of_lt_of_le (Blk.lt hR) hg'
      replace hR := Blk.below hR b4 (Blk.lt hR)
      replace b4 := step_below b3 b4
      clear b3 hg'
      go_wp2_with fail
      refine (numBackAt b n _ w4 (by omega) (by rw [List.length_append, num_len]; omega) hR).mono ?_
      rintro e w5 ⟨rfl, hR5, g5⟩
      have hR5' := Blk.grown hR' g5 (by simp; omega)
      replace b5 := step_only b4 g5 hgb
      clear hR hR' g5 b4
      go_wp2_with fail
      refine (listBackAt b l w5 hl1 HG.out hR5).mono ?_
      rintro e w6 ⟨v6, rfl, hT6, hR6, g6⟩
      have hR6' := Blk.grown hR5' g6 (by simp; omega)
      replace b6 := step_only b5 g6 hgb
      clear hR5 hR5' g6 b5
      simp only at hT6 hR6
      go_wp2_with fail
      refine (texts _ _ l l w6 w6.heap.size hT6 ((HL.out.below b6).more b6.size) (Nat.le_refl _) (by omega) (by omega)).mono ?_
      rintro e w7 ⟨rfl, b7⟩
      rw [show decide (l = l) = true by simp]
      have hR7 := Blk.below hR6 b7 (Blk.lt hR6)
      have hR7' := Blk.below hR6' b7 (Blk.lt hR6')
      replace b7 := step_below b6 b7
      clear hR6 hR6' b6 hT6
      go_wp2_with fail
      refine (doneBackAt b w7 hR7).mono ?_
      rintro e w8 ⟨rfl, rfl⟩
      clear hR7
      go_wp2_with fail
      have HA := Lib.hid (again s)
      have hsl := stList_len s 0
      refine (listAt b' s 0 w7 hR7' (by omega)).mono ?_
      generalize stList s 0 = r at *
      obtain ⟨⟨s9, e9⟩, x9⟩ := r
      rintro e w9 ⟨v9, rfl, hT9, hR9, g9⟩
      replace b9 := step_only b7 g9 hgb'
      clear b7 hR7' g9
      simp only at hT9 hR9 HA hsl
      go_wp2_with fail
      refine (wJoin v9 x9 w9 hT9 (by omega)).mono ?_
      rintro e w10 ⟨rfl, b10⟩
      have hR10 := Blk.below hR9 b10 (Blk.lt hR9)
      replace b10 := step_below b9 b10
      clear b9 hR9 hT9
      generalize encJoin x9 = p9 at *
      unfold retSE
      go_wp2_with fail
      refine (doneAt b' s9 e9 w10 hR10).mono ?_
      rintro e w11 ⟨rfl, rfl⟩
      generalize stDone s9 e9 = d9 at *
      by_cases hd : d9 = 0
      · subst hd
        have hp : p9 = (s.data.toList, 0) := HA.out.resolve_left (by simp)
        subst hp
        rw [bs_of]
        go_wp2_with fail
        refine (awake w10).mono ?_
        rintro e w12 ⟨rfl, b12⟩
        replace b12 := step_below b10 b12
        go_wp2
        go_ret
        exact ⟨rfl, b12⟩
      · have hne : (d9 != 0) = true := by rw [bne_iff_ne]; exact hd
        go_wp2_with fail
        refine (awake w10).mono ?_
        rintro e w12 ⟨rfl, b12⟩
        replace b12 := step_below b10 b12
        go_wp2
        go_ret
        exact ⟨rfl, b12⟩
    · rw [hE] at hJ
      have HJ := Lib.hid hJ
      clear hJ hE
      go_wp2_with fail
      refine HJ.out.mono ?_
      rintro e w2 ⟨rfl, b2⟩
      replace b2 := step_below b1 b2
      have he : (bs []).toList.isEmpty = true := empty_of _ rfl
      unfold retSE
      go_wp2_with fail
      refine (awake w2).mono ?_
      rintro e w12 ⟨rfl, b12⟩
      replace b12 := step_below b2 b12
      go_wp2
      go_ret
      exact ⟨rfl, b12⟩
  · by_cases h60 : l.length ≤ 60
    · have hs' : 1000 < s.size := by omega
      go_enter Try.func5, Try.ntmps5
      go_wp2_with fail
      refine (awake w).mono ?_
      rintro e w12 ⟨rfl, b12⟩
      go_wp2
      go_ret
      exact ⟨rfl, b12⟩
    · go_enter Try.func5, Try.ntmps5
      go_wp2_with fail
      refine (awake w).mono ?_
      rintro e w12 ⟨rfl, b12⟩
      go_wp2
      go_ret
      exact ⟨rfl, b12⟩
set_option maxRecDepth 100000 in
theorem lifted (os : Os) (started : os.Started) (H : Type) (enc : TypeId × Value → H) :
    ReturnsInHanded {} Try.checked os 5 .any (Rows.wireBackSpec.pre6 enc Try.prog Try.f5 Rows.wireBackRow.domain false) (Rows.wireBackSpec.post enc Try.prog Try.f5 false true false false) := by
  refine returnsInHanded_of_change (C := Try.checked) own started (by kernel_rfl) Try.func5
    (ChangeSpec.witness6 (enc := enc) (C := Try.checked) false ⟨#[], #[.int .u32 0, .slice none 0 0, .string ByteArray.empty], []⟩ 8 (by kernel_rfl) (by kernel_rfl) (by kernel_rfl) (by kernel_rfl)) ?_
  intro W base args ds gs before hval0 hW hcnd _
  have hval : ∀ (j : Nat) t v, Try.f5.params[j]? = some t → args[j]? = some v → Value.okWide Try.prog W .any base t v := hval0
  have hW' := hW
  obtain ⟨p, q, hA0, hV, rfl, hfz, hnd⟩ := hW
  have hA : DataW.TrodAll enc Try.prog W 0 (fun _ => true) true Try.f5.params.toList args.toList ds p := hA0
  rw [Try.params5] at hA hval
  have hK := hA
  obtain ⟨v0, vs0, d0, ds0, p0, q0, hargs, rfl, rfl, h0, r0⟩ := trodAll_cons hA
  obtain ⟨v1, vs1, d1, ds1, p1, q1, rfl, rfl, rfl, h1, r1⟩ := trodAll_cons r0
  obtain ⟨v2, vs2, d2, ds2, p2, q2, rfl, rfl, rfl, h2, r2⟩ := trodAll_cons r1
  obtain ⟨rfl, rfl, rfl⟩ := trodAll_nil r2
  obtain rfl : args = #[v0, v1, v2] := by cases args; simp_all
  obtain ⟨rfl, rfl⟩ := trodVars_none hV
  obtain ⟨a0, rfl, rfl, rfl, w0⟩ := open_int Try.underlying51 (hval 0 51 v0 rfl rfl) h0
  have b0 := bounds_u32 w0
  obtain ⟨A1, len1, cap1, rfl⟩ := okWide_slice Try.underlying22 (hval 1 22 v1 rfl rfl)
  obtain ⟨a1, w1, l1⟩ := open_txs Try.underlying22 Try.underlying9 (by kernel_rfl) h1
  obtain ⟨a2, rfl, rfl, rfl, w2⟩ := open_string Try.underlying9 (hval 2 9 v2 rfl rfl) h2
  clear hA0 hval0
  refine (walk W a0 b0.1 b0.2 _ a1 w1 l1 a2 w2).mono fun e W' ⟨he, bel⟩ => ?_
  subst he
  exact ⟨_, rfl, _, _, _, [], _, [], hW', trodAll_mk1 (shut_bool Try.underlying4 _), trodAll_under laidOut bel _ _ _ _ (by kernel_rfl) hK, rfl, bel.frame _, fun h => by cases h⟩

theorem wireBack_holds : Rows.WireBackSaid :=
  OpenClaim.holds_of_wide 5 Try.f5 rfl rfl rfl rfl rfl rfl rfl ⟨rfl, rfl, rfl, rfl, rfl⟩ rfl rfl rfl rfl rfl (by kernel_rfl) Try.func5 (by kernel_rfl)
    (of_decide_eq_true (by kernel_rfl)) (by unfold Func.isWrapper; first | (rw [if_pos (by decide +kernel)]; kernel_rfl) | (rw [if_neg (by decide +kernel)]; exact ⟨rfl, rfl⟩))
    (fun os started H enc _ => lifted os started H enc)
#print axioms wireBack_holds
end Go.Proofs.Ytdjljpkoodonjaa.wireBack
