/-
  Package path: escape, unescape, Join, Number.
-/
import Derived.Test.YtjmbbkjepgahgaaDoorPLib
import Derived.Test.YtjmbbkjepgahgaaDoorCStr
import Derived.OwnWalk
import Derived.Deep.RegionHeld3
import Derived.Deep.AppendLies
import Derived.StillTactics
namespace Go.Proofs.YtjmbbkjepgahgaaDoor.W
open Go.RowKit

theorem pEscape (s : ByteArray) (hs : s.size ≤ 100000000) (w : World) (hL : PLay w) :
    Calls Tryd.prog 17 #[.string s] w fun e w' => e = .returned (.string (bs (esc s.data.toList))) ∧ Below w.heap.size w w' := by
  have H1 := Lib.hid (fun w hL => replAll s ⟨#[37]⟩ ⟨#[37, 112]⟩ (by omega) (by decide) (by decide) w hL)
  have H2 := Lib.hid (fun w hL => replAll (bs (e1 s.data.toList)) ⟨#[47]⟩ ⟨#[37, 115]⟩ (by rw [bs_size]; have := e1_len s.data.toList; rw [size_list] at this; omega) (by decide) (by decide) w hL)
  have E1 : Lib.replaceAll s.data.toList (ByteArray.mk #[37]).data.toList (ByteArray.mk #[37, 112]).data.toList = e1 s.data.toList := by
    show Lib.replaceAll s.data.toList [37] [37, 112] = _
    rw [replaceAll_rp _ _ _ (by simp) (by simp), e1_is]
  have E2 : Lib.replaceAll (bs (e1 s.data.toList)).data.toList (ByteArray.mk #[47]).data.toList (ByteArray.mk #[37, 115]).data.toList = esc s.data.toList := by
    show Lib.replaceAll (e1 s.data.toList) [47] [37, 115] = _
    rw [replaceAll_rp _ _ _ (by simp) (by simp), esc_is]
  rw [E1] at H1
  rw [E2] at H2
  clear E1 E2
  generalize e1 s.data.toList = m at *
  generalize esc s.data.toList = r at *
  go_enter Tryd.func17, Tryd.ntmps17
  go_wp2_with fail
  refine (H1.out w hL).mono ?_
  rintro e w1 ⟨rfl, b1⟩
  go_wp2_with fail
  refine (H2.out w1 (hL.next b1)).mono ?_
  rintro e w2 ⟨rfl, b2⟩
  go_wp2
  go_ret
  exact ⟨rfl, step_below b1 b2⟩
theorem pUnescape (s : ByteArray) (hs : s.size ≤ 100000000) (w : World) (hL : PLay w) :
    Calls Tryd.prog 15 #[.string s] w fun e w' => e = .returned (.string (bs (une s.data.toList))) ∧ Below w.heap.size w w' := by
  have H1 := Lib.hid (fun w hL => replAll s ⟨#[37, 115]⟩ ⟨#[47]⟩ (by omega) (by decide) (by decide) w hL)
  have H2 := Lib.hid (fun w hL => replAll (bs (rpA [37, 115] [47] s.data.toList)) ⟨#[37, 112]⟩ ⟨#[37]⟩ (by rw [bs_size]; have := une1_len s.data.toList; rw [size_list] at this; omega) (by decide) (by decide) w hL)
  have E1 : Lib.replaceAll s.data.toList (ByteArray.mk #[37, 115]).data.toList (ByteArray.mk #[47]).data.toList = rpA [37, 115] [47] s.data.toList := by
    show Lib.replaceAll s.data.toList [37, 115] [47] = _
    rw [replaceAll_rp _ _ _ (by simp) (by simp)]
  have E2 : Lib.replaceAll (bs (rpA [37, 115] [47] s.data.toList)).data.toList (ByteArray.mk #[37, 112]).data.toList (ByteArray.mk #[37]).data.toList = une s.data.toList := by
    show Lib.replaceAll (rpA [37, 115] [47] s.data.toList) [37, 112] [37] = _
    rw [replaceAll_rp _ _ _ (by simp) (by simp)]
    rfl
  rw [E1] at H1
  rw [E2] at H2
  clear E1 E2
  generalize rpA [37, 115] [47] s.data.toList = m at *
  generalize une s.data.toList = r at *
  go_enter Tryd.func15, Tryd.ntmps15
  go_wp2_with fail
  refine (H1.out w hL).mono ?_
  rintro e w1 ⟨rfl, b1⟩
  go_wp2_with fail
  refine (H2.out w1 (hL.next b1)).mono ?_
  rintro e w2 ⟨rfl, b2⟩
  go_wp2
  go_ret
  exact ⟨rfl, step_below b1 b2⟩

/-- n, or the nearest number that fits -/
def clamp (n : Int) : Nat := (min (max n 0) 99999999999999).toNat
theorem clamp_lt (n : Int) : clamp n < 10 ^ (13 + 1) := by unfold clamp; omega
theorem clamp_is (n : Int) : (clamp n : Int) = min (max n 0) 99999999999999 := by unfold clamp; omega
theorem num14 (m : Nat) (h : m < 10 ^ (13 + 1)) : List.replicate (14 - (dec m).length) 48 ++ dec m = lowd 14 m := lowd_dec 13 m h

set_option maxHeartbeats 1000000 in
theorem pNumber (n : Int) (w : World) (hL : PLay w) :
    Calls Tryd.prog 12 #[.int .i64 n] w fun e w' => e = .returned (.string (bs (lowd 14 (clamp n)))) ∧ Below w.heap.size w w' := by
  have hc := clamp_is n
  have hlt := clamp_lt n
  have hl := dec_len_le 13 _ hlt
  have H1 := Lib.hid (fun w hL => itoaP (clamp n) (by omega) w hL)
  have H2 := Lib.hid (fun w => repeatZ (14 - (dec (clamp n)).length) (by omega) w)
  have HN := Lib.hid (num14 _ hlt)
  generalize clamp n = m at *
  have hz : ((bs (dec m)).size : Int) = ((dec m).length : Int) := by rw [bs_size]
  have hq : (14 : Int) - ((dec m).length : Int) = ((14 - (dec m).length : Nat) : Int) := by omega
  generalize dec m = d at *
  generalize hq2 : 14 - d.length = q at *
  generalize lowd 14 m = r at *
  have hmm : min (max n 0) 99999999999999 = (m : Int) := hc.symm
  clear hc hlt hq2
  go_enter Tryd.func12, Tryd.ntmps12
  go_wp2_with fail
  refine (H1.out w hL.tab).mono ?_
  rintro e w1 ⟨rfl, b1⟩
  have hadd := fun W => run_add W (List.replicate q 48) d (by rw [List.length_replicate]; omega)
  go_wp2_with fail
  refine (H2.out w1).mono ?_
  rintro e w2 ⟨rfl, b2⟩
  go_wp2
  go_ret
  exact ⟨by rw [HN.out]; rfl, step_below b1 b2⟩

/-- the forms of a word and the first k parts -/
def fms (wd : ByteArray) (ps : List ByteArray) (k : Nat) : List ByteArray := bs (esc wd.data.toList) :: (ps.take k).map fun p => bs (esc p.data.toList)
theorem fms_len (wd : ByteArray) (ps : List ByteArray) (k : Nat) (h : k ≤ ps.length) : (fms wd ps k).length = k + 1 := by simp [fms]; omega
theorem fms_succ (wd : ByteArray) (ps : List ByteArray) (k : Nat) (h : k < ps.length) : fms wd ps k ++ [bs (esc ps[k].data.toList)] = fms wd ps (k + 1) := by
  simp only [fms, List.cons_append]
  rw [List.take_succ_eq_append_getElem h, List.map_append]
  rfl
def tot (wd : ByteArray) (ps : List ByteArray) : Nat := wd.size + ((ps.map ByteArray.size).sum + ps.length)
theorem le_sum {l : List ByteArray} {x : ByteArray} (h : x ∈ l) : x.size ≤ (l.map ByteArray.size).sum := by
  induction l with
  | nil => cases h
  | cons y l ih =>
    rw [List.map_cons, List.sum_cons]
    rcases List.mem_cons.mp h with rfl | h
    · omega
    · have := ih h; omega
def keyOf (wd : ByteArray) (ps : List ByteArray) : List UInt8 := key wd.data.toList (ps.map (·.data.toList))
theorem sum_esc : ∀ (ps : List ByteArray), (((ps.map (·.data.toList)).map esc).map List.length).sum ≤ 2 * (ps.map ByteArray.size).sum
  | [] => by simp
  | p :: ps => by
    have := sum_esc ps
    have h1 := esc_len p.data.toList
    rw [size_list] at h1
    simp only [List.map_cons, List.sum_cons]
    omega
theorem keyOf_len (wd : ByteArray) (ps : List ByteArray) : (keyOf wd ps).length ≤ 2 * tot wd ps := by
  have h1 := esc_len wd.data.toList
  have h2 := sum_esc ps
  rw [size_list] at h1
  rw [keyOf, key, glue_len]
  simp only [List.length_map, tot] at h2 ⊢
  omega
theorem fms_join (wd : ByteArray) (ps : List ByteArray) : Lib.join ((fms wd ps ps.length).map (·.data.toList)) [47] = keyOf wd ps := by
  rw [fms, List.take_length, List.map_cons, join_glue, keyOf, key]
  simp only [List.map_map]
  rfl
theorem own_cap {w : World} {base : Nat} {e : TypeId} {v : Value} {n : Nat} {xs : List Value} (h : w.ownsRow base e 1 v n xs) : ∀ A n c, v = .slice A n c → n ≤ c := by
  intro A m c hv
  rcases h.2 with ⟨rfl, hn⟩ | ⟨g, cap, cur, rfl, hb, hg, hc, _⟩
  · cases hv; exact Nat.le_refl _
  · cases hv; exact hc

set_option maxHeartbeats 2000000 in
set_option maxRecDepth 100000 in
theorem pJoin (wd : ByteArray) (v : Value) (ps : List ByteArray) (w : World) (hL : PLay w) (hT : Txs w w.heap.size v ps) (ht : tot wd ps ≤ 10000000) :
    Calls Tryd.prog 9 #[.string wd, v] w fun e w' => e = .returned (.string (bs (keyOf wd ps))) ∧ Below w.heap.size w w' := by
  have hbig : ps.length ≤ 10000000 := by unfold tot at ht; omega
  have H1 := Lib.hid (fun w hL => pEscape wd (by unfold tot at ht; omega) w hL)
  have H2 := Lib.hid (fun k (h : k < ps.length) w hL => pEscape ps[k] (by have := le_sum (List.getElem_mem h); unfold tot at ht; omega) w hL)
  have HK := Lib.hid (keyOf_len wd ps)
  have HT := Lib.hid ht
  clear ht
  obtain ⟨A, c, rfl, hc⟩ := hT
  have HC := Lib.hid hc
  clear hc
  have hmk : ∀ W : World, (Instr.makeSlice 22 (.int .i64 0) (.int .i64 (1 + (ps.length : Int)))).run Tryd.prog W = .ok (.slice (some ⟨W.heap.size, 0, none⟩) 0 (1 + ps.length)) (W.alloc (.cells (madeCells #[.string .empty] (1 + ps.length)) 9)) := fun W => by
    have := run_make_strs (1 + ps.length) (by omega) W
    simpa using this
  have HO := Lib.hid (OwnStrs_made (1 + ps.length) (by omega) w)
  go_enter Tryd.func9, Tryd.ntmps9
  go_wp2_with fail
  clear hmk
  have HO := HO.out
  generalize w.alloc (.cells (madeCells #[.string .empty] (1 + ps.length)) 9) = w1 at *
  refine (H1.out w1 (hL.next HO.2.1)).mono ?_
  rintro e w2 ⟨rfl, b2⟩
  replace HO := HO.after b2
  clear b2
  go_wp2_with (at_builtin; go_must (refine wpList_append_str rfl _ _ rfl w.heap.size (.slice (some ⟨w.heap.size, 0, none⟩) 0 (1 + ps.length)) [] rfl w w2 _ HO rfl (by simp) ?_))
  intro v3 w3 HO3
  have R0 : OwnStrs w.heap.size v3 (fms wd ps 0) w w3 := HO3
  clear HO HO3
  go_wp2
  go_loopw [5, 19] (fun v i wr => ∃ k : Nat, k ≤ ps.length ∧ i = .int .i64 k ∧ OwnStrs w.heap.size v (fms wd ps k) w wr) (fun _ i _ => ps.length - (intOf i).toNat)
  case atStart => exact ⟨0, Nat.zero_le _, rfl, R0⟩
  case round =>
    clear R0
    obtain ⟨k, hk, rfl, hown⟩ := hrel
    by_cases hlt : k < ps.length
    · obtain ⟨b, off, rfl, hb, hcell⟩ := HC.out k hlt
      have c1 : wr.cell? ⟨b, off + k, none⟩ = some (.string ps[k]) := (hown.2.1.cell (p := ⟨b, off + k, none⟩) hb).trans hcell
      have hi1 : (k : Int) < (ps.length : Int) := by omega
      have HX := Lib.hid (H2.out k hlt wr (hL.next hown.2.1))
      have HF := Lib.hid (fms_succ wd ps k hlt)
      have HN := Lib.hid (fms_len wd ps k hk)
      generalize ps[k] = p at *
      clear hcell
      go_wp2_with fail
      refine HX.out.mono ?_
      rintro e w2 ⟨rfl, b2⟩
      replace hown := hown.after b2
      clear b2 c1
      go_wp2_with (at_builtin; go_must (refine wpList_append_str rfl _ _ rfl w.heap.size u5 (fms wd ps k) rfl w w2 _ hown rfl (by rw [HN.out]; omega) ?_))
      intro v4 w4 HO4
      rw [HF.out] at HO4
      go_wp2
      go_roundw
      case rel => exact ⟨k + 1, by omega, by go_num, HO4⟩
      case measure => simp [intOf]; omega
    · obtain rfl : k = ps.length := by omega
      have HJ := Lib.hid (joinAll u5 (fms wd ps ps.length) _ wr hown.txs (Nat.le_refl _) (own_cap hown.1) (by simp [fms]) (by rw [fms_len _ _ _ hk]; omega) (by rw [fms_join]; have := HK.out; have := HT.out; omega))
      rw [fms_join] at HJ
      have hbel := hown.2.1
      clear hown
      go_wp2_with fail
      refine HJ.out.mono ?_
      rintro e w2 ⟨rfl, b2⟩
      go_wp2
      go_ret
      exact ⟨rfl, step_below hbel b2⟩
end Go.Proofs.YtjmbbkjepgahgaaDoor.W
