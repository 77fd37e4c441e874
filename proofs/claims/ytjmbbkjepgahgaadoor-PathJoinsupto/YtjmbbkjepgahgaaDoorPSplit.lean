/-
  Package path: Split.
-/
import Derived.Test.YtjmbbkjepgahgaaDoorPProg
import Derived.BigQuiet
namespace Go.Proofs.YtjmbbkjepgahgaaDoor.W
open Go.RowKit

/-- the first k pieces read, the others as they were cut -/
def mix (ps : List ByteArray) (k : Nat) : List ByteArray := ((ps.take k).map fun p => bs (une p.data.toList)) ++ ps.drop k
theorem mix_len (ps : List ByteArray) (k : Nat) (h : k ≤ ps.length) : (mix ps k).length = ps.length := by simp [mix]; omega
theorem mix_at (ps : List ByteArray) (k : Nat) (h : k < ps.length) : (strVals (mix ps k)).toArray[k]? = some (.string ps[k]) := by
  have e : ((ps.take k).map fun p => bs (une p.data.toList)).length = k := by simp; omega
  simp only [strVals, mix, List.getElem?_toArray, List.map_append]
  rw [List.getElem?_append_right (by rw [List.length_map, e]; exact Nat.le_refl _), List.length_map, e, Nat.sub_self, List.getElem?_map, List.getElem?_drop]
  simp [h]
theorem mix_set (ps : List ByteArray) (k : Nat) (h : k < ps.length) : (strVals (mix ps k)).toArray.setIfInBounds k (.string (bs (une ps[k].data.toList))) = (strVals (mix ps (k + 1))).toArray := by
  have e : (strVals ((ps.take k).map fun p => bs (une p.data.toList))).length = k := by simp [strVals]; omega
  apply Array.ext'
  simp only [Array.toList_setIfInBounds]
  rw [mix, mix, List.take_succ_eq_append_getElem h, List.map_append, List.drop_eq_getElem_cons h]
  simp only [strVals, List.map_append, List.map_cons, List.map_nil] at e ⊢
  rw [List.set_append_right _ _ (by rw [e]; exact Nat.le_refl _), e, Nat.sub_self, List.set_cons_zero]
  simp
theorem mix_all (ps : List ByteArray) : mix ps ps.length = ps.map fun p => bs (une p.data.toList) := by simp [mix]
/-- the pieces read -/
def rd (ps : List ByteArray) : List ByteArray := ps.map fun p => bs (une p.data.toList)
theorem rd_data (ps : List ByteArray) : (rd ps).map (·.data.toList) = (ps.map (·.data.toList)).map une := by
  simp only [rd, List.map_map]
  rfl
theorem sum_rd : ∀ (ps : List ByteArray), ((rd ps).map ByteArray.size).sum ≤ ((ps.map (·.data.toList)).map List.length).sum
  | [] => by simp [rd]
  | p :: ps => by
    have h := sum_rd ps
    have h1 := une_len p.data.toList
    simp only [rd, List.map_cons, List.sum_cons] at h ⊢
    rw [bs_size]
    omega
theorem tot_rd {s : ByteArray} {p : ByteArray} {r : List ByteArray} (h : (p :: r).map (·.data.toList) = pcs s.data.toList) : tot (bs (une p.data.toList)) (rd r) ≤ s.size := by
  obtain ⟨g, -, -⟩ := glue_pcs s.data.toList p.data.toList (r.map (·.data.toList)) (by rw [← h]; rfl)
  have hl := glue_len (r.map (·.data.toList)) p.data.toList
  rw [g, size_list] at hl
  have h1 := une_len p.data.toList
  have h2 := sum_rd r
  unfold tot
  rw [bs_size, show (rd r).length = r.length by simp [rd]]
  rw [List.length_map] at hl
  omega
theorem Blk_txs {w : World} {g : Nat} {l : List ByteArray} (h : Blk w g 9 (strVals l).toArray) (k : Nat) (hk : k ≤ l.length) (c : Nat) : Txs w w.heap.size (.slice (some ⟨g, k, none⟩) (l.length - k) c) (l.drop k) := by
  refine ⟨some ⟨g, k, none⟩, c, by rw [List.length_drop], fun i hi => ⟨g, k, rfl, h.lt, ?_⟩⟩
  rw [h.cell]
  rw [List.length_drop] at hi
  simp [strVals, show k + i < l.length by omega]
theorem key_rd {s : ByteArray} {p : ByteArray} {r : List ByteArray} (h : (p :: r).map (·.data.toList) = pcs s.data.toList) : (keyOf (bs (une p.data.toList)) (rd r) = s.data.toList ↔ isKey s.data.toList) ∧ txt s.data.toList = (bs (une p.data.toList)).data.toList :: (rd r).map (·.data.toList) := by
  have e : txt s.data.toList = (bs (une p.data.toList)).data.toList :: (rd r).map (·.data.toList) := by
    rw [txt, ← h, rd_data]
    rfl
  exact ⟨isKey_iff _ _ _ e, e⟩

theorem sum_sizes : ∀ (ps : List ByteArray), ((ps.map (·.data.toList)).map List.length).sum = (ps.map ByteArray.size).sum
  | [] => rfl
  | p :: ps => by simp only [List.map_cons, List.sum_cons, sum_sizes ps, size_list]
theorem piece_le {s : ByteArray} {ps : List ByteArray} (h : ps.map (·.data.toList) = pcs s.data.toList) {x : ByteArray} (hx : x ∈ ps) : x.size ≤ s.size := by
  cases ps with
  | nil => cases hx
  | cons p r =>
    obtain ⟨g, -, -⟩ := glue_pcs s.data.toList p.data.toList (r.map (·.data.toList)) (by rw [← h]; rfl)
    have hl := glue_len (r.map (·.data.toList)) p.data.toList
    rw [g, size_list, size_list, sum_sizes] at hl
    have := le_sum hx
    rw [List.map_cons, List.sum_cons] at this
    omega
theorem pieces_ne {s : ByteArray} {ps : List ByteArray} (h : ps.map (·.data.toList) = pcs s.data.toList) : ∃ p r, ps = p :: r := by
  cases ps with
  | nil => exact absurd h.symm (pcs_ne _)
  | cons p r => exact ⟨p, r, rfl⟩

/-- Split's answer -/
def SplitPost (s : ByteArray) (w : World) (e : Ending) (w' : World) : Prop :=
  Below w.heap.size w w' ∧
  ((isKey s.data.toList ∧ ∃ wd v ps, txt s.data.toList = wd.data.toList :: ps.map (·.data.toList) ∧ e = .returned (.tuple #[.string wd, v, .int .i64 0]) ∧ Txs w' w'.heap.size v ps ∧ tot wd ps ≤ s.size) ∨
   (¬ isKey s.data.toList ∧ e = .returned (.tuple #[.string ⟨#[]⟩, .slice none 0 0, .int .i64 6])))

set_option maxHeartbeats 2000000 in
set_option maxRecDepth 100000 in
theorem pSplit (s : ByteArray) (w : World) (hL : PLay w) (hs : s.size ≤ 5000000) :
    Calls Tryd.prog 7 #[.string s] w (SplitPost s w) := by
  go_enter Tryd.func7, Tryd.ntmps7
  go_wp2_with fail
  refine (splitAt s (by omega) w hL).mono ?_
  rintro e w1 ⟨ps, hps, rfl, rfl⟩
  have HP := Lib.hid hps
  have hln : ps.length ≤ 5000001 := by
    have h1 := congrArg List.length hps
    rw [List.length_map] at h1
    obtain ⟨p, r, hp⟩ := pcs_form s.data.toList
    obtain ⟨g, -, -⟩ := glue_pcs s.data.toList p r hp
    have hl := glue_len r p
    rw [g, size_list] at hl
    rw [h1, hp, List.length_cons]
    omega
  have hsz : ∀ k (h : k < ps.length), ps[k].size ≤ 100000000 := by
    intro k hk
    have := piece_le hps (List.getElem_mem hk)
    omega
  have HZ := Lib.hid hsz
  clear hps hsz
  have R0 : Blk (w.alloc (.cells (strVals ps).toArray 9)) w.heap.size 9 (strVals (mix ps 0)).toArray := by
    have := Blk.new w 9 (strVals ps).toArray
    simpa [mix] using this
  have B0 : Below w.heap.size w (w.alloc (.cells (strVals ps).toArray 9)) := (Below.refl _ _).alloc (Nat.le_refl _) _
  generalize w.alloc (.cells (strVals ps).toArray 9) = w1 at *
  go_wp2
  go_loopw [14] (fun i wr => ∃ k : Nat, k ≤ ps.length ∧ i = .int .i64 k ∧ Blk wr w.heap.size 9 (strVals (mix ps k)).toArray ∧ Below w.heap.size w wr) (fun i _ => ps.length - (intOf i).toNat)
  case atStart => exact ⟨0, Nat.zero_le _, rfl, R0, B0⟩
  case round =>
    clear R0 B0
    obtain ⟨k, hk, rfl, hblk, hbel⟩ := hrel
    by_cases hlt : k < ps.length
    · have c1 : wr.cell? ⟨w.heap.size, k, none⟩ = some (.string ps[k]) := by rw [hblk.cell]; exact mix_at ps k hlt
      have HX := Lib.hid (pUnescape ps[k] (HZ.out k hlt) wr (hL.next hbel))
      have HS := Lib.hid (mix_set ps k hlt)
      have HA := Lib.hid (mix_at ps k hlt)
      have hi1 : (k : Int) < (ps.length : Int) := by omega
      generalize ps[k] = p at *
      go_wp2_with fail
      refine HX.out.mono ?_
      rintro e w2 ⟨rfl, b2⟩
      have hblk2 := hblk.below b2 hblk.lt
      have hbel2 := step_below hbel b2
      have c2 : w2.cell? ⟨w.heap.size, k, none⟩ = some (.string p) := by rw [hblk2.cell]; exact HA.out
      have f2 := hblk2.frozen k
      have hblk3 := hblk2.set_ k (.string (bs (une p.data.toList)))
      rw [HS.out] at hblk3
      have hbel3 : Below w.heap.size w (w2.setCell ⟨w.heap.size, k, none⟩ (.string (bs (une p.data.toList)))) := by go_grown
      clear hblk hblk2 hbel b2 c1 HX
      go_wp2
      go_roundw
      case rel => exact ⟨k + 1, by omega, by go_num, hblk3, hbel3⟩
      case measure => simp [intOf]; omega
    · obtain rfl : k = ps.length := by omega
      rw [mix_all, show (ps.map fun p => bs (une p.data.toList)) = rd ps from rfl] at hblk
      obtain ⟨p, r, rfl⟩ := pieces_ne HP.out
      have c0 : wr.cell? ⟨w.heap.size, 0, none⟩ = some (.string (bs (une p.data.toList))) := by rw [hblk.cell]; simp [rd, strVals]
      have T := Blk_txs hblk 1 (by simp [rd]) ((p :: r).length - 1)
      have hrl : (rd (p :: r)).length - 1 = r.length := by simp [rd]
      have hrd : (rd (p :: r)).drop 1 = rd r := rfl
      rw [hrl, hrd] at T
      obtain ⟨hkey, htxt⟩ := key_rd HP.out
      have htot := tot_rd HP.out
      have HJ := Lib.hid (fun W (hW : Below wr.heap.size wr W) v (hT : Txs W W.heap.size v (rd r)) => pJoin (bs (une p.data.toList)) v (rd r) W ((hL.next hbel).next hW) hT (by omega))
      have hql : (rd r).length = r.length := by simp [rd]
      have HK := Lib.hid hkey
      have HX := Lib.hid htxt
      have HT := Lib.hid htot
      have hl1 : (p :: r).length = r.length + 1 := rfl
      rw [hl1] at *
      have hp1 : (0 : Int) < ((r.length + 1 : Nat) : Int) := by omega
      have hp2 : (1 : Int) ≤ ((r.length + 1 : Nat) : Int) := by omega
      clear hkey htxt htot hrl hrd hblk hlt hk HZ HP
      generalize bs (une p.data.toList) = q at *
      generalize rd r = qs at *
      go_wp2_with fail
      go_quiet (fail)
      go_wp2_with fail
      · have hr : r = [] := by assumption
        subst hr
        obtain rfl : qs = [] := List.eq_nil_of_length_eq_zero hql
        have T2 : ∀ W, Below wr.heap.size wr W → Txs W W.heap.size (.slice (some ⟨w.heap.size, 0, none⟩) 0 0) [] := fun W hW => Txs.nil _ _ _ _
        have hq := quiet_below wr nq
        refine (HJ.out _ hq _ (T2 _ hq)).mono ?_
        rintro e w2 ⟨rfl, b2⟩
        have b3 := step_below hq b2
        have T3 := Lib.hid (T2 _ b3)
        have b4 := step_below hbel b3
        clear T2 T b2 b3 hq hbel HJ
        by_cases hkk : isKey s.data.toList
        · have hk2 : bs (keyOf q []) = s := by rw [HK.out.mpr hkk, bs_of]
          have hk3 : ((bs (keyOf q [])).toList == s.toList) = true := by rw [hk2]; simp
          have HKK := Lib.hid hkk
          clear hk2 hkk
          go_wp2
          go_returns
          exact ⟨b4, .inl ⟨HKK.out, q, _, [], HX.out, rfl, T3.out, HT.out⟩⟩
        · have hk2 : bs (keyOf q []) ≠ s := fun e => hkk (HK.out.mp (by rw [← e]; rfl))
          have hk3 := str_ne hk2
          have HKK := Lib.hid hkk
          clear hk2 hkk
          go_wp2
          go_returns
          exact ⟨b4, .inr ⟨HKK.out, rfl⟩⟩
      · have T2 : ∀ W, Below wr.heap.size wr W → Txs W W.heap.size (.slice (some ⟨w.heap.size, 1, none⟩) r.length r.length) qs := fun W hW => (T.below hW).more hW.size
        have hq := quiet_below wr nq
        refine (HJ.out _ hq _ (T2 _ hq)).mono ?_
        rintro e w2 ⟨rfl, b2⟩
        have b3 := step_below hq b2
        have T3 := Lib.hid (T2 _ b3)
        have b4 := step_below hbel b3
        clear T2 T b2 b3 hq hbel HJ
        by_cases hkk : isKey s.data.toList
        · have hk2 : bs (keyOf q qs) = s := by rw [HK.out.mpr hkk, bs_of]
          have hk3 : ((bs (keyOf q qs)).toList == s.toList) = true := by rw [hk2]; simp
          have HKK := Lib.hid hkk
          clear hk2 hkk
          go_wp2
          go_returns
          exact ⟨b4, .inl ⟨HKK.out, q, _, qs, HX.out, rfl, T3.out, HT.out⟩⟩
        · have hk2 : bs (keyOf q qs) ≠ s := fun e => hkk (HK.out.mp (by rw [← e]; rfl))
          have hk3 := str_ne hk2
          have HKK := Lib.hid hkk
          clear hk2 hkk
          go_wp2
          go_returns
          exact ⟨b4, .inr ⟨HKK.out, rfl⟩⟩
end Go.Proofs.YtjmbbkjepgahgaaDoor.W
