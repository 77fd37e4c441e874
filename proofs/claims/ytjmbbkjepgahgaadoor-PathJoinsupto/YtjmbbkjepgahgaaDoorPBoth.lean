/-
  path.Split and the reference's Split answer alike.
-/
import Derived.Test.YtjmbbkjepgahgaaDoorPRefSp
import Derived.Test.YtjmbbkjepgahgaaDoorCSince
namespace Go.Proofs.YtjmbbkjepgahgaaDoor.W
open Go.RowKit

theorem map_bs_data (l : List (List UInt8)) : (l.map bs).map (·.data.toList) = l := by
  rw [List.map_map]
  exact (List.map_congr_left (fun a _ => bs_data a)).trans (List.map_id l)
theorem map_data_bs (l : List ByteArray) : (l.map (·.data.toList)).map bs = l := by
  rw [List.map_map]
  exact (List.map_congr_left (fun a _ => bs_of a)).trans (List.map_id l)
/-- the one answer -/
structure Ans (s wd : ByteArray) (ps : List ByteArray) (er : Int) : Prop where
  tot : tot wd ps ≤ s.size
  back : (er = 0 ∧ bs (keyOf wd ps) = s) ∨ (er = 6 ∧ ¬ isKey s.data.toList)
  prog : ∀ w, PLay w → Calls Tryd.prog 7 #[.string s] w fun e w' => ∃ v, e = .returned (.tuple #[.string wd, v, .int .i64 er]) ∧ Txs w' w'.heap.size v ps ∧ Below w.heap.size w w'
  ref : ∀ w, Calls Tryd.prog 8 #[.string s] w fun e w' => ∃ v, e = .returned (.tuple #[.string wd, v, .int .i64 er]) ∧ Txs w' w'.heap.size v ps ∧ Below w.heap.size w w'
theorem ans_key {s : ByteArray} (hk : isKey s.data.toList) (hs : s.size ≤ 5000000) {wd : ByteArray} {ps : List ByteArray} (ht : txt s.data.toList = wd.data.toList :: ps.map (·.data.toList)) : Ans s wd ps 0 := by
  have post : ∀ w e w', SplitPost s w e w' → ∃ v, e = .returned (.tuple #[.string wd, v, .int .i64 0]) ∧ Txs w' w'.heap.size v ps ∧ Below w.heap.size w w' := by
    rintro w e w' ⟨hb, ⟨-, x, v, qs, h1, rfl, hT, -⟩ | ⟨hn, -⟩⟩
    · rw [ht, List.cons.injEq] at h1
      have e1 : wd = x := by rw [← bs_of wd, h1.1, bs_of]
      have e2 : ps = qs := by rw [← map_data_bs ps, h1.2, map_data_bs]
      subst e1 e2
      exact ⟨v, rfl, hT, hb⟩
    · exact absurd hk hn
  refine ⟨tot_txt ht, .inl ⟨rfl, ?_⟩, fun w hL => (pSplit s w hL hs).mono (post w), fun w => (rSplit s w hs).mono (post w)⟩
  rw [show keyOf wd ps = s.data.toList from (isKey_iff _ _ _ ht).mpr hk, bs_of]
theorem ans_none {s : ByteArray} (hk : ¬ isKey s.data.toList) (hs : s.size ≤ 5000000) : Ans s ⟨#[]⟩ [] 6 := by
  have post : ∀ w e w', SplitPost s w e w' → ∃ v, e = .returned (.tuple #[.string ⟨#[]⟩, v, .int .i64 6]) ∧ Txs w' w'.heap.size v [] ∧ Below w.heap.size w w' := by
    rintro w e w' ⟨hb, ⟨hy, -⟩ | ⟨-, rfl⟩⟩
    · exact absurd hy hk
    · exact ⟨_, rfl, Txs.nil _ _ _ _, hb⟩
  exact ⟨Nat.zero_le _, .inr ⟨rfl, hk⟩, fun w hL => (pSplit s w hL hs).mono (post w), fun w => (rSplit s w hs).mono (post w)⟩
theorem ans_any (s : ByteArray) (hs : s.size ≤ 5000000) : ∃ wd ps er, Ans s wd ps er := by
  by_cases hk : isKey s.data.toList
  · obtain ⟨w, ps, h⟩ := txt_form s.data.toList
    exact ⟨bs w, ps.map bs, 0, ans_key hk hs (by rw [map_bs_data]; exact h)⟩
  · exact ⟨_, _, _, ans_none hk hs⟩
/-- at a key that Join has made -/
theorem ans_made (s wd : ByteArray) (ps : List ByteArray) (h : bs (keyOf wd ps) = s) (hs : s.size ≤ 5000000) : Ans s wd ps 0 := by
  have e : key wd.data.toList (ps.map (·.data.toList)) = s.data.toList := by rw [← h]; rfl
  refine ans_key ⟨_, _, e⟩ hs ?_
  rw [← e, txt_key]
end Go.Proofs.YtjmbbkjepgahgaaDoor.W
