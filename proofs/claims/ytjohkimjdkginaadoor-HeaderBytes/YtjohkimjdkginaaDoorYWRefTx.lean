/-
  The reference's reader: R.Text and R.Done.
-/
import Derived.Test.YtjohkimjdkginaaDoorYWRefRd
namespace Go.Proofs.YtjohkimjdkginaaDoor.W
open Go.RowKit

theorem stText_num (s : ByteArray) (e : Int) {s1 : ByteArray} {e1 : Int} {n : Nat} (h : stNum s e = ((s1, e1), n)) :
    stText s e = if e1 ≠ 0 then ((s1, e1), .empty) else if 65536 < n then ((s1, 4), .empty) else if s1.size < n then ((s1, 5), .empty) else ((s1.extract n s1.size, 0), s1.extract 0 n) := by
  have hf := stNum_facts s e
  rw [h] at hf
  simp only at hf
  by_cases he : e1 = 0
  · subst he
    by_cases hn : 65536 < n
    · simp [stText, stLen, h, hn]
    · simp [stText, stLen, h, hn]
  · have hz := hf.2.2 he
    subst hz
    simp [stText, stLen, h, he]

def RTPost (w : World) (r : (ByteArray × Int) × ByteArray) (en : Ending) (w' : World) : Prop :=
  ∃ s', en = .returned (.tuple #[rV s' r.1.2, .string r.2]) ∧ (r.1.2 = 0 → s' = r.1.1) ∧ s'.size ≤ 9223372036854775807 ∧ Below w.heap.size w w'

/-- what is known behind a call that turned nothing old: the two boxes -/
theorem boxes {w w1 : World} {s : ByteArray} {e : Int} {x : ByteArray} {y : Int} {T : TypeId}
    (hb : Below ((w.alloc (.cells #[.string s, .int .i64 e] T)).alloc (.cells #[.string x, .int .i64 y] T)).heap.size ((w.alloc (.cells #[.string s, .int .i64 e] T)).alloc (.cells #[.string x, .int .i64 y] T)) w1) :
    Blk w1 w.heap.size T #[.string s, .int .i64 e] ∧ Blk w1 (w.heap.size + 1) T #[.string x, .int .i64 y] ∧ w.heap.size + 1 < w1.heap.size ∧ Below w.heap.size w w1 := by
  have h1 : Blk ((w.alloc (.cells #[.string s, .int .i64 e] T)).alloc (.cells #[.string x, .int .i64 y] T)) w.heap.size T #[.string s, .int .i64 e] := (Blk.new w T _).alloc _
  have h2 : Blk ((w.alloc (.cells #[.string s, .int .i64 e] T)).alloc (.cells #[.string x, .int .i64 y] T)) (w.heap.size + 1) T #[.string x, .int .i64 y] := by
    have := Blk.new (w.alloc (.cells #[.string s, .int .i64 e] T)) T #[.string x, .int .i64 y]
    simpa using this
  refine ⟨h1.below hb h1.lt, h2.below hb h2.lt, ?_, ?_⟩
  · have := hb.size
    simp at this
    omega
  · have h3 : Below w.heap.size w ((w.alloc (.cells #[.string s, .int .i64 e] T)).alloc (.cells #[.string x, .int .i64 y] T)) := by go_grown
    exact h3.trans (hb.mono (by simp; omega))

theorem cell0 {w : World} {g : Nat} {T : TypeId} {a b : Value} (h : Blk w g T #[a, b]) : w.cell? ⟨g, 0, none⟩ = some a := by
  have := h.cell 0
  simpa using this
theorem cell1 {w : World} {g : Nat} {T : TypeId} {a b : Value} (h : Blk w g T #[a, b]) : w.cell? ⟨g, 1, none⟩ = some b := by
  have := h.cell 1
  simpa using this

set_option maxHeartbeats 4000000 in
set_option maxRecDepth 100000 in
theorem refText (s : ByteArray) (e : Int) (w : World) (hm : s.size ≤ 9223372036854775807) :
    Calls Tryd.prog 25 #[rV s e] w (RTPost w (stText s e)) := by
  have hf := stNum_facts s e
  obtain ⟨⟨⟨s1, e1⟩, n⟩, hd⟩ : ∃ r, stNum s e = r := ⟨_, rfl⟩
  have HN := Lib.hid (fun W => hd ▸ refNum s e W hm)
  have HT := Lib.hid (stText_num s e hd)
  rw [hd] at hf
  clear hd
  simp only at hf
  unfold rV
  go_enter Tryd.func25, Tryd.ntmps25
  go_wp2_with fail
  refine (HN.out _).mono ?_
  rintro en w1 ⟨rfl, hb⟩
  unfold rNumV rV
  obtain ⟨k1, k2, hz, hbel⟩ := boxes hb
  have c0 := cell0 k1
  have d0 := cell0 k2
  have d1 := cell1 k2
  have f0 := k2.frozen 0
  have f1 := k2.frozen 1
  have hz0 : w.heap.size < w1.heap.size := by omega
  clear hb
  simp only
  by_cases he : e1 = 0
  · subst he
    have HT1 := Lib.hid (HT.out.trans (if_neg (by simp)))
    clear HT
    by_cases hn : 65536 < n
    · have HT2 := Lib.hid (HT1.out.trans (if_pos hn))
      clear HT1
      go_wp2
      have K : Blk _ _ _ #[.string s, .int .i64 4] := ((k2.set_ 0 (.string s)).set_ 1 (.int .i64 4)).alloc (.cells #[.string s1, .int .i64 0] 48)
      refine bodyPost_ret (v := .tuple #[.agg #[.string s, .int .i64 4], .string ⟨#[]⟩]) (by simp [results, Tryd.results25, go_sem, cell0 K, cell1 K]) rfl ?_
      rw [HT2.out]
      refine ⟨_, rfl, fun h => by simp at h, by omega, ?_⟩
      go_grown
    · have HT2 := Lib.hid (HT1.out.trans (if_neg hn))
      clear HT1
      by_cases hs : s1.size < n
      · have HT3 := Lib.hid (HT2.out.trans (if_pos hs))
        clear HT2
        go_wp2
        have K : Blk _ _ _ #[.string s, .int .i64 5] := ((k2.set_ 0 (.string s)).set_ 1 (.int .i64 5)).alloc (.cells #[.string s1, .int .i64 0] 48)
        refine bodyPost_ret (v := .tuple #[.agg #[.string s, .int .i64 5], .string ⟨#[]⟩]) (by simp [results, Tryd.results25, go_sem, cell0 K, cell1 K]) rfl ?_
        rw [HT3.out]
        refine ⟨_, rfl, fun h => by simp at h, by omega, ?_⟩
        go_grown
      · have HT3 := Lib.hid (HT2.out.trans (if_neg hs))
        clear HT2
        have hs' : (n : Int) ≤ (s1.size : Int) := by omega
        have hx : (s1.extract n s1.size).size ≤ 9223372036854775807 := by rw [← size_list, drop_all, List.length_drop, size_list]; omega
        go_wp2
        go_region
        all_goals go_wp2
        all_goals have K : Blk _ _ _ #[.string (s1.extract n s1.size), .int .i64 0] := ((k2.set_ 0 (.string (s1.extract n s1.size))).set_ 1 (.int .i64 0)).alloc (.cells #[.string s1, .int .i64 0] 48)
        all_goals refine bodyPost_ret (v := .tuple #[.agg #[.string (s1.extract n s1.size), .int .i64 0], .string (s1.extract 0 n)]) (by simp [results, Tryd.results25, go_sem, cell0 K, cell1 K]) rfl ?_
        all_goals rw [HT3.out]
        all_goals refine ⟨_, rfl, fun _ => rfl, hx, ?_⟩
        all_goals go_grown
  · have hne : (e1 != 0) = true := by rw [bne_iff_ne]; exact he
    have HT1 := Lib.hid (HT.out.trans (if_pos he))
    clear HT
    go_wp2
    have K : Blk _ _ _ #[.string s1, .int .i64 e1] := ((k2.set_ 0 (.string s1)).set_ 1 (.int .i64 e1)).alloc (.cells #[.string s1, .int .i64 e1] 48)
    refine bodyPost_ret (v := .tuple #[.agg #[.string s1, .int .i64 e1], .string ⟨#[]⟩]) (by simp [results, Tryd.results25, go_sem, cell0 K, cell1 K]) rfl ?_
    rw [HT1.out]
    refine ⟨_, rfl, fun h => absurd h he, by omega, ?_⟩
    go_grown

set_option maxHeartbeats 1000000 in
set_option maxRecDepth 100000 in
theorem refDone (s : ByteArray) (e : Int) (w : World) :
    Calls Tryd.prog 27 #[rV s e] w fun en w' => en = .returned (.int .i64 (stDone s e)) ∧ Below w.heap.size w w' := by
  unfold rV
  by_cases he : e = 0
  · subst he
    by_cases hs : s.size = 0
    · have hE := empty_of s hs
      have HD := Lib.hid (show stDone s 0 = 0 by simp [stDone, hs])
      go_enter Tryd.func27, Tryd.ntmps27
      go_wp2
      go_ret
      exact ⟨by rw [HD.out]; rfl, by go_grown⟩
    · have hE := nonempty_of s (by omega)
      have HD := Lib.hid (show stDone s 0 = 6 by simp [stDone, hs])
      go_enter Tryd.func27, Tryd.ntmps27
      go_wp2
      go_ret
      exact ⟨by rw [HD.out]; rfl, by go_grown⟩
  · have hb : (e == 0) = false := beq_eq_false_iff_ne.2 he
    have HD := Lib.hid (show stDone s e = e by simp [stDone, he])
    go_enter Tryd.func27, Tryd.ntmps27
    go_wp2
    go_ret
    exact ⟨by rw [HD.out]; rfl, by go_grown⟩
end Go.Proofs.YtjohkimjdkginaaDoor.W
