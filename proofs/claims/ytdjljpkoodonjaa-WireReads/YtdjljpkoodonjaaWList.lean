/-
  Reader.List, at a reader and at nil.
-/
import Derived.Test.YtdjljpkoodonjaaWRdr
import Derived.Test.YtdjljpkoodonjaaWJoin
namespace Go.Proofs.Ytdjljpkoodonjaa.W
open Go.RowKit

theorem infoStr : (Try.prog.info? 9).map (fun i => (i.zero, i.size, i.bytes)) = some (some (.string .empty), 1, 16) := by kernel_rfl

def strVals (ss : List ByteArray) : List Value := ss.map Value.string
theorem strVals_len (ss : List ByteArray) : (strVals ss).length = ss.length := by simp [strVals]
theorem only_grown {a b c : World} {r row : Option Nat} (h : a.grownBy b r) (k : b.grownBy c row) (hr : ∀ i, row = some i → a.heap.size ≤ i) : a.grownBy c r :=
  ⟨k.os.trans h.os, k.tape.trans h.tape, k.output.trans h.output, Nat.le_trans h.size k.size, fun i hi hne => (k.block i (Nat.lt_of_lt_of_le hi h.size) (fun e => by have := hr i e.symm; omega)).trans (h.block i hi hne)⟩
theorem only_alloc {a b : World} {r : Option Nat} (h : a.grownBy b r) (o : Obj) : a.grownBy (b.alloc o) r := only_trans h (World.grownBy_alloc b o r)
theorem Txs.of_own {w : World} {base : Nat} {v : Value} {ss : List ByteArray} (h : w.ownsRow base 9 1 v ss.length (strVals ss)) : Txs w w.heap.size v ss := by
  rcases h.2 with ⟨rfl, hn⟩ | ⟨g, cap, cur, rfl, hb, hg, _⟩
  · obtain rfl : ss = [] := List.eq_nil_of_length_eq_zero hn
    exact Txs.nil _ _ _ _
  · refine ⟨some ⟨g, 0, none⟩, cap, rfl, fun i hi => ⟨g, 0, rfl, (Array.getElem?_eq_some_iff.1 hg).1, ?_⟩⟩
    have := h.cells (g := g) rfl i (.string ss[i]) (by simp [strVals, hi])
    rw [show (⟨g, 0, none⟩ : Addr).add i = ⟨g, 0 + i, none⟩ by unfold Addr.add; split <;> simp_all] at this
    exact this

/-- what the loop keeps -/
def LRel (w : World) (b n : Nat) (s1 : ByteArray) (j : Nat) (v : Value) (wr : World) : Prop :=
  ∃ sj acc, listFrom n s1 [] = listFrom (n - j) sj acc ∧ acc.length = j ∧ sj.size ≤ 9223372036854775807 ∧ RdAt wr b sj 0 ∧ wr.ownsRow w.heap.size 9 1 v j (strVals acc) ∧ w.grownBy wr (some b)

def ListPost (w : World) (b : Nat) (r : (ByteArray × Int) × List ByteArray) (en : Ending) (w' : World) : Prop :=
  ∃ v, en = .returned v ∧ Txs w' w'.heap.size v r.2 ∧ RdAt w' b r.1.1 r.1.2 ∧ w.grownBy w' (some b)

theorem listNil (w : World) : Calls Try.prog 21 #[.pointer none] w fun e w' => e = .returned (.slice none 0 0) ∧ w = w' := by
  go_enter Try.func21, Try.ntmps21
  go_wp2_with fail
  refine (lenNil w 256).mono ?_
  rintro e w' ⟨rfl, rfl⟩
  go_wp2
  go_rounds 1
  go_ret
  exact ⟨rfl, rfl⟩

set_option maxHeartbeats 2000000 in
theorem listAt (b : Nat) (s : ByteArray) (e : Int) (w : World) (h : RdAt w b s e) (hm : s.size ≤ 9223372036854775807) :
    Calls Try.prog 21 #[.pointer (some ⟨b, 0, none⟩)] w (ListPost w b (stList s e)) := by
  obtain ⟨i0, hi, hz0, hz1, hz2⟩ := info_parts infoStr
  have HN := Lib.hid (lenAt b s e 256 w h hm)
  have hb := Blk.lt h
  have HS := Lib.hid (show stList s e = (if (stLen s e 256).1.2 ≠ 0 then ((stLen s e 256).1, []) else listFrom (stLen s e 256).2 (stLen s e 256).1.1 []) from rfl)
  have hf := stLen_facts s e 256
  have hz := stLen_zero s e 256
  obtain ⟨⟨⟨s1, e1⟩, n⟩, hd⟩ : ∃ r, stLen s e 256 = r := ⟨_, rfl⟩
  rw [hd] at HN HS hf hz
  clear hd
  simp only at hf hz
  by_cases he : e1 = 0
  · subst he
    clear hz
    have HS1 := Lib.hid (HS.out.trans (if_neg (by simp)))
    clear HS
    go_enter Try.func21, Try.ntmps21
    go_wp2_with fail
    refine HN.out.mono ?_
    rintro e w1 ⟨rfl, hR, hg⟩
    have HR := Lib.hid (show LRel w b n s1 0 (.slice none 0 0) w1 from ⟨s1, [], rfl, rfl, by omega, hR, World.ownsRow_nil _ _ _ _, hg⟩)
    clear hR hg
    go_wp2
    go_loopw [4, 8] (fun v i wr => ∃ j : Nat, j ≤ n ∧ i = .int .i64 j ∧ LRel w b n s1 j v wr) (fun _ i _ => n - (intOf i).toNat)
    case atStart => exact ⟨0, Nat.zero_le _, rfl, HR.out⟩
    case round =>
      obtain ⟨j, hj, rfl, sj, acc, hl, hlen, hsz, hRj, hown, hgj⟩ := hrel
      have HL := Lib.hid hl
      have HLen := Lib.hid hlen
      clear hl hlen
      by_cases hlt : j < n
      · have HT := Lib.hid (textAt b sj 0 wr hRj hsz)
        have HLS := Lib.hid (show listFrom (n - j) sj acc = if (stText sj 0).1.2 ≠ 0 then ((stText sj 0).1, []) else listFrom (n - (j + 1)) (stText sj 0).1.1 (acc ++ [(stText sj 0).2]) by
          rw [show n - j = (n - (j + 1)) + 1 by omega]; rfl)
        have htf := stText_facts sj 0
        obtain ⟨⟨⟨s2, e2⟩, t2⟩, hd2⟩ : ∃ r, stText sj 0 = r := ⟨_, rfl⟩
        rw [hd2] at HT HLS htf
        clear hd2
        go_wp2_with fail
        refine HT.out.mono ?_
        rintro e w2 ⟨rfl, hR2, hg2⟩
        have hnb : u4.ownBlock ≠ some b := fun e => by have := (hown.lt b e).1; omega
        have hown2 := hown.kept hg2 (.inr hnb)
        have hsz2 := Nat.le_trans hgj.size hg2.size
        go_wp2_with (at_builtin; go_must (refine wpList_append_own _ rfl _ _ 22 rfl w.heap.size 9 i0 (.string .empty) 1 16 Try.underlying22 hi hz0 hz1 hz2 rfl (by decide) u4 j (strVals acc) rfl (hown2.alloc _) ⟨w2.heap.size, 0, none⟩ 1 1 [.string t2] rfl rfl ?c1 ?c2 ?c3 ?c4 ?c5 ?_))
        case c1 =>
          intro k u hk
          match k, hk with
          | 0, hk => simp at hk; subst hk; simp [Addr.add]
          | k + 1, hk => simp at hk
        case c2 => intro u hu; simp at hu; subst hu; rfl
        case c3 => unfold maxLen; omega
        case c4 => omega
        case c5 => simp; omega
        intro v3 w3 hown3 hgrow3 _
        have hrow : ∀ i, u4.ownBlock = some i → w.heap.size ≤ i := fun i hi => (hown.lt i hi).1
        have hR3 : RdAt w3 b s2 e2 := Blk.grown (Blk.alloc hR2 _) hgrow3 (fun e => hnb e.symm)
        have hg3 := only_grown (only_alloc (only_trans hgj hg2) _) hgrow3 hrow
        have hown4 : w3.ownsRow w.heap.size 9 1 v3 (j + 1) (strVals (acc ++ [t2])) := by simpa [strVals] using hown3
        clear hown3 hgrow3 hR2 hown hown2 hg2
        by_cases he2 : e2 = 0
        · subst he2
          have HL2 := Lib.hid (HL.out.trans (HLS.out.trans (if_neg (by simp))))
          clear HL HLS HT
          go_wp2_with fail
          refine (errAt b s2 0 w3 hR3).mono ?_
          rintro e w4 ⟨rfl, rfl⟩
          go_wp2
          go_roundw
          case rel => exact ⟨j + 1, by omega, by go_num, s2, acc ++ [t2], HL2.out, by rw [List.length_append, HLen.out]; rfl, Nat.le_trans htf.1 hsz, hR3, hown4, hg3⟩
          case measure => simp [intOf]; omega
        · have hne : (e2 != 0) = true := by rw [bne_iff_ne]; exact he2
          have HL2 := Lib.hid (HS1.out.trans (HL.out.trans (HLS.out.trans (if_pos he2))))
          clear HL HLS HT
          go_wp2_with fail
          refine (errAt b s2 e2 w3 hR3).mono ?_
          rintro e w4 ⟨rfl, rfl⟩
          go_wp2
          go_ret
          rw [HL2.out]
          exact ⟨_, rfl, Txs.nil _ _ _ _, hR3, hg3⟩
      · obtain rfl : j = n := by omega
        have HL2 := Lib.hid (show stList s e = ((sj, 0), acc) by rw [HS1.out, HL.out, Nat.sub_self]; rfl)
        go_wp2
        go_ret
        rw [HL2.out]
        refine ⟨_, rfl, Txs.of_own (base := w.heap.size) ?_, hRj, hgj⟩
        rw [HLen.out]
        exact hown
  · have HS1 := Lib.hid (HS.out.trans (if_pos he))
    clear HS
    obtain rfl : n = 0 := hz he
    go_enter Try.func21, Try.ntmps21
    go_wp2_with fail
    refine HN.out.mono ?_
    rintro e w1 ⟨rfl, hR, hg⟩
    go_wp2
    go_rounds 1
    go_ret
    rw [HS1.out]
    exact ⟨_, rfl, Txs.nil _ _ _ _, hR, hg⟩
end Go.Proofs.Ytdjljpkoodonjaa.W
