/-
  The reference's reader: R.List.
-/
import Derived.Test.YtkinnlfjcmhcoaaDoorYWRefTx
namespace Go.Proofs.YtkinnlfjcmhcoaaDoor.W
open Go.RowKit

theorem stList_num (s : ByteArray) (e : Int) {s1 : ByteArray} {e1 : Int} {n : Nat} (h : stNum s e = ((s1, e1), n)) :
    stList s e = if e1 ≠ 0 then ((s1, e1), []) else if 256 < n then ((s1, 4), []) else listFrom n s1 [] := by
  have hf := stNum_facts s e
  rw [h] at hf
  simp only at hf
  by_cases he : e1 = 0
  · subst he
    by_cases hn : 256 < n
    · simp [stList, stLen, h, hn]
    · simp [stList, stLen, h, hn]
  · have hz := hf.2.2 he
    subst hz
    simp [stList, stLen, h, he]

def RLPost (w : World) (r : (ByteArray × Int) × List ByteArray) (en : Ending) (w' : World) : Prop :=
  ∃ s' v, en = .returned (.tuple #[rV s' r.1.2, v]) ∧ (r.1.2 = 0 → s' = r.1.1) ∧ s'.size ≤ 9223372036854775807 ∧ Txs w' w'.heap.size v r.2 ∧ (∀ k, v.ownBlock = some k → w.heap.size ≤ k) ∧ Below w.heap.size w w'

/-- .. and the list lies in a block of the call's own -/
def RLOwn (w : World) (r : (ByteArray × Int) × List ByteArray) (en : Ending) (w' : World) : Prop :=
  ∃ s' v, en = .returned (.tuple #[rV s' r.1.2, v]) ∧ (r.1.2 = 0 → s' = r.1.1) ∧ s'.size ≤ 9223372036854775807 ∧ Txs w' w'.heap.size v r.2 ∧ (∀ k, v.ownBlock = some k → w.heap.size ≤ k ∧ k < w'.heap.size) ∧ Roomy v ∧ Below w.heap.size w w'
theorem RLOwn.post {w w' : World} {r : (ByteArray × Int) × List ByteArray} {en : Ending} (h : RLOwn w r en w') : RLPost w r en w' := by
  obtain ⟨s', v, h1, h2, h3, h4, h5, _, h6⟩ := h
  exact ⟨s', v, h1, h2, h3, h4, fun k hk => (h5 k hk).1, h6⟩

/-- what the loop keeps: b1, b2, b4: the boxes of r, of the result, of q -/
def RLRel (w : World) (b4 base n : Nat) (s : ByteArray) (e : Int) (s1 : ByteArray) (j : Nat) (v : Value) (wr : World) : Prop :=
  ∃ sj acc, listFrom n s1 [] = listFrom (n - j) sj acc ∧ acc.length = j ∧ sj.size ≤ 9223372036854775807 ∧ Blk wr w.heap.size 94 #[.string s, .int .i64 e] ∧ Blk wr (w.heap.size + 1) 94 #[.string ⟨#[]⟩, .int .i64 0] ∧
    Blk wr b4 94 #[.string sj, .int .i64 0] ∧ wr.ownsRow base 9 1 v j (strVals acc) ∧ Below w.heap.size w wr ∧ base ≤ wr.heap.size

/-- the world ahead of the append -/
theorem own_after {w3 : World} {b4 j : Nat} {T S : TypeId} {v : Value} {xs : List Value} (h : w3.ownsRow (b4 + 1) S 1 v j xs) (s' t2 : ByteArray) :
    ((((w3.setCell ⟨b4, 0, none⟩ (.string s')).setCell ⟨b4, 1, none⟩ (.int .i64 0)).alloc (.cells #[.string s', .int .i64 0] T)).alloc (.cells #[.string t2] S)).ownsRow (b4 + 1) S 1 v j xs :=
  ((ownsRow_setCell_below (ownsRow_setCell_below h (by simp only; omega) _) (by simp only; omega) _).alloc _).alloc _
theorem cell_after (w3 : World) (b4 : Nat) (s' t2 : ByteArray) {T S : TypeId} :
    ((((w3.setCell ⟨b4, 0, none⟩ (.string s')).setCell ⟨b4, 1, none⟩ (.int .i64 0)).alloc (.cells #[.string s', .int .i64 0] T)).alloc (.cells #[.string t2] S)).cell? ((⟨w3.heap.size + 1, 0, none⟩ : Addr).add 0) = some (.string t2) := by
  have h := Blk.new (((w3.setCell ⟨b4, 0, none⟩ (.string s')).setCell ⟨b4, 1, none⟩ (.int .i64 0)).alloc (.cells #[.string s', .int .i64 0] T)) S #[.string t2]
  have e : (((w3.setCell ⟨b4, 0, none⟩ (.string s')).setCell ⟨b4, 1, none⟩ (.int .i64 0)).alloc (.cells #[.string s', .int .i64 0] T)).heap.size = w3.heap.size + 1 := by simp [World.setCell]
  rw [e] at h
  have h2 := h.cell 0
  simpa [Addr.add] using h2
theorem rl_step {w w3 w4 : World} {b4 n j : Nat} {s s1 sj s' t2 : ByteArray} {e : Int} {acc : List ByteArray} {v v' : Value}
    (hl : listFrom n s1 [] = listFrom (n - (j + 1)) s' (acc ++ [t2])) (hlen : acc.length = j) (hsz : s'.size ≤ 9223372036854775807) (hzz : w.heap.size + 1 < b4)
    (m1 : Blk w3 w.heap.size 94 #[.string s, .int .i64 e]) (m2 : Blk w3 (w.heap.size + 1) 94 #[.string ⟨#[]⟩, .int .i64 0])
    (m4 : Blk w3 b4 94 #[.string sj, .int .i64 0]) (hown3 : w3.ownsRow (b4 + 1) 9 1 v j (strVals acc)) (hbel3 : Below w.heap.size w w3)
    (hown4 : w4.ownsRow (b4 + 1) 9 1 v' (j + 1) (strVals acc ++ [.string t2]))
    (hg : ((((w3.setCell ⟨b4, 0, none⟩ (.string s')).setCell ⟨b4, 1, none⟩ (.int .i64 0)).alloc (.cells #[.string s', .int .i64 0] 94)).alloc (.cells #[.string t2] 9)).grownBy w4 v.ownBlock) :
    RLRel w b4 (b4 + 1) n s e s1 (j + 1) v' w4 := by
  have hrow : ∀ k, v.ownBlock = some k → b4 + 1 ≤ k := fun k hk => (hown3.lt k hk).1
  have hb4 := m4.lt
  have ne : ∀ g, g ≤ b4 → some g ≠ v.ownBlock := fun g hge e => by have := hrow g e.symm; omega
  have A1 := (((m1.far (p := ⟨b4, 0, none⟩) (by simp only; omega) (.string s')).far (p := ⟨b4, 1, none⟩) (by simp only; omega) (.int .i64 0)).alloc (.cells #[.string s', .int .i64 0] 94)).alloc (.cells #[.string t2] 9)
  have A2 := (((m2.far (p := ⟨b4, 0, none⟩) (by simp only; omega) (.string s')).far (p := ⟨b4, 1, none⟩) (by simp only; omega) (.int .i64 0)).alloc (.cells #[.string s', .int .i64 0] 94)).alloc (.cells #[.string t2] 9)
  have A4 : Blk _ _ _ #[.string s', .int .i64 0] := (((m4.set_ 0 (.string s')).set_ 1 (.int .i64 0)).alloc (.cells #[.string s', .int .i64 0] 94)).alloc (.cells #[.string t2] 9)
  have hb : Below w.heap.size w ((((w3.setCell ⟨b4, 0, none⟩ (.string s')).setCell ⟨b4, 1, none⟩ (.int .i64 0)).alloc (.cells #[.string s', .int .i64 0] 94)).alloc (.cells #[.string t2] 9)) := by go_grown
  refine ⟨s', acc ++ [t2], hl, by rw [List.length_append, hlen]; rfl, hsz, A1.grown hg (ne _ (by omega)), A2.grown hg (ne _ (by omega)), A4.grown hg (ne _ (by omega)), by simpa [strVals] using hown4, ?_, ?_⟩
  · exact hb.grown hg hb.size (fun k hk => by have := hrow k hk; omega)
  · have h1 := hg.size
    have h2 : b4 < ((((w3.setCell ⟨b4, 0, none⟩ (.string s')).setCell ⟨b4, 1, none⟩ (.int .i64 0)).alloc (.cells #[.string s', .int .i64 0] 94)).alloc (.cells #[.string t2] 9)).heap.size := A4.lt
    omega
theorem step_below' {w a b : World} (h : Below w.heap.size w a) (k : Below a.heap.size a b) : Below w.heap.size w b := h.trans (k.mono h.size)
set_option maxHeartbeats 4000000 in
set_option maxRecDepth 100000 in
theorem refListOwn (s : ByteArray) (e : Int) (w : World) (hm : s.size ≤ 9223372036854775807) :
    Calls Tryd.prog 59 #[rV s e] w (RLOwn w (stList s e)) := by
  obtain ⟨i0, hi, hz0, hz1, hz2⟩ := info_parts infoStr
  have hf := stNum_facts s e
  obtain ⟨⟨⟨s1, e1⟩, n⟩, hd⟩ : ∃ r, stNum s e = r := ⟨_, rfl⟩
  have HN := Lib.hid (fun W => hd ▸ refNum s e W hm)
  have HT := Lib.hid (stList_num s e hd)
  rw [hd] at hf
  clear hd
  simp only at hf
  unfold rV
  go_enter Tryd.func59, Tryd.ntmps59
  go_wp2_with fail
  refine (HN.out _).mono ?_
  rintro en w1 ⟨rfl, hb⟩
  unfold rNumV rV
  obtain ⟨k1, k2, hzz, hbel⟩ := boxes hb
  have c0 := cell0 k1
  have d0 := cell0 k2
  have d1 := cell1 k2
  have f0 := k2.frozen 0
  have f1 := k2.frozen 1
  have hzz0 : w.heap.size < w1.heap.size := by omega
  clear hb
  simp only
  by_cases he : e1 = 0
  · subst he
    have HT1 := Lib.hid (HT.out.trans (if_neg (by simp)))
    clear HT
    by_cases hn : 256 < n
    · have HT2 := Lib.hid (HT1.out.trans (if_pos hn))
      clear HT1
      go_wp2
      have K : Blk _ _ _ #[.string s, .int .i64 4] := ((k2.set_ 0 (.string s)).set_ 1 (.int .i64 4)).alloc (.cells #[.string s1, .int .i64 0] 94)
      refine bodyPost_ret (v := .tuple #[.agg #[.string s, .int .i64 4], .slice none 0 0]) (by simp [results, Tryd.results59, go_sem, cell0 K, cell1 K]) rfl ?_
      rw [HT2.out]
      refine ⟨_, _, rfl, fun h => by simp at h, by omega, Txs.nil _ _ _ _, by simp [Value.ownBlock], roomy_nil, ?_⟩
      go_grown
    · have HT2 := Lib.hid (HT1.out.trans (if_neg hn))
      clear HT1
      go_wp2
      have HR := Lib.hid (show RLRel w w1.heap.size (w1.heap.size + 1) n s e s1 0 (.slice none 0 0) (w1.alloc (.cells #[.string s1, .int .i64 0] 94)) from
        ⟨s1, [], rfl, rfl, by omega, k1.alloc _, k2.alloc _, Blk.new _ _ _, World.ownsRow_nil _ _ _ _, by go_grown, by simp⟩)
      generalize w1.heap.size = b4 at *
      clear c0 d0 d1 f0 f1 k1 k2 hbel
      go_loopw [6, 7] (fun v i wr => ∃ j : Nat, j ≤ n ∧ i = .int .i64 j ∧ RLRel w b4 (b4 + 1) n s e s1 j v wr) (fun _ i _ => n - (intOf i).toNat)
      case atStart => exact ⟨0, Nat.zero_le _, rfl, HR.out⟩
      case round =>
        obtain ⟨j, hj, rfl, sj, acc, hl, hlen, hsz, k1, k2, k4, hown, hbel, hbase⟩ := hrel
        have HL := Lib.hid hl
        have HLen := Lib.hid hlen
        clear hl hlen
        by_cases hlt : j < n
        · have HTx := Lib.hid (refText sj 0 wr hsz)
          have HLS := Lib.hid (show listFrom (n - j) sj acc = if (stText sj 0).1.2 ≠ 0 then ((stText sj 0).1, []) else listFrom (n - (j + 1)) (stText sj 0).1.1 (acc ++ [(stText sj 0).2]) by
            rw [show n - j = (n - (j + 1)) + 1 by omega]; rfl)
          have htf := stText_facts sj 0
          obtain ⟨⟨⟨s2, e2⟩, t2⟩, hd2⟩ : ∃ r, stText sj 0 = r := ⟨_, rfl⟩
          rw [hd2] at HTx HLS htf
          clear hd2
          have c0 := cell0 k4
          have c1 := cell1 k4
          go_wp2_with fail
          refine HTx.out.mono ?_
          rintro en w3 ⟨s', rfl, hs', _, hb3⟩
          have HS' := Lib.hid hs'
          clear hs' c0 c1
          unfold rV
          have m1 := k1.below hb3 k1.lt
          have m2 := k2.below hb3 k2.lt
          have m4 := k4.below hb3 k4.lt
          have hz3 : b4 < w3.heap.size := m4.lt
          have hz4 : w.heap.size < w3.heap.size := m1.lt
          have hz5 : w.heap.size + 1 < w3.heap.size := m2.lt
          have hown3 : w3.ownsRow (b4 + 1) 9 1 u6 j (strVals acc) := hown.kept (row := none) ⟨hb3.os, hb3.tape, hb3.output, hb3.size, fun k hk _ => hb3.block k hk⟩ (by cases hv : u6.ownBlock <;> simp)
          have hbel3 := step_below' hbel hb3
          clear hb3 k1 k2 k4 hown hbel
          simp only
          by_cases he2 : e2 = 0
          · subst he2
            have hq : s' = s2 := HS'.out rfl
            subst hq
            have HL2 := Lib.hid (HL.out.trans (HLS.out.trans (if_neg (by simp))))
            clear HL HLS HTx HS'
            have q0 := cell0 m4
            have q1 := cell1 m4
            have g0 := m4.frozen 0
            have g1 := m4.frozen 1
            have hownA := own_after (T := 94) (S := 9) hown3 s' t2
            go_wp2_with (at_builtin; go_must (refine wpList_append_own _ rfl _ _ 34 rfl (b4 + 1) 9 i0 (.string .empty) 1 16 Tryd.underlying34 hi hz0 hz1 hz2 rfl (by decide) u6 j (strVals acc) rfl hownA ⟨w3.heap.size + 1, 0, none⟩ 1 1 [.string t2] rfl rfl ?c1 ?c2 ?c3 ?c4 ?c5 ?_))
            case c1 =>
              intro k u hk
              match k, hk with
              | 0, hk => simp at hk; subst hk; exact cell_after w3 b4 s' t2
              | k + 1, hk => simp at hk
            case c2 => intro u hu; simp at hu; subst hu; rfl
            case c3 => unfold maxLen; omega
            case c4 => omega
            case c5 => simp; omega
            intro v' w4 hown4 hgrow4 _
            have R := rl_step (n := n) (s1 := s1) HL2.out HLen.out (Nat.le_trans htf.1 hsz) hzz m1 m2 m4 hown3 hbel3 hown4 hgrow4
            clear hown4 hgrow4 hownA q0 q1 g0 g1 m1 m2 m4 hown3 hbel3
            go_wp2
            go_roundw
            case rel => exact ⟨j + 1, by omega, by go_num, R⟩
            case measure => simp [intOf]; omega
          · have hne : (e2 != 0) = true := by rw [bne_iff_ne]; exact he2
            have HL2 := Lib.hid (HT2.out.trans (HL.out.trans (HLS.out.trans (if_pos he2))))
            clear HL HLS HTx HS'
            have q0 := cell0 m1
            have d0 := cell0 m2
            have d1 := cell1 m2
            have f0 := m2.frozen 0
            have f1 := m2.frozen 1
            go_wp2
            have K : Blk _ _ _ #[.string s, .int .i64 e2] := ((m2.set_ 0 (.string s)).set_ 1 (.int .i64 e2)).alloc (.cells #[.string s', .int .i64 e2] 94)
            refine bodyPost_ret (v := .tuple #[.agg #[.string s, .int .i64 e2], .slice none 0 0]) (by simp [results, Tryd.results59, go_sem, cell0 K, cell1 K]) rfl ?_
            rw [HL2.out]
            refine ⟨_, _, rfl, fun h => absurd h he2, hm, Txs.nil _ _ _ _, by simp [Value.ownBlock], roomy_nil, ?_⟩
            go_grown
        · obtain rfl : j = n := by omega
          have HL2 := Lib.hid (show stList s e = ((sj, 0), acc) by rw [HT2.out, HL.out, Nat.sub_self]; rfl)
          have q0 := cell0 k4
          have q1 := cell1 k4
          have d0 := cell0 k2
          have d1 := cell1 k2
          have f0 := k2.frozen 0
          have f1 := k2.frozen 1
          go_wp2
          have K : Blk _ _ _ #[.string sj, .int .i64 0] := ((k2.set_ 0 (.string sj)).set_ 1 (.int .i64 0))
          refine bodyPost_ret (v := .tuple #[.agg #[.string sj, .int .i64 0], u6]) (by simp [results, Tryd.results59, go_sem, cell0 K, cell1 K]) rfl ?_
          rw [HL2.out]
          refine ⟨_, _, rfl, fun _ => rfl, hsz, Txs.of_own (base := b4 + 1) ?_, fun k hk => ⟨by have := (hown.lt k hk).1; omega, by have := (hown.lt k hk).2; simpa [World.setCell] using this⟩, own_roomy hown, ?_⟩
          · rw [HLen.out]
            exact ownsRow_setCell_below (ownsRow_setCell_below hown (by simp only; omega) _) (by simp only; omega) _
          · go_grown
  · have hne : (e1 != 0) = true := by rw [bne_iff_ne]; exact he
    have HT1 := Lib.hid (HT.out.trans (if_pos he))
    clear HT
    go_wp2
    have K : Blk _ _ _ #[.string s1, .int .i64 e1] := ((k2.set_ 0 (.string s1)).set_ 1 (.int .i64 e1)).alloc (.cells #[.string s1, .int .i64 e1] 94)
    refine bodyPost_ret (v := .tuple #[.agg #[.string s1, .int .i64 e1], .slice none 0 0]) (by simp [results, Tryd.results59, go_sem, cell0 K, cell1 K]) rfl ?_
    rw [HT1.out]
    refine ⟨_, _, rfl, fun h => absurd h he, by omega, Txs.nil _ _ _ _, by simp [Value.ownBlock], roomy_nil, ?_⟩
    go_grown
theorem refList (s : ByteArray) (e : Int) (w : World) (hm : s.size ≤ 9223372036854775807) :
    Calls Tryd.prog 59 #[rV s e] w (RLPost w (stList s e)) := (refListOwn s e w hm).mono fun _ _ hx => hx.post
end Go.Proofs.YtkinnlfjcmhcoaaDoor.W
