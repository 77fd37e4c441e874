/-
  footbridgelaw01.WireReads returns true for every text and every sequence of reads, and changes nothing: each answer of a reader, and its first error, are the reference's. No condition.
-/
import Derived.Test.YtdjljpkoodonjaaWLift
import Derived.Test.YtdjljpkoodonjaaWAwake
import Derived.Test.YtdjljpkoodonjaaWRefLs
import Derived.Deep.RegionHeld3
namespace Go.Proofs.Ytdjljpkoodonjaa.wireReads
open Go.ChangeShapes Go.WideShapes Go.ChangeAt Go.RowKit
open Go.ChangeMaps (open_string shut_string)
open W

/-- what the loop keeps: the reader at b and the reference at q hold the same error, and the same bytes if there is none -/
def Rel (w : World) (b q : Nat) (wr : World) : Prop :=
  ∃ sp ep sq, RdAt wr b sp ep ∧ Blk wr q 38 #[.string sq, .int .i64 ep] ∧ (ep = 0 → sp = sq) ∧ sp.size ≤ 9223372036854775807 ∧ sq.size ≤ 9223372036854775807 ∧ Below w.heap.size w wr
theorem sim_num {sp sq : ByteArray} {ep : Int} (h : ep = 0 → sp = sq) : (stNum sp ep).2 = (stNum sq ep).2 ∧ (stNum sp ep).1.2 = (stNum sq ep).1.2 ∧ ((stNum sp ep).1.2 = 0 → (stNum sp ep).1.1 = (stNum sq ep).1.1) := by
  by_cases he : ep = 0
  · rw [h he]; exact ⟨rfl, rfl, fun _ => rfl⟩
  · rw [stNum_err sp he, stNum_err sq he]; exact ⟨rfl, rfl, fun h => absurd h he⟩
theorem sim_text {sp sq : ByteArray} {ep : Int} (h : ep = 0 → sp = sq) : (stText sp ep).2 = (stText sq ep).2 ∧ (stText sp ep).1.2 = (stText sq ep).1.2 ∧ ((stText sp ep).1.2 = 0 → (stText sp ep).1.1 = (stText sq ep).1.1) := by
  by_cases he : ep = 0
  · rw [h he]; exact ⟨rfl, rfl, fun _ => rfl⟩
  · rw [stText_err sp he, stText_err sq he]; exact ⟨rfl, rfl, fun h => absurd h he⟩
theorem sim_list {sp sq : ByteArray} {ep : Int} (h : ep = 0 → sp = sq) : (stList sp ep).2 = (stList sq ep).2 ∧ (stList sp ep).1.2 = (stList sq ep).1.2 ∧ ((stList sp ep).1.2 = 0 → (stList sp ep).1.1 = (stList sq ep).1.1) := by
  by_cases he : ep = 0
  · rw [h he]; exact ⟨rfl, rfl, fun _ => rfl⟩
  · rw [stList_err sp he, stList_err sq he]; exact ⟨rfl, rfl, fun h => absurd h he⟩
theorem sim_done {sp sq : ByteArray} {ep : Int} (h : ep = 0 → sp = sq) : stDone sp ep = stDone sq ep := by
  by_cases he : ep = 0
  · rw [h he]
  · simp [stDone, he]

/-- the world behind 'q = p' -/
theorem stored {w1 : World} {b q : Nat} {sp sq s' : ByteArray} {ep e' : Int} (hR : RdAt w1 b sp ep) (hQ : Blk w1 q 38 #[.string sq, .int .i64 ep]) (hne : b ≠ q) :
    RdAt (((w1.setCell ⟨q, 0, none⟩ (.string s')).setCell ⟨q, 1, none⟩ (.int .i64 e')).alloc (.cells #[.string s', .int .i64 e'] 38)) b sp ep ∧
    Blk (((w1.setCell ⟨q, 0, none⟩ (.string s')).setCell ⟨q, 1, none⟩ (.int .i64 e')).alloc (.cells #[.string s', .int .i64 e'] 38)) q 38 #[.string s', .int .i64 e'] :=
  ⟨((Blk.far hR (p := ⟨q, 0, none⟩) hne _).far (p := ⟨q, 1, none⟩) hne _).alloc _, ((hQ.set_ 0 _).set_ 1 _).alloc _⟩

/-- the reference's list still reads behind 'q = p' and behind the reader's own call -/
theorem two {w2 w3 : World} {lo b q : Nat} {v : Value} {L : List ByteArray} {s2 : ByteArray} {er : Int} (h : Txs w2 w2.heap.size v L) (hown : ∀ k, v.ownBlock = some k → lo ≤ k) (hq : q < lo) (hb : b < lo)
    (g3 : (((w2.setCell ⟨q, 0, none⟩ (.string s2)).setCell ⟨q, 1, none⟩ (.int .i64 er)).alloc (.cells #[.string s2, .int .i64 er] 38)).grownBy w3 (some b)) : Txs w3 w3.heap.size v L := by
  by_cases hL : L = []
  · subst hL
    obtain ⟨A, cap, rfl, _⟩ := h
    exact Txs.nil _ _ _ _
  · have hlt : ∀ g, v.ownBlock = some g → g < w2.heap.size := by
      obtain ⟨A, cap, rfl, hc⟩ := h
      intro g hg
      obtain ⟨b', off, rfl, hlt, _⟩ := hc 0 (List.length_pos_iff.2 hL)
      simp [Value.ownBlock] at hg
      omega
    have h2 : Txs (((w2.setCell ⟨q, 0, none⟩ (.string s2)).setCell ⟨q, 1, none⟩ (.int .i64 er)).alloc (.cells #[.string s2, .int .i64 er] 38)) w2.heap.size v L := by
      refine h.moved fun g hg => ?_
      have h1 := hlt g hg
      have h2 := hown g hg
      rw [Below.heap_alloc _ _ _ (by simpa [World.setCell] using h1), Below.heap_setCell _ _ _ _ (by simp only; omega), Below.heap_setCell _ _ _ _ (by simp only; omega)]
    have h3 : Txs w3 w2.heap.size v L := by
      refine h2.moved fun g hg => g3.block g ?_ ?_
      · have := hlt g hg
        simp [World.setCell]
        omega
      · have := hown g hg
        simp
        omega
    refine h3.more ?_
    have := g3.size
    simp [World.setCell] at this
    omega
theorem stList_size (s : ByteArray) (e : Int) : (stList s e).1.1.size ≤ s.size := by
  have hl := stLen_facts s e 256
  have hf : ∀ (k : Nat) (s : ByteArray) (acc : List ByteArray), (listFrom k s acc).1.1.size ≤ s.size := by
    intro k
    induction k with
    | zero => intro s acc; exact Nat.le_refl _
    | succ k ih =>
      intro s acc
      have ht := stText_facts s 0
      rw [listFrom]
      split
      · exact ht.1
      · exact Nat.le_trans (ih _ _) ht.1
  unfold stList
  simp only
  split
  · exact hl.2
  · exact Nat.le_trans (hf _ _ _) hl.2

theorem again {w w3 w4 : World} {b q : Nat} {s1 s2 : ByteArray} {er : Int} (h : er = 0 → s1 = s2) (hs1 : s1.size ≤ 9223372036854775807) (hs2 : s2.size ≤ 9223372036854775807)
    (hR : RdAt w3 b s1 er) (hQ : Blk w3 q 38 #[.string s2, .int .i64 er]) (hb : Below w.heap.size w w3) (b4 : Below w3.drew.heap.size w3.drew w4) : Rel w b q w4 := by
  have b4' : Below w3.heap.size w3 w4 := ⟨b4.os, b4.tape, b4.output, b4.size, b4.block⟩
  exact ⟨s1, er, s2, Blk.below hR b4' (Blk.lt hR), hQ.below b4' hQ.lt, h, hs1, hs2, step_below hb b4'⟩

set_option maxHeartbeats 8000000 in
set_option maxRecDepth 100000 in
theorem walk (w : World) (s : ByteArray) (hs : s.size ≤ maxLen) (v : Value) (l : List UInt8) (hl : Bytes w w.heap.size v l) (hm : l.length ≤ maxLen) :
    Calls Try.prog 4 #[.string s, v] w fun e w' => e = .returned (.bool true) ∧ Below w.heap.size w w' := by
  unfold maxLen at hm hs
  obtain ⟨A, cap, rfl, hc⟩ := hl
  have HCell := Lib.hid hc
  clear hc
  by_cases h1 : s.size ≤ 100000
  · by_cases h2 : l.length ≤ 60
    · go_enter Try.func4, Try.ntmps4
      go_wp2_with fail
      refine (newAt _ w).mono ?_
      rintro e w1 ⟨b, rfl, hR, hg, b1⟩
      have hlt := Blk.lt hR
      go_wp2
      have HR := Lib.hid (show Rel w b w1.heap.size (w1.alloc (.cells #[.string s, .int .i64 0] 38)) from
        ⟨s, 0, s, Blk.alloc hR _, Blk.new _ _ _, fun _ => rfl, by omega, by omega, by go_grown⟩)
      have hgq : w.heap.size ≤ w1.heap.size := b1.size
      generalize w1.heap.size = q at *
      clear hR b1
      go_loopw [7] (fun i wr => ∃ k : Nat, k ≤ l.length ∧ i = .int .i64 k ∧ Rel w b q wr) (fun i _ => l.length - (intOf i).toNat)
      case atStart => exact ⟨0, Nat.zero_le _, rfl, HR.out⟩
      case round =>
        obtain ⟨k, hk, rfl, sp, ep, sq, hR, hQ, hsim, hsp, hsq, hbel⟩ := hrel
        by_cases hkl : k < l.length
        · obtain ⟨g, off, rfl, hgB, hc⟩ := HCell.out k hkl
          have hcell : wr.cell? ⟨g, off + k, none⟩ = some (.int .u8 l[k].toNat) := (hbel.cell (p := ⟨g, off + k, none⟩) hgB).trans hc
          have hb8 := l[k].toNat_lt
          clear hc
          generalize l[k].toNat = c at *
          have q0 := cell0 hQ
          have q1 := cell1 hQ
          have HSim := Lib.hid hsim
          clear hsim
          by_cases hc0 : c % 3 = 0
          · have t0 : (((c : Int) % 3) == 0) = true := beq_iff_eq.2 (by omega)
            clear hc0
            have HN := Lib.hid (refNum sq ep wr hsq)
            have HN2 := Lib.hid (fun W h => numAt b sp ep W h hsp)
            have hfs := (stNum_facts sp ep).2.1
            have hfq := (stNum_facts sq ep).2.1
            obtain ⟨e1, e2, e3⟩ := sim_num HSim.out
            generalize stNum sp ep = rp at *
            generalize stNum sq ep = rq at *
            obtain ⟨⟨s1, er1⟩, n1⟩ := rp
            obtain ⟨⟨s2, er2⟩, n2⟩ := rq
            simp only at e1 e2 e3 hfs hfq
            subst e1 e2
            have HE3 := Lib.hid e3
            clear e3
            have hs1 : s1.size ≤ 9223372036854775807 := by omega
            have hs2 : s2.size ≤ 9223372036854775807 := by omega
            go_wp2_with fail
            refine HN.out.mono ?_
            rintro en w2 ⟨rfl, b2⟩
            unfold rNumV rV
            have m1 : RdAt w2 b sp ep := Blk.below hR b2 (Blk.lt hR)
            have m2 := hQ.below b2 hQ.lt
            have hqs : q < w2.heap.size := m2.lt
            have hbel2 := step_below hbel b2
            have p0 := cell0 m2
            have p1 := cell1 m2
            have g0 := m2.frozen 0
            have g1 := m2.frozen 1
            have hqr := hQ.lt
            clear b2 hR hQ hbel q0 q1 hcell
            simp only
            go_wp2_with fail
            have hW := stored (s' := s2) (e' := er1) m1 m2 (by omega)
            have hbW : Below w.heap.size w (((w2.setCell ⟨q, 0, none⟩ (.string s2)).setCell ⟨q, 1, none⟩ (.int .i64 er1)).alloc (.cells #[.string s2, .int .i64 er1] 38)) := by go_grown
            refine (HN2.out _ hW.1).mono ?_
            rintro en w3 ⟨rfl, hR3, g3⟩
            have hQ3 := Blk.grown hW.2 g3 (by simp; omega)
            have hbel3 := step_only hbW g3 hg
            have q0 := cell0 hQ3
            have q1 := cell1 hQ3
            clear hbW g3 hW m1 m2 p0 p1 g0 g1 hbel2 HN HN2 hqs
            have HDone := Lib.hid (fun W h => (sim_done HE3.out) ▸ doneAt b s1 er1 W h)
            have hql := hQ3.lt
            go_wp2_with fail
            go_region_held3 (fun w' => w'.cell? ⟨q, 0, none⟩ = some (.string s2) ∧ w'.cell? ⟨q, 1, none⟩ = some (.int .i64 er1))
              (first | go_keep | exact ⟨(b4.cell (p := ⟨q, 0, none⟩) hql).trans q0, (b4.cell (p := ⟨q, 1, none⟩) hql).trans q1⟩)
              (first
                | (go_at_call 22; refine (errAt b s1 er1 _ (by exact hR3)).mono ?_; rintro en w4 ⟨rfl, rfl⟩)
                | (go_at_call 23; refine (HDone.out _ (by exact hR3)).mono ?_; rintro en w4 ⟨rfl, rfl⟩)
                | (go_at_call 24; refine (refDone s2 er1 _).mono ?_; rintro en w4 ⟨rfl, b4⟩))
            have R := again (s1 := s1) (s2 := s2) HE3.out hs1 hs2 hR3 hQ3 hbel3 b4
            clear HDone HE3 hQ3 hR3 hbel3 q0 q1
            go_wp2
            go_roundw
            case rel => exact ⟨k + 1, by omega, by go_num, R⟩
            case measure => simp [intOf]; omega
          · have t0 : (((c : Int) % 3) == 0) = false := beq_eq_false_iff_ne.2 (by omega)
            by_cases hc1 : c % 3 = 1
            · have t1 : (((c : Int) % 3) == 1) = true := beq_iff_eq.2 (by omega)
              clear hc0 hc1
              have HN := Lib.hid (refText sq ep wr hsq)
              have HN2 := Lib.hid (fun W h => textAt b sp ep W h hsp)
              have hfs := (stText_facts sp ep).1
              have hfq := (stText_facts sq ep).1
              obtain ⟨e1, e2, e3⟩ := sim_text HSim.out
              generalize stText sp ep = rp at *
              generalize stText sq ep = rq at *
              obtain ⟨⟨s1, er1⟩, n1⟩ := rp
              obtain ⟨⟨s2', er2⟩, n2⟩ := rq
              simp only at e1 e2 e3 hfs hfq
              subst e1 e2
              have HE0 := Lib.hid e3
              clear e3
              have hs1 : s1.size ≤ 9223372036854775807 := by omega
              go_wp2_with fail
              refine HN.out.mono ?_
              rintro en w2 ⟨s2, rfl, hx, hs2, b2⟩
              have HE3 := Lib.hid (show er1 = 0 → s1 = s2 from fun h => (HE0.out h).trans (hx h).symm)
              clear hx HE0
              unfold rV
              have m1 : RdAt w2 b sp ep := Blk.below hR b2 (Blk.lt hR)
              have m2 := hQ.below b2 hQ.lt
              have hqs : q < w2.heap.size := m2.lt
              have hbel2 := step_below hbel b2
              have p0 := cell0 m2
              have p1 := cell1 m2
              have g0 := m2.frozen 0
              have g1 := m2.frozen 1
              clear b2 hR hQ hbel q0 q1 hcell
              simp only
              go_wp2_with fail
              have hW := stored (s' := s2) (e' := er1) m1 m2 (by omega)
              have hbW : Below w.heap.size w (((w2.setCell ⟨q, 0, none⟩ (.string s2)).setCell ⟨q, 1, none⟩ (.int .i64 er1)).alloc (.cells #[.string s2, .int .i64 er1] 38)) := by go_grown
              refine (HN2.out _ hW.1).mono ?_
              rintro en w3 ⟨rfl, hR3, g3⟩
              have hQ3 := Blk.grown hW.2 g3 (by simp; omega)
              have hbel3 := step_only hbW g3 hg
              have q0 := cell0 hQ3
              have q1 := cell1 hQ3
              clear hbW g3 hW m1 m2 p0 p1 g0 g1 hbel2 HN HN2 hqs
              have HDone := Lib.hid (fun W h => (sim_done HE3.out) ▸ doneAt b s1 er1 W h)
              have hql := hQ3.lt
              go_wp2_with fail
              go_region_held3 (fun w' => w'.cell? ⟨q, 0, none⟩ = some (.string s2) ∧ w'.cell? ⟨q, 1, none⟩ = some (.int .i64 er1))
                (first | go_keep | exact ⟨(b4.cell (p := ⟨q, 0, none⟩) hql).trans q0, (b4.cell (p := ⟨q, 1, none⟩) hql).trans q1⟩)
                (first
                  | (go_at_call 22; refine (errAt b s1 er1 _ (by exact hR3)).mono ?_; rintro en w4 ⟨rfl, rfl⟩)
                  | (go_at_call 23; refine (HDone.out _ (by exact hR3)).mono ?_; rintro en w4 ⟨rfl, rfl⟩)
                  | (go_at_call 24; refine (refDone s2 er1 _).mono ?_; rintro en w4 ⟨rfl, b4⟩))
              have R := again (s1 := s1) (s2 := s2) HE3.out hs1 hs2 hR3 hQ3 hbel3 b4
              clear HDone HE3 hQ3 hR3 hbel3 q0 q1
              go_wp2
              go_roundw
              case rel => exact ⟨k + 1, by omega, by go_num, R⟩
              case measure => simp [intOf]; omega
            · have t1 : (((c : Int) % 3) == 1) = false := beq_eq_false_iff_ne.2 (by omega)
              clear hc0 hc1
              have HN := Lib.hid (refList sq ep wr hsq)
              have HN2 := Lib.hid (fun W h => listAt b sp ep W h hsp)
              have hfs := stList_size sp ep
              have hll := stList_len sp ep
              obtain ⟨e1, e2, e3⟩ := sim_list HSim.out
              generalize stList sp ep = rp at *
              generalize stList sq ep = rq at *
              obtain ⟨⟨s1, er1⟩, n1⟩ := rp
              obtain ⟨⟨s2', er2⟩, n2⟩ := rq
              simp only at e1 e2 e3 hfs hll
              subst e1 e2
              have HE0 := Lib.hid e3
              clear e3
              have hs1 : s1.size ≤ 9223372036854775807 := by omega
              go_wp2_with fail
              refine HN.out.mono ?_
              rintro en w2 ⟨s2, v2, rfl, hx, hs2, hT2, hown2, b2⟩
              have HE3 := Lib.hid (show er1 = 0 → s1 = s2 from fun h => (HE0.out h).trans (hx h).symm)
              have HT2 := Lib.hid hT2
              have HO2 := Lib.hid hown2
              clear hx HE0 hT2 hown2
              unfold rV
              have m1 : RdAt w2 b sp ep := Blk.below hR b2 (Blk.lt hR)
              have m2 := hQ.below b2 hQ.lt
              have hqs : q < w2.heap.size := m2.lt
              have hbel2 := step_below hbel b2
              have p0 := cell0 m2
              have p1 := cell1 m2
              have g0 := m2.frozen 0
              have g1 := m2.frozen 1
              have hqr := hQ.lt
              clear b2 hR hQ hbel q0 q1 hcell
              simp only
              go_wp2_with fail
              have hW := stored (s' := s2) (e' := er1) m1 m2 (by omega)
              have hbW : Below w.heap.size w (((w2.setCell ⟨q, 0, none⟩ (.string s2)).setCell ⟨q, 1, none⟩ (.int .i64 er1)).alloc (.cells #[.string s2, .int .i64 er1] 38)) := by go_grown
              refine (HN2.out _ hW.1).mono ?_
              rintro en w3 ⟨v3, rfl, hT3, hR3, g3⟩
              have hQ3 := Blk.grown hW.2 g3 (by simp; omega)
              have hbel3 := step_only hbW g3 hg
              have hT2' := two (lo := wr.heap.size) HT2.out HO2.out hqr (by omega) g3
              clear hbW g3 hW m1 m2 p0 p1 g0 g1 hbel2 HN HN2 hqs HT2 HO2
              simp only at hT3
              go_wp2_with fail
              refine (texts _ _ n1 n1 w3 w3.heap.size hT3 hT2' (Nat.le_refl _) (by omega) (by omega)).mono ?_
              rintro en w5 ⟨rfl, b5⟩
              rw [show decide (n1 = n1) = true by simp]
              replace hQ3 := hQ3.below b5 hQ3.lt
              replace hR3 : RdAt w5 b s1 er1 := Blk.below hR3 b5 (Blk.lt hR3)
              replace hbel3 := step_below hbel3 b5
              clear b5 hT3 hT2'
              have q0 := cell0 hQ3
              have q1 := cell1 hQ3
              have HDone := Lib.hid (fun W h => (sim_done HE3.out) ▸ doneAt b s1 er1 W h)
              have hql := hQ3.lt
              go_wp2_with fail
              go_region_held3 (fun w' => w'.cell? ⟨q, 0, none⟩ = some (.string s2) ∧ w'.cell? ⟨q, 1, none⟩ = some (.int .i64 er1))
                (first | go_keep | exact ⟨(b4.cell (p := ⟨q, 0, none⟩) hql).trans q0, (b4.cell (p := ⟨q, 1, none⟩) hql).trans q1⟩)
                (first
                  | (go_at_call 22; refine (errAt b s1 er1 _ (by exact hR3)).mono ?_; rintro en w4 ⟨rfl, rfl⟩)
                  | (go_at_call 23; refine (HDone.out _ (by exact hR3)).mono ?_; rintro en w4 ⟨rfl, rfl⟩)
                  | (go_at_call 24; refine (refDone s2 er1 _).mono ?_; rintro en w4 ⟨rfl, b4⟩))
              have R := again (s1 := s1) (s2 := s2) HE3.out hs1 hs2 hR3 hQ3 hbel3 b4
              clear HDone HE3 hQ3 hR3 hbel3 q0 q1
              go_wp2
              go_roundw
              case rel => exact ⟨k + 1, by omega, by go_num, R⟩
              case measure => simp [intOf]; omega
        · go_wp2_with fail
          refine (awake wr).mono ?_
          rintro e w7 ⟨rfl, h7⟩
          have b7 := step_below hbel h7
          go_wp2
          go_ret
          exact ⟨rfl, b7⟩
    · go_enter Try.func4, Try.ntmps4
      go_wp2_with fail
      refine (awake w).mono ?_
      rintro e w7 ⟨rfl, h7⟩
      go_wp2
      go_ret
      exact ⟨rfl, h7⟩
  · go_enter Try.func4, Try.ntmps4
    go_wp2_with fail
    refine (awake w).mono ?_
    rintro e w7 ⟨rfl, h7⟩
    go_wp2
    go_ret
    exact ⟨rfl, h7⟩
set_option maxRecDepth 100000 in
theorem lifted (os : Os) (started : os.Started) (H : Type) (enc : TypeId × Value → H) :
    ReturnsInHanded {} Try.checked os 4 .any (Rows.wireReadsSpec.pre6 enc Try.prog Try.f4 Rows.wireReadsRow.domain false) (Rows.wireReadsSpec.post enc Try.prog Try.f4 false true false false) := by
  refine returnsInHanded_of_change (C := Try.checked) own started (by kernel_rfl) Try.func4
    (ChangeSpec.witness6 (enc := enc) (C := Try.checked) false ⟨#[], #[.string ByteArray.empty, .slice none 0 0], []⟩ 8 (by kernel_rfl) (by kernel_rfl) (by kernel_rfl) (by kernel_rfl)) ?_
  intro W base args ds gs before hval0 hW hcnd _
  have hval : ∀ (j : Nat) t v, Try.f4.params[j]? = some t → args[j]? = some v → Value.okWide Try.prog W .any base t v := hval0
  have hW' := hW
  obtain ⟨p, q, hA0, hV, rfl, hfz, hnd⟩ := hW
  have hA : DataW.TrodAll enc Try.prog W 0 (fun _ => true) true Try.f4.params.toList args.toList ds p := hA0
  rw [Try.params4] at hA hval
  have hK := hA
  obtain ⟨v0, vs0, d0, ds0, p0, q0, hargs, rfl, rfl, h0, r0⟩ := trodAll_cons hA
  obtain ⟨v1, vs1, d1, ds1, p1, q1, rfl, rfl, rfl, h1, r1⟩ := trodAll_cons r0
  obtain ⟨rfl, rfl, rfl⟩ := trodAll_nil r1
  obtain rfl : args = #[v0, v1] := by cases args; simp_all
  obtain ⟨rfl, rfl⟩ := trodVars_none hV
  obtain ⟨a0, rfl, rfl, rfl, w0⟩ := open_string Try.underlying9 (hval 0 9 v0 rfl rfl) h0
  obtain ⟨A1, len1, cap1, rfl⟩ := okWide_slice Try.underlying34 (hval 1 34 v1 rfl rfl)
  obtain ⟨a1, w1, l1⟩ := open_u8s Try.underlying34 Try.underlying5 (by kernel_rfl) h1
  clear hA0 hval0
  refine (walk W a0 w0 _ a1 w1 l1).mono fun e W' ⟨he, bel⟩ => ?_
  subst he
  exact ⟨_, rfl, _, _, _, [], _, [], hW', trodAll_mk1 (shut_bool Try.underlying4 _), trodAll_under laidOut bel _ _ _ _ (by kernel_rfl) hK, rfl, bel.frame _, fun h => by cases h⟩

theorem wireReads_holds : Rows.WireReadsSaid :=
  OpenClaim.holds_of_wide 4 Try.f4 rfl rfl rfl rfl rfl rfl rfl ⟨rfl, rfl, rfl, rfl, rfl⟩ rfl rfl rfl rfl rfl (by kernel_rfl) Try.func4 (by kernel_rfl)
    (of_decide_eq_true (by kernel_rfl)) (by unfold Func.isWrapper; first | (rw [if_pos (by decide +kernel)]; kernel_rfl) | (rw [if_neg (by decide +kernel)]; exact ⟨rfl, rfl⟩))
    (fun os started H enc _ => lifted os started H enc)
#print axioms wireReads_holds
end Go.Proofs.Ytdjljpkoodonjaa.wireReads
