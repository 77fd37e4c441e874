/-
  Texts of one level, merged: WRdr, SGen.
-/
import Derived.Test.YtjohkimjdkginaaDoorZ0a
/-
  The methods of wire.Reader but for List, at a reader and at nil.
-/
namespace Go.Proofs.YtjohkimjdkginaaDoor.W
open Go.RowKit

theorem new (s : ByteArray) (w : World) :
    Calls Tryd.prog 21 #[.string s] w fun e w' => e = .returned (.pointer (some ⟨w.heap.size, 0, none⟩)) ∧ w' = w.alloc (.cells #[.string s, .int .i64 0] 62) := by
  go_enter Tryd.func21, Tryd.ntmps21
  go_wp2
  go_ret
  exact ⟨rfl, rfl⟩

theorem errNil (w : World) : Calls Tryd.prog 36 #[.pointer none] w fun e w' => e = .returned (.int .i64 2) ∧ w = w' := by
  go_enter Tryd.func36, Tryd.ntmps36
  go_wp2
  go_ret
  exact ⟨rfl, rfl⟩
theorem errAt (b : Nat) (s : ByteArray) (e : Int) (w : World) (h : RdAt w b s e) :
    Calls Tryd.prog 36 #[.pointer (some ⟨b, 0, none⟩)] w fun e' w' => e' = .returned (.int .i64 e) ∧ w = w' := by
  have h1 := Blk.cell h 1
  simp only [List.getElem?_toArray, List.getElem?_cons_succ, List.getElem?_cons_zero] at h1
  go_enter Tryd.func36, Tryd.ntmps36
  go_wp2
  go_ret
  exact ⟨rfl, rfl⟩
theorem doneNil (w : World) : Calls Tryd.prog 24 #[.pointer none] w fun e w' => e = .returned (.int .i64 2) ∧ w = w' := by
  go_enter Tryd.func24, Tryd.ntmps24
  go_wp2_with (go_at_call 36; refine (errNil _).mono ?_; rintro e w' ⟨rfl, rfl⟩)
  go_ret
  exact ⟨rfl, rfl⟩
theorem doneAt (b : Nat) (s : ByteArray) (e : Int) (w : World) (h : RdAt w b s e) :
    Calls Tryd.prog 24 #[.pointer (some ⟨b, 0, none⟩)] w fun e' w' => e' = .returned (.int .i64 (stDone s e)) ∧ w = w' := by
  have h0 := Blk.cell h 0
  simp only [List.getElem?_toArray, List.getElem?_cons_zero] at h0
  have HE := Lib.hid (errAt b s e w h)
  by_cases he : e = 0
  · subst he
    by_cases hs : s.size = 0
    · have hE := empty_of s hs
      have HD := Lib.hid (show stDone s 0 = 0 by simp [stDone, hs])
      go_enter Tryd.func24, Tryd.ntmps24
      go_wp2_with (go_at_call 36; refine HE.out.mono ?_; rintro e w' ⟨rfl, rfl⟩)
      go_ret
      exact ⟨by rw [HD.out]; rfl, rfl⟩
    · have hE := nonempty_of s (by omega)
      have HD := Lib.hid (show stDone s 0 = 6 by simp [stDone, hs])
      go_enter Tryd.func24, Tryd.ntmps24
      go_wp2_with (go_at_call 36; refine HE.out.mono ?_; rintro e w' ⟨rfl, rfl⟩)
      go_ret
      exact ⟨by rw [HD.out]; rfl, rfl⟩
  · have hb : (e != 0) = true := by rw [bne_iff_ne]; exact he
    have HD := Lib.hid (show stDone s e = e by simp [stDone, he])
    go_enter Tryd.func24, Tryd.ntmps24
    go_wp2_with (go_at_call 36; refine HE.out.mono ?_; rintro e w' ⟨rfl, rfl⟩)
    go_ret
    exact ⟨by rw [HD.out]; rfl, rfl⟩
theorem numNil (w : World) : Calls Tryd.prog 23 #[.pointer none] w fun e w' => e = .returned (.int .i64 0) ∧ w = w' := by
  go_enter Tryd.func23, Tryd.ntmps23
  go_wp2_with (go_at_call 36; refine (errNil _).mono ?_; rintro e w' ⟨rfl, rfl⟩)
  go_ret
  exact ⟨rfl, rfl⟩

/-- a call on the reader at b: its answer, the reader behind it, nothing else turned -/
def RdPost (w : World) (b : Nat) (v : Value) (s : ByteArray) (e : Int) (en : Ending) (w' : World) : Prop := en = .returned v ∧ RdAt w' b s e ∧ w.grownBy w' (some b)

set_option maxHeartbeats 1000000 in
set_option maxRecDepth 100000 in
theorem numAt (b : Nat) (s : ByteArray) (e : Int) (w : World) (h : RdAt w b s e) (hm : s.size ≤ 9223372036854775807) :
    Calls Tryd.prog 23 #[.pointer (some ⟨b, 0, none⟩)] w (RdPost w b (.int .i64 ((stNum s e).2 : Nat)) (stNum s e).1.1 (stNum s e).1.2) := by
  have h0 := Blk.cell h 0
  have h1 := Blk.cell h 1
  simp only [List.getElem?_toArray, List.getElem?_cons_zero, List.getElem?_cons_succ] at h0 h1
  have HE := Lib.hid (errAt b s e w h)
  by_cases he : e = 0
  · subst he
    have hdn := decodeNum s w hm
    have hf := dec_facts s.data.toList
    rw [size_list] at hf
    obtain ⟨n, sz, er, hd⟩ : ∃ n sz er, dec s.data.toList = (n, sz, er) := ⟨_, _, _, rfl⟩
    have HS := Lib.hid (show stNum s 0 = if er ≠ 0 then ((s, er), 0) else ((s.extract sz s.size, 0), n) by simp [stNum, hd])
    rw [hd] at hdn hf
    simp only at hf
    have HDN := Lib.hid hdn
    clear hdn hd
    by_cases her : er = 0
    · subst her
      have HS2 := Lib.hid (HS.out.trans (if_neg (by simp)))
      clear HS
      go_enter Tryd.func23, Tryd.ntmps23
      go_wp2_with (go_at_call 36; refine HE.out.mono ?_; rintro e w' ⟨rfl, rfl⟩)
      refine HDN.out.mono ?_
      rintro e w1 ⟨rfl, hb⟩
      unfold retDec
      have hR := Blk.below h hb (Blk.lt h)
      have k0 := (Blk.cell hR 0)
      have k0f := (Blk.frozen hR 0)
      simp only [List.getElem?_toArray, List.getElem?_cons_zero] at k0
      go_wp2
      go_ret
      rw [HS2.out]
      exact ⟨rfl, Blk.set_ hR 0 _, only_set (only_of_below (only_refl _ _) hb (Nat.le_refl _)) 0 _⟩
    · have hne : (er != 0) = true := by rw [bne_iff_ne]; exact her
      have HS2 := Lib.hid (HS.out.trans (if_pos her))
      clear HS
      go_enter Tryd.func23, Tryd.ntmps23
      go_wp2_with (go_at_call 36; refine HE.out.mono ?_; rintro e w' ⟨rfl, rfl⟩)
      refine HDN.out.mono ?_
      rintro e w1 ⟨rfl, hb⟩
      unfold retDec
      have hR := Blk.below h hb (Blk.lt h)
      have k1 := (Blk.cell hR 1)
      have k1f := (Blk.frozen hR 1)
      simp only [List.getElem?_toArray, List.getElem?_cons_zero, List.getElem?_cons_succ] at k1
      go_wp2
      go_ret
      rw [HS2.out]
      exact ⟨rfl, Blk.set_ hR 1 _, only_set (only_of_below (only_refl _ _) hb (Nat.le_refl _)) 1 _⟩
  · have hb : (e != 0) = true := by rw [bne_iff_ne]; exact he
    have HS := Lib.hid (stNum_err s he)
    go_enter Tryd.func23, Tryd.ntmps23
    go_wp2_with (go_at_call 36; refine HE.out.mono ?_; rintro e w' ⟨rfl, rfl⟩)
    go_ret
    rw [HS.out]
    exact ⟨rfl, h, only_refl _ _⟩

theorem lenNil (w : World) (most : Nat) : Calls Tryd.prog 35 #[.pointer none, .int .i64 most] w fun e w' => e = .returned (.int .i64 0) ∧ w = w' := by
  go_enter Tryd.func35, Tryd.ntmps35
  go_wp2_with (go_at_call 23; refine (numNil _).mono ?_; rintro e w' ⟨rfl, rfl⟩)
  go_ret
  exact ⟨rfl, rfl⟩
set_option maxHeartbeats 1000000 in
set_option maxRecDepth 100000 in
theorem lenAt (b : Nat) (s : ByteArray) (e : Int) (most : Nat) (w : World) (h : RdAt w b s e) (hm : s.size ≤ 9223372036854775807) :
    Calls Tryd.prog 35 #[.pointer (some ⟨b, 0, none⟩), .int .i64 most] w (RdPost w b (.int .i64 ((stLen s e most).2 : Nat)) (stLen s e most).1.1 (stLen s e most).1.2) := by
  have HN := Lib.hid (numAt b s e w h hm)
  have HS := Lib.hid (show stLen s e most = if most < (stNum s e).2 then (((stNum s e).1.1, 4), 0) else stNum s e from rfl)
  obtain ⟨⟨⟨s1, e1⟩, n⟩, hd⟩ : ∃ r, stNum s e = r := ⟨_, rfl⟩
  rw [hd] at HN HS
  clear hd
  by_cases hn : most < n
  · have HS2 := Lib.hid (HS.out.trans (if_pos hn))
    clear HS
    go_enter Tryd.func35, Tryd.ntmps35
    go_wp2_with fail
    refine HN.out.mono ?_
    rintro e w1 ⟨rfl, hR, hg⟩
    have k1 := (Blk.cell hR 1)
    have k1f := (Blk.frozen hR 1)
    simp only [List.getElem?_toArray, List.getElem?_cons_zero, List.getElem?_cons_succ] at k1
    go_wp2
    go_ret
    rw [HS2.out]
    exact ⟨rfl, Blk.set_ hR 1 _, only_set hg 1 _⟩
  · have HS2 := Lib.hid (HS.out.trans (if_neg hn))
    clear HS
    go_enter Tryd.func35, Tryd.ntmps35
    go_wp2_with fail
    refine HN.out.mono ?_
    rintro e w1 ⟨rfl, hR, hg⟩
    go_wp2
    go_ret
    rw [HS2.out]
    exact ⟨rfl, hR, hg⟩

theorem textNil (w : World) : Calls Tryd.prog 22 #[.pointer none] w fun e w' => e = .returned (.string .empty) ∧ w = w' := by
  go_enter Tryd.func22, Tryd.ntmps22
  go_wp2_with fail
  refine (lenNil w 65536).mono ?_
  rintro e w' ⟨rfl, rfl⟩
  go_wp2_with (go_at_call 36; refine (errNil _).mono ?_; rintro e w' ⟨rfl, rfl⟩)
  go_ret
  exact ⟨rfl, rfl⟩
set_option maxHeartbeats 1000000 in
set_option maxRecDepth 100000 in
theorem textAt (b : Nat) (s : ByteArray) (e : Int) (w : World) (h : RdAt w b s e) (hm : s.size ≤ 9223372036854775807) :
    Calls Tryd.prog 22 #[.pointer (some ⟨b, 0, none⟩)] w (RdPost w b (.string (stText s e).2) (stText s e).1.1 (stText s e).1.2) := by
  have HN := Lib.hid (lenAt b s e 65536 w h hm)
  have HS := Lib.hid (show stText s e = (if (stLen s e 65536).1.2 ≠ 0 then ((stLen s e 65536).1, .empty) else if (stLen s e 65536).1.1.size < (stLen s e 65536).2 then (((stLen s e 65536).1.1, 5), .empty) else (((stLen s e 65536).1.1.extract (stLen s e 65536).2 (stLen s e 65536).1.1.size, 0), (stLen s e 65536).1.1.extract 0 (stLen s e 65536).2)) from rfl)
  have hf := stLen_facts s e 65536
  obtain ⟨⟨⟨s1, e1⟩, n⟩, hd⟩ : ∃ r, stLen s e 65536 = r := ⟨_, rfl⟩
  rw [hd] at HN HS hf
  clear hd
  simp only at hf
  by_cases he : e1 = 0
  · subst he
    have HS1 := Lib.hid (HS.out.trans (if_neg (by simp)))
    by_cases hn : s1.size < n
    · have HS2 := Lib.hid (HS1.out.trans (if_pos hn))
      clear HS HS1
      go_enter Tryd.func22, Tryd.ntmps22
      go_wp2_with fail
      refine HN.out.mono ?_
      rintro e w1 ⟨rfl, hR, hg⟩
      have k0 := (Blk.cell hR 0)
      have k1 := (Blk.cell hR 1)
      have k1f := (Blk.frozen hR 1)
      simp only [List.getElem?_toArray, List.getElem?_cons_zero, List.getElem?_cons_succ] at k0 k1
      go_wp2_with fail
      refine (errAt b s1 0 w1 hR).mono ?_
      rintro e w2 ⟨rfl, rfl⟩
      go_wp2
      go_ret
      rw [HS2.out]
      exact ⟨rfl, Blk.set_ hR 1 _, only_set hg 1 _⟩
    · have HS2 := Lib.hid (HS1.out.trans (if_neg hn))
      clear HS HS1
      go_enter Tryd.func22, Tryd.ntmps22
      go_wp2_with fail
      refine HN.out.mono ?_
      rintro e w1 ⟨rfl, hR, hg⟩
      have k0 := (Blk.cell hR 0)
      have k0f := (Blk.frozen hR 0)
      simp only [List.getElem?_toArray, List.getElem?_cons_zero] at k0
      go_wp2_with fail
      refine (errAt b s1 0 w1 hR).mono ?_
      rintro e w2 ⟨rfl, rfl⟩
      go_wp2
      go_ret
      rw [HS2.out]
      exact ⟨rfl, Blk.set_ hR 0 _, only_set hg 0 _⟩
  · have hne : (e1 != 0) = true := by rw [bne_iff_ne]; exact he
    have HS2 := Lib.hid (HS.out.trans (if_pos he))
    clear HS
    go_enter Tryd.func22, Tryd.ntmps22
    go_wp2_with fail
    refine HN.out.mono ?_
    rintro e w1 ⟨rfl, hR, hg⟩
    go_wp2_with fail
    refine (errAt b s1 e1 w1 hR).mono ?_
    rintro e w2 ⟨rfl, rfl⟩
    go_wp2
    go_ret
    rw [HS2.out]
    exact ⟨rfl, hR, hg⟩
end Go.Proofs.YtjohkimjdkginaaDoor.W
/-
  SHA-256 by certificates: a list of words and a list of states are the schedule and the rounds if each follows from those before it.
-/
namespace Go.Proofs.YtjohkimjdkginaaDoor.W

/-! A list of words, a list of states: if each follows from those before it, they are the schedule and the rounds. -/
theorem arr_of (l : List UInt8) (ws : List Nat) (h : ∀ t, t < 64 → nth ws t = wordNo l ws t) : ∀ t, t ≤ 64 → ∀ i, i < t → nth (arr l t) i = nth ws i := by
  intro t
  induction t with
  | zero => intro _ i hi; omega
  | succ t ih =>
    intro ht i hi
    have ih' := ih (by omega)
    show nth ((arr l t).set t (wordNo l (arr l t) t)) i = nth ws i
    by_cases e : t = i
    · subst e
      rw [nth_set_same _ _ _ (by rw [arr_len]; omega), h t (by omega)]
      unfold wordNo
      by_cases hlt : t < 16
      · rw [if_pos hlt, if_pos hlt]
      · rw [if_neg hlt, if_neg hlt]
        unfold nextW
        rw [ih' (t - 2) (by omega), ih' (t - 7) (by omega), ih' (t - 15) (by omega), ih' (t - 16) (by omega)]
    · rw [nth_set_other _ _ _ _ e, ih' i (by omega)]
theorem arr_is (l : List UInt8) (ws : List Nat) (hl : ws.length = 64) (h : ∀ t, t < 64 → nth ws t = wordNo l ws t) : arr l 64 = ws :=
  nth_ext (by rw [arr_len, hl]) fun i hi => arr_of l ws h 64 (Nat.le_refl _) i (by rw [arr_len] at hi; exact hi)
def stAt (ss : List Reg) (t : Nat) : Reg := ss.getD t ⟨0, 0, 0, 0, 0, 0, 0, 0⟩
theorem rds_is (ws : List Nat) (r : Reg) (ss : List Reg) (h0 : stAt ss 0 = r) (h : ∀ t, t < 64 → stAt ss (t + 1) = rnd (nth kk t) (nth ws t) (stAt ss t)) : ∀ t, t ≤ 64 → rds ws r t = stAt ss t := by
  intro t
  induction t with
  | zero => intro _; exact h0.symm
  | succ t ih =>
    intro ht
    show rnd (nth kk t) (nth ws t) (rds ws r t) = _
    rw [ih (by omega), h t (by omega)]
theorem blk_is {l : List UInt8} {h : List Nat} {ws : List Nat} {ss : List Reg} (hl : ws.length = 64) (hw : ∀ t, t < 64 → nth ws t = wordNo l ws t) (h0 : stAt ss 0 = regOf h) (hs : ∀ t, t < 64 → stAt ss (t + 1) = rnd (nth kk t) (nth ws t) (stAt ss t)) : blk h l = addTo h (stAt ss 64).list 8 := by
  unfold blk
  rw [arr_is l ws hl hw, rds_is ws _ ss h0 hs 64 (Nat.le_refl _)]
theorem sha_one (l : List UInt8) (h : (padded l).length = 64) : shaOf l = outTo (blk regs0 (padded l)) 8 := by
  unfold shaOf
  rw [h]
  show outTo (blk regs0 (((padded l).drop 0).take 64)) 8 = _
  rw [List.drop_zero, List.take_of_length_le (by omega)]
theorem sha_two (l : List UInt8) (b1 b2 : List UInt8) (h1 h2 : List Nat) (hl : (padded l).length = 128) (e1 : (padded l).take 64 = b1) (e2 : (padded l).drop 64 = b2) (k1 : blk regs0 b1 = h1) (k2 : blk h1 b2 = h2) : shaOf l = outTo h2 8 := by
  unfold shaOf
  rw [hl]
  show outTo (blk (blk regs0 (((padded l).drop 0).take 64)) (((padded l).drop 64).take 64)) 8 = _
  rw [List.drop_zero, e1, k1, e2, List.take_of_length_le (by rw [← e2, List.length_drop, hl]; omega), k2]
end Go.Proofs.YtjohkimjdkginaaDoor.W
