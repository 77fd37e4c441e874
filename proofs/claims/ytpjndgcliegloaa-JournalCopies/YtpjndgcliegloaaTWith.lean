/-
  Package pairs: a tree with a pair more.
-/
import Derived.Test.YtpjndgcliegloaaTBalance
namespace Go.Proofs.Ytpjndgcliegloaa.W
open Go.RowKit

/-- a call that makes a tree of the pairs L, seen since w0, and keeps every cell of W -/
def MakesQ (L : List KV) (w0 W : World) (e : Ending) (w' : World) : Prop := ∃ p t, e = .returned (.pointer p) ∧ IsTree w' p t ∧ t.list = L ∧ Since w0 w' ∧ ∀ a v, W.cell? a = some v → w'.cell? a = some v
theorem makesQ {f : FuncId} {args : Array Value} {L : List KV} {w0 W : World} (hs : Since w0 W) (h : Calls Try.prog f args W (Makes L W)) : Calls Try.prog f args W (MakesQ L w0 W) :=
  h.mono fun _ _ ⟨p, t, he, ht, hl, hb⟩ => ⟨p, t, he, ht, hl, since_of (step_below hs.below hb), fun _ _ hc => (since_of hb).cell hc⟩
theorem compareAs {a b : ByteArray} {n : Int} (h : kc a b = n) (w : World) : Calls Try.prog 46 #[.string a, .string b] w fun e w' => e = .returned (.int .i64 n) ∧ w' = w := h ▸ compare a b w

theorem withNil (x : KV) (w : World) : Calls Try.prog 39 #[.pointer none, .agg #[.string x.1, .string x.2]] w (Makes [x] w) := by
  have H := Lib.hid (fun W (h : Since w W) => joinS w .leaf .leaf x none none W h rfl rfl (by simp [BT.list]))
  obtain ⟨xk, xv⟩ := x
  simp only at *
  go_enter Try.func39, Try.ntmps39
  go_wp2_with fail
  have bk : Blk (w.alloc (.cells #[.string xk, .string xv] 51)) w.heap.size 51 #[.string xk, .string xv] := Blk.new _ _ _
  have s1 : Since w (w.alloc (.cells #[.string xk, .string xv] 51)) := since_of ((Below.refl _ _).alloc (Nat.le_refl _) _)
  generalize w.alloc (.cells #[.string xk, .string xv] 51) = w1 at *
  have k0 : w1.cell? ⟨w.heap.size, 0, none⟩ = some (.string xk) := bk.cell 0
  have k1 : w1.cell? ⟨w.heap.size, 1, none⟩ = some (.string xv) := bk.cell 1
  clear bk
  refine (H.out _ (by exact s1)).mono ?_
  rintro e w2 ⟨b', rfl, hT, hB⟩
  go_wp2
  go_ret
  exact ⟨_, _, rfl, hT, rfl, hB.below⟩
set_option maxHeartbeats 2000000 in
theorem withLeft (l r : BT) (x y : KV) (b : Nat) (w : World) (hT : IsTree w (some ⟨b, 0, none⟩) (.node l y r)) (hu : Up (BT.node l y r).list) (hz : (BT.node l y r).list.length + 1 < 4611686018427387904) (hk : kc x.1 y.1 = -1)
    (ih : ∀ p w, IsTree w p l → Up l.list → l.list.length + 1 < 4611686018427387904 → Calls Try.prog 39 #[.pointer p, .agg #[.string x.1, .string x.2]] w (Makes (lset l.list x.1 x.2) w)) :
    Calls Try.prog 39 #[.pointer (some ⟨b, 0, none⟩), .agg #[.string x.1, .string x.2]] w (Makes (lset (BT.node l y r).list x.1 x.2) w) := by
  obtain ⟨b0, pl, pr, e0, hb, hl, hr⟩ := hT
  cases e0
  have HN := Lib.hid (node_cells hb)
  have hu' := up_mid hu
  simp only [BT.list, List.length_append, List.length_cons] at hz
  have H1 := Lib.hid (fun W (h : Since w W) => makesQ h (ih pl W (hl.below h.below) hu'.1 (by omega)))
  have H2 := Lib.hid (fun W (h : Since w W) p' t' (h1 : IsTree W p' t') (h2 : t'.list = lset l.list x.1 x.2) => makesQ h (balance t' r y p' pr W h1 (hr.below h.below) (by
    have := lset_len (k := x.1) (v := x.2) l.list
    simp only [BT.list, List.length_append, List.length_cons, h2]; omega)))
  have HL := Lib.hid (show ∀ t' : BT, t'.list = lset l.list x.1 x.2 → (BT.node t' y r).list = lset (BT.node l y r).list x.1 x.2 from fun t' h => by simp only [BT.list, h]; rw [lset_left hk])
  have HC := Lib.hid (fun W => compareAs hk W)
  clear hb hu' hu hz ih hl hr hk
  obtain ⟨xk, xv⟩ := x
  obtain ⟨yk, yv⟩ := y
  simp only at *
  go_enter Try.func39, Try.ntmps39
  go_wp2_with fail
  have bk : Blk (w.alloc (.cells #[.string xk, .string xv] 51)) w.heap.size 51 #[.string xk, .string xv] := Blk.new _ _ _
  have s1 : Since w (w.alloc (.cells #[.string xk, .string xv] 51)) := since_of ((Below.refl _ _).alloc (Nat.le_refl _) _)
  generalize w.alloc (.cells #[.string xk, .string xv] 51) = w1 at *
  have k0 : w1.cell? ⟨w.heap.size, 0, none⟩ = some (.string xk) := bk.cell 0
  have k1 : w1.cell? ⟨w.heap.size, 1, none⟩ = some (.string xv) := bk.cell 1
  clear bk
  obtain ⟨c0, c1, c2, c3, _⟩ := HN.out
  have d0 := s1.cell c0
  have d1 := s1.cell c1
  have d2 := s1.cell c2
  have d3 := s1.cell c3
  clear c0 c1 c2 c3
  go_region_held3 (fun w' => w'.cell? ⟨w.heap.size, 0, none⟩ = some (.string xk) ∧ w'.cell? ⟨w.heap.size, 1, none⟩ = some (.string xv) ∧ w'.cell? ⟨b, 0, none⟩ = some (.pointer pl) ∧ w'.cell? ⟨b, 1, none⟩ = some (.string yk) ∧ w'.cell? ⟨b, 2, none⟩ = some (.string yv) ∧ w'.cell? ⟨b, 3, none⟩ = some (.pointer pr))
    (go_keep)
    (first
      | (go_at_call 46; refine (HC.out _).mono ?_; rintro en wJ ⟨rfl, rfl⟩))
  go_wp2_with fail
  go_region_held3 (fun w' => w'.cell? ⟨w.heap.size, 0, none⟩ = some (.string xk) ∧ w'.cell? ⟨w.heap.size, 1, none⟩ = some (.string xv) ∧ w'.cell? ⟨b, 0, none⟩ = some (.pointer pl) ∧ w'.cell? ⟨b, 1, none⟩ = some (.string yk) ∧ w'.cell? ⟨b, 2, none⟩ = some (.string yv) ∧ w'.cell? ⟨b, 3, none⟩ = some (.pointer pr))
    (first | go_keep | exact ⟨qJ _ _ k0, qJ _ _ k1, qJ _ _ d0, qJ _ _ d1, qJ _ _ d2, qJ _ _ d3⟩ | exact ⟨qK _ _ (qJ _ _ k0), qK _ _ (qJ _ _ k1), qK _ _ (qJ _ _ d0), qK _ _ (qJ _ _ d1), qK _ _ (qJ _ _ d2), qK _ _ (qJ _ _ d3)⟩)
    (first
      | (go_at_call 39; refine (H1.out _ (by exact s1)).mono ?_; clear H1; rintro en wJ ⟨p', t', rfl, tJ, lJ, bJ, qJ⟩)
      | (go_at_call 48; refine (H2.out _ (by exact bJ) _ _ (by exact tJ) (by exact lJ)).mono ?_; clear H2; rintro en wK ⟨p'', t'', rfl, tK, lK, bK, qK⟩))
  go_wp2
  go_ret
  exact ⟨_, _, rfl, tK, lK.trans (HL.out _ lJ), bK.below⟩
set_option maxHeartbeats 2000000 in
theorem withRight (l r : BT) (x y : KV) (b : Nat) (w : World) (hT : IsTree w (some ⟨b, 0, none⟩) (.node l y r)) (hu : Up (BT.node l y r).list) (hz : (BT.node l y r).list.length + 1 < 4611686018427387904) (hk : kc x.1 y.1 = 1)
    (ih : ∀ p w, IsTree w p r → Up r.list → r.list.length + 1 < 4611686018427387904 → Calls Try.prog 39 #[.pointer p, .agg #[.string x.1, .string x.2]] w (Makes (lset r.list x.1 x.2) w)) :
    Calls Try.prog 39 #[.pointer (some ⟨b, 0, none⟩), .agg #[.string x.1, .string x.2]] w (Makes (lset (BT.node l y r).list x.1 x.2) w) := by
  obtain ⟨b0, pl, pr, e0, hb, hl, hr⟩ := hT
  cases e0
  have HN := Lib.hid (node_cells hb)
  have hu' := up_mid hu
  simp only [BT.list, List.length_append, List.length_cons] at hz
  have H1 := Lib.hid (fun W (h : Since w W) => makesQ h (ih pr W (hr.below h.below) hu'.2.1 (by omega)))
  have H2 := Lib.hid (fun W (h : Since w W) p' t' (h1 : IsTree W p' t') (h2 : t'.list = lset r.list x.1 x.2) => makesQ h (balance l t' y pl p' W (hl.below h.below) h1 (by
    have := lset_len (k := x.1) (v := x.2) r.list
    simp only [BT.list, List.length_append, List.length_cons, h2]; omega)))
  have HL := Lib.hid (show ∀ t' : BT, t'.list = lset r.list x.1 x.2 → (BT.node l y t').list = lset (BT.node l y r).list x.1 x.2 from fun t' h => by simp only [BT.list, h]; rw [lset_right hu hk])
  have HC := Lib.hid (fun W => compareAs hk W)
  clear hb hu' hu hz ih hl hr hk
  obtain ⟨xk, xv⟩ := x
  obtain ⟨yk, yv⟩ := y
  simp only at *
  go_enter Try.func39, Try.ntmps39
  go_wp2_with fail
  have bk : Blk (w.alloc (.cells #[.string xk, .string xv] 51)) w.heap.size 51 #[.string xk, .string xv] := Blk.new _ _ _
  have s1 : Since w (w.alloc (.cells #[.string xk, .string xv] 51)) := since_of ((Below.refl _ _).alloc (Nat.le_refl _) _)
  generalize w.alloc (.cells #[.string xk, .string xv] 51) = w1 at *
  have k0 : w1.cell? ⟨w.heap.size, 0, none⟩ = some (.string xk) := bk.cell 0
  have k1 : w1.cell? ⟨w.heap.size, 1, none⟩ = some (.string xv) := bk.cell 1
  clear bk
  obtain ⟨c0, c1, c2, c3, _⟩ := HN.out
  have d0 := s1.cell c0
  have d1 := s1.cell c1
  have d2 := s1.cell c2
  have d3 := s1.cell c3
  clear c0 c1 c2 c3
  go_region_held3 (fun w' => w'.cell? ⟨w.heap.size, 0, none⟩ = some (.string xk) ∧ w'.cell? ⟨w.heap.size, 1, none⟩ = some (.string xv) ∧ w'.cell? ⟨b, 0, none⟩ = some (.pointer pl) ∧ w'.cell? ⟨b, 1, none⟩ = some (.string yk) ∧ w'.cell? ⟨b, 2, none⟩ = some (.string yv) ∧ w'.cell? ⟨b, 3, none⟩ = some (.pointer pr))
    (go_keep)
    (first
      | (go_at_call 46; refine (HC.out _).mono ?_; rintro en wJ ⟨rfl, rfl⟩))
  go_wp2_with fail
  go_region_held3 (fun w' => w'.cell? ⟨w.heap.size, 0, none⟩ = some (.string xk) ∧ w'.cell? ⟨w.heap.size, 1, none⟩ = some (.string xv) ∧ w'.cell? ⟨b, 0, none⟩ = some (.pointer pl) ∧ w'.cell? ⟨b, 1, none⟩ = some (.string yk) ∧ w'.cell? ⟨b, 2, none⟩ = some (.string yv) ∧ w'.cell? ⟨b, 3, none⟩ = some (.pointer pr))
    (first | go_keep | exact ⟨qJ _ _ k0, qJ _ _ k1, qJ _ _ d0, qJ _ _ d1, qJ _ _ d2, qJ _ _ d3⟩ | exact ⟨qK _ _ (qJ _ _ k0), qK _ _ (qJ _ _ k1), qK _ _ (qJ _ _ d0), qK _ _ (qJ _ _ d1), qK _ _ (qJ _ _ d2), qK _ _ (qJ _ _ d3)⟩)
    (first
      | (go_at_call 39; refine (H1.out _ (by exact s1)).mono ?_; clear H1; rintro en wJ ⟨p', t', rfl, tJ, lJ, bJ, qJ⟩)
      | (go_at_call 48; refine (H2.out _ (by exact bJ) _ _ (by exact tJ) (by exact lJ)).mono ?_; clear H2; rintro en wK ⟨p'', t'', rfl, tK, lK, bK, qK⟩))
  go_wp2
  go_ret
  exact ⟨_, _, rfl, tK, lK.trans (HL.out _ lJ), bK.below⟩
set_option maxHeartbeats 2000000 in
theorem withHere (l r : BT) (x y : KV) (b : Nat) (w : World) (hT : IsTree w (some ⟨b, 0, none⟩) (.node l y r)) (hu : Up (BT.node l y r).list) (hz : (BT.node l y r).list.length + 1 < 4611686018427387904) (hk : kc x.1 y.1 = 0) :
    Calls Try.prog 39 #[.pointer (some ⟨b, 0, none⟩), .agg #[.string x.1, .string x.2]] w (Makes (lset (BT.node l y r).list x.1 x.2) w) := by
  obtain ⟨b0, pl, pr, e0, hb, hl, hr⟩ := hT
  cases e0
  have HN := Lib.hid (node_cells hb)
  have H1 := Lib.hid (fun W (h : Since w W) => nodeS h (join l r x pl pr W (hl.below h.below) (hr.below h.below) (by simp only [BT.list, List.length_append, List.length_cons] at hz ⊢; omega)))
  have HL := Lib.hid (show (BT.node l x r).list = lset (BT.node l y r).list x.1 x.2 by simp only [BT.list]; rw [lset_here hu hk])
  have HC := Lib.hid (fun W => compareAs hk W)
  clear hb hu hz hl hr hk
  obtain ⟨xk, xv⟩ := x
  obtain ⟨yk, yv⟩ := y
  simp only at *
  go_enter Try.func39, Try.ntmps39
  go_wp2_with fail
  have bk : Blk (w.alloc (.cells #[.string xk, .string xv] 51)) w.heap.size 51 #[.string xk, .string xv] := Blk.new _ _ _
  have s1 : Since w (w.alloc (.cells #[.string xk, .string xv] 51)) := since_of ((Below.refl _ _).alloc (Nat.le_refl _) _)
  generalize w.alloc (.cells #[.string xk, .string xv] 51) = w1 at *
  have k0 : w1.cell? ⟨w.heap.size, 0, none⟩ = some (.string xk) := bk.cell 0
  have k1 : w1.cell? ⟨w.heap.size, 1, none⟩ = some (.string xv) := bk.cell 1
  clear bk
  obtain ⟨c0, c1, c2, c3, _⟩ := HN.out
  have d0 := s1.cell c0
  have d1 := s1.cell c1
  have d2 := s1.cell c2
  have d3 := s1.cell c3
  clear c0 c1 c2 c3
  go_region_held3 (fun w' => w'.cell? ⟨w.heap.size, 0, none⟩ = some (.string xk) ∧ w'.cell? ⟨w.heap.size, 1, none⟩ = some (.string xv) ∧ w'.cell? ⟨b, 0, none⟩ = some (.pointer pl) ∧ w'.cell? ⟨b, 1, none⟩ = some (.string yk) ∧ w'.cell? ⟨b, 2, none⟩ = some (.string yv) ∧ w'.cell? ⟨b, 3, none⟩ = some (.pointer pr))
    (go_keep)
    (first
      | (go_at_call 46; refine (HC.out _).mono ?_; rintro en wJ ⟨rfl, rfl⟩))
  go_wp2_with fail
  go_region_held3 (fun w' => w'.cell? ⟨w.heap.size, 0, none⟩ = some (.string xk) ∧ w'.cell? ⟨w.heap.size, 1, none⟩ = some (.string xv) ∧ w'.cell? ⟨b, 0, none⟩ = some (.pointer pl) ∧ w'.cell? ⟨b, 1, none⟩ = some (.string yk) ∧ w'.cell? ⟨b, 2, none⟩ = some (.string yv) ∧ w'.cell? ⟨b, 3, none⟩ = some (.pointer pr))
    (first | go_keep | exact ⟨qJ _ _ k0, qJ _ _ k1, qJ _ _ d0, qJ _ _ d1, qJ _ _ d2, qJ _ _ d3⟩)
    (first
      | (go_at_call 47; refine (H1.out _ (by exact s1)).mono ?_; clear H1; rintro en wJ ⟨b', rfl, tJ, bJ, qJ⟩))
  go_wp2
  go_ret
  exact ⟨_, _, rfl, tJ, HL.out, bJ.below⟩
theorem withC (x : KV) (t : BT) : ∀ p w, IsTree w p t → Up t.list → t.list.length + 1 < 4611686018427387904 → Calls Try.prog 39 #[.pointer p, .agg #[.string x.1, .string x.2]] w (Makes (lset t.list x.1 x.2) w) := by
  induction t with
  | leaf =>
    intro p w hT _ _
    obtain rfl : p = none := hT
    exact withNil x w
  | node l y r ihl ihr =>
    intro p w hT hu hz
    have hT' := hT
    obtain ⟨b, _, _, rfl, _⟩ := hT'
    rcases kc_cases x.1 y.1 with h | h | h
    · exact withLeft l r x y b w hT hu hz h ihl
    · exact withHere l r x y b w hT hu hz h
    · exact withRight l r x y b w hT hu hz h ihr
end Go.Proofs.Ytpjndgcliegloaa.W
