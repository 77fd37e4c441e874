/-
  Package pairs: turnLeft, turnRight, balance.
-/
import Derived.Test.YtpjndgcliegloaaTTree
namespace Go.Proofs.Ytpjndgcliegloaa.W
open Go.RowKit

/-- a call that makes a tree of the pairs L, and leaves all else as it was -/
def Makes (L : List KV) (w : World) (e : Ending) (w' : World) : Prop := ∃ p t, e = .returned (.pointer p) ∧ IsTree w' p t ∧ t.list = L ∧ Below w.heap.size w w'
theorem joinS (w0 : World) (l r : BT) (x : KV) (pl pr : Option Addr) (W : World) (hs : Since w0 W) (hl : IsTree W pl l) (hr : IsTree W pr r) (hz : (BT.node l x r).list.length < 4611686018427387904) :
    Calls Try.prog 47 #[.pointer pl, .agg #[.string x.1, .string x.2], .pointer pr] W fun e w' => ∃ b, e = .returned (.pointer (some ⟨b, 0, none⟩)) ∧ IsTree w' (some ⟨b, 0, none⟩) (.node l x r) ∧ Since w0 w' :=
  (join l r x pl pr W hl hr hz).mono fun _ _ ⟨b, he, ht, hb⟩ => ⟨b, he, ht, since_of (step_below hs.below hb)⟩

set_option maxHeartbeats 1000000 in
theorem turnRight (ll lr r : BT) (y x : KV) (b : Nat) (pr : Option Addr) (w : World) (hl : IsTree w (some ⟨b, 0, none⟩) (.node ll y lr)) (hr : IsTree w pr r) (hz : (BT.node (.node ll y lr) x r).list.length < 4611686018427387904) :
    Calls Try.prog 56 #[.pointer (some ⟨b, 0, none⟩), .agg #[.string x.1, .string x.2], .pointer pr] w fun e w' => ∃ b', e = .returned (.pointer (some ⟨b', 0, none⟩)) ∧ IsTree w' (some ⟨b', 0, none⟩) (.node ll y (.node lr x r)) ∧ Below w.heap.size w w' := by
  obtain ⟨b0, pll, plr, e0, hb, hll, hlr⟩ := hl
  cases e0
  have HZ := Lib.hid hz
  have HB := Lib.hid (node_cells hb)
  clear hz hb
  obtain ⟨xk, xv⟩ := x
  obtain ⟨yk, yv⟩ := y
  simp only at *
  go_enter Try.func56, Try.ntmps56
  go_wp2
  have bk : Blk (w.alloc (.cells #[.string xk, .string xv] 51)) w.heap.size 51 #[.string xk, .string xv] := Blk.new _ _ _
  have s1 : Since w (w.alloc (.cells #[.string xk, .string xv] 51)) := since_of ((Below.refl _ _).alloc (Nat.le_refl _) _)
  generalize w.alloc (.cells #[.string xk, .string xv] 51) = w1 at *
  have H1 := Lib.hid (fun W (h : Since w1 W) => joinS w1 lr r (xk, xv) plr pr W h (hlr.below (h.after s1)) (hr.below (h.after s1)) (by have := HZ.out; simp only [BT.list, List.length_append, List.length_cons] at this ⊢; omega))
  have H2 := Lib.hid (fun W (h : Since w1 W) c (hc : IsTree W (some ⟨c, 0, none⟩) (.node lr (xk, xv) r)) => joinS w1 ll (.node lr (xk, xv) r) (yk, yv) pll (some ⟨c, 0, none⟩) W h (hll.below (h.after s1)) hc (by have := HZ.out; simp only [BT.list, List.length_append, List.length_cons] at this ⊢; omega))
  have k0 : w1.cell? ⟨w.heap.size, 0, none⟩ = some (.string xk) := bk.cell 0
  have k1 : w1.cell? ⟨w.heap.size, 1, none⟩ = some (.string xv) := bk.cell 1
  obtain ⟨c0, c1, c2, c3, _⟩ := HB.out
  have d0 := s1.cell c0
  have d1 := s1.cell c1
  have d2 := s1.cell c2
  have d3 := s1.cell c3
  have s2 := Since.refl w1
  clear c0 c1 c2 c3 bk
  simp only at *
  go_region_held3 (fun w' => w'.cell? ⟨w.heap.size, 0, none⟩ = some (.string xk) ∧ w'.cell? ⟨w.heap.size, 1, none⟩ = some (.string xv) ∧ w'.cell? ⟨b, 0, none⟩ = some (.pointer pll) ∧ w'.cell? ⟨b, 1, none⟩ = some (.string yk) ∧ w'.cell? ⟨b, 2, none⟩ = some (.string yv) ∧ w'.cell? ⟨b, 3, none⟩ = some (.pointer plr))
    (first | go_keep | exact ⟨sJ.cell k0, sJ.cell k1, sJ.cell d0, sJ.cell d1, sJ.cell d2, sJ.cell d3⟩ | exact ⟨sK.cell k0, sK.cell k1, sK.cell d0, sK.cell d1, sK.cell d2, sK.cell d3⟩)
    (first
      | (go_at_call 47; refine (H1.out _ (by exact s2)).mono ?_; clear H1; rintro en wJ ⟨c, rfl, tJ, sJ⟩)
      | (go_at_call 47; refine (H2.out _ (by exact sJ) _ (by exact tJ)).mono ?_; clear H2; rintro en wK ⟨d, rfl, tK, sK⟩))
  go_wp2
  go_ret
  exact ⟨_, rfl, tK, sK.after s1⟩
set_option maxHeartbeats 1000000 in
theorem turnLeft (l rl rr : BT) (x y : KV) (b : Nat) (pl : Option Addr) (w : World) (hl : IsTree w pl l) (hr : IsTree w (some ⟨b, 0, none⟩) (.node rl y rr)) (hz : (BT.node l x (.node rl y rr)).list.length < 4611686018427387904) :
    Calls Try.prog 55 #[.pointer pl, .agg #[.string x.1, .string x.2], .pointer (some ⟨b, 0, none⟩)] w fun e w' => ∃ b', e = .returned (.pointer (some ⟨b', 0, none⟩)) ∧ IsTree w' (some ⟨b', 0, none⟩) (.node (.node l x rl) y rr) ∧ Below w.heap.size w w' := by
  obtain ⟨b0, prl, prr, e0, hb, hrl, hrr⟩ := hr
  cases e0
  have HZ := Lib.hid hz
  have HB := Lib.hid (node_cells hb)
  clear hz hb
  obtain ⟨xk, xv⟩ := x
  obtain ⟨yk, yv⟩ := y
  simp only at *
  go_enter Try.func55, Try.ntmps55
  go_wp2
  have bk : Blk (w.alloc (.cells #[.string xk, .string xv] 51)) w.heap.size 51 #[.string xk, .string xv] := Blk.new _ _ _
  have s1 : Since w (w.alloc (.cells #[.string xk, .string xv] 51)) := since_of ((Below.refl _ _).alloc (Nat.le_refl _) _)
  generalize w.alloc (.cells #[.string xk, .string xv] 51) = w1 at *
  have H1 := Lib.hid (fun W (h : Since w1 W) => joinS w1 l rl (xk, xv) pl prl W h (hl.below (h.after s1)) (hrl.below (h.after s1)) (by have := HZ.out; simp only [BT.list, List.length_append, List.length_cons] at this ⊢; omega))
  have H2 := Lib.hid (fun W (h : Since w1 W) c (hc : IsTree W (some ⟨c, 0, none⟩) (.node l (xk, xv) rl)) => joinS w1 (.node l (xk, xv) rl) rr (yk, yv) (some ⟨c, 0, none⟩) prr W h hc (hrr.below (h.after s1)) (by have := HZ.out; simp only [BT.list, List.length_append, List.length_cons] at this ⊢; omega))
  have k0 : w1.cell? ⟨w.heap.size, 0, none⟩ = some (.string xk) := bk.cell 0
  have k1 : w1.cell? ⟨w.heap.size, 1, none⟩ = some (.string xv) := bk.cell 1
  obtain ⟨c0, c1, c2, c3, _⟩ := HB.out
  have d0 := s1.cell c0
  have d1 := s1.cell c1
  have d2 := s1.cell c2
  have d3 := s1.cell c3
  have s2 := Since.refl w1
  clear c0 c1 c2 c3 bk
  simp only at *
  go_region_held3 (fun w' => w'.cell? ⟨w.heap.size, 0, none⟩ = some (.string xk) ∧ w'.cell? ⟨w.heap.size, 1, none⟩ = some (.string xv) ∧ w'.cell? ⟨b, 0, none⟩ = some (.pointer prl) ∧ w'.cell? ⟨b, 1, none⟩ = some (.string yk) ∧ w'.cell? ⟨b, 2, none⟩ = some (.string yv) ∧ w'.cell? ⟨b, 3, none⟩ = some (.pointer prr))
    (first | go_keep | exact ⟨sJ.cell k0, sJ.cell k1, sJ.cell d0, sJ.cell d1, sJ.cell d2, sJ.cell d3⟩ | exact ⟨sK.cell k0, sK.cell k1, sK.cell d0, sK.cell d1, sK.cell d2, sK.cell d3⟩)
    (first
      | (go_at_call 47; refine (H1.out _ (by exact s2)).mono ?_; clear H1; rintro en wJ ⟨c, rfl, tJ, sJ⟩)
      | (go_at_call 47; refine (H2.out _ (by exact sJ) _ (by exact tJ)).mono ?_; clear H2; rintro en wK ⟨d, rfl, tK, sK⟩))
  go_wp2
  go_ret
  exact ⟨_, rfl, tK, sK.after s1⟩
end Go.Proofs.Ytpjndgcliegloaa.W
