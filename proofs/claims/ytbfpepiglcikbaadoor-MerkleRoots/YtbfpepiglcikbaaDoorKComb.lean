/-
  merkle.combine, Root.
-/
import Derived.Test.YtbfpepiglcikbaaDoorKProg
import Derived.Test.YtbfpepiglcikbaaDoorKSplit
import Derived.Test.YtbfpepiglcikbaaDoorCPart
import Derived.Deep.RegionHeld3
namespace Go.Proofs.YtbfpepiglcikbaaDoor.W
open Go.RowKit

set_option maxHeartbeats 1000000 in
theorem comb0 (v f g : Value) (w : World) (hP : Prs w v []) :
    Calls Tryd.prog 28 #[v, f, g] w fun e w' => e = .returned (.string (bs [])) ∧ Below w.heap.size w w' := by
  obtain ⟨A, cap, rfl, _, _⟩ := hP
  go_enter Tryd.func28, Tryd.ntmps28
  go_wp2
  go_ret
  exact ⟨rfl, Below.refl _ _⟩
set_option maxHeartbeats 1000000 in
theorem comb1 (v g : Value) (p : KV) (w : World) (hP : Prs w v [p]) (hr : Roots w) :
    Calls Tryd.prog 28 #[v, .func (.func 9) #[] #[], g] w fun e w' => e = .returned (.string (bs (shaOf (leafOf p)))) ∧ Below w.heap.size w w' := by
  obtain ⟨A, cap, rfl, _, hc⟩ := hP
  obtain ⟨b, off, rfl, c0, c1⟩ := hc 0 (by simp)
  have H := Lib.hid (leafC p w hr)
  generalize shaOf (leafOf p) = out at *
  simp only [List.getElem_cons_zero, Nat.zero_mul, Nat.add_zero] at c0 c1
  simp only [List.length_singleton]
  clear hc hr
  go_enter Tryd.func28, Tryd.ntmps28
  go_wp2_with fail
  refine H.out.mono ?_
  rintro e w3 ⟨rfl, b3⟩
  go_wp2
  go_ret
  exact ⟨rfl, b3⟩
set_option maxHeartbeats 2000000 in
theorem comb2 (A : Option Addr) (n cap s : Nat) (w : World) (A' : Option Addr) (n' c' : Nat) (x y out : List UInt8) (hn : 2 ≤ n) (hn2 : n ≤ 1000000000) (hs : spl n = s)
    (hs1 : ∀ W, (Instr.slice 22 (.slice A n cap) (some (.int .i64 s)) none none).run Tryd.prog W = .ok (.slice A' n' c') W)
    (hs2 : ∀ W, (Instr.slice 22 (.slice A n cap) none (some (.int .i64 s)) none).run Tryd.prog W = .ok (.slice A s cap) W)
    (H1 : Hid (∀ W, Since w W → Calls Tryd.prog 28 #[.slice A s cap, .func (.func 9) #[] #[], .func (.func 12) #[] #[]] W fun e w' => e = .returned (.string (bs x)) ∧ Since w w'))
    (H2 : Hid (∀ W, Since w W → Calls Tryd.prog 28 #[.slice A' n' c', .func (.func 9) #[] #[], .func (.func 12) #[] #[]] W fun e w' => e = .returned (.string (bs y)) ∧ Since w w'))
    (H3 : Hid (∀ W, Since w W → Calls Tryd.prog 12 #[.string (bs x), .string (bs y)] W fun e w' => e = .returned (.string (bs out)) ∧ Since w w')) :
    Calls Tryd.prog 28 #[.slice A n cap, .func (.func 9) #[] #[], .func (.func 12) #[] #[]] w fun e w' => e = .returned (.string (bs out)) ∧ Below w.heap.size w w' := by
  have K0 := splitC n w (by omega)
  rw [Int.toNat_natCast, hs] at K0
  have K := Lib.hid K0
  clear K0 hs
  have r0 := Since.refl w
  have n0 : ((n : Int) == 0) = false := by simp; omega
  have n1 : ((n : Int) == 1) = false := by simp; omega
  clear hn
  go_enter Tryd.func28, Tryd.ntmps28
  go_wp2_with fail
  refine K.out.mono ?_
  rintro e w1 ⟨rfl, rfl⟩
  clear K
  go_wp2
  go_region_held3 (fun _ => True)
    (first | trivial | go_keep)
    (first
      | (go_at_call 28; refine (H1.out _ (by exact r0)).mono ?_; clear H1; rintro en w5 ⟨rfl, s5⟩)
      | (go_at_call 28; refine (H2.out _ (by exact s5)).mono ?_; clear H2; rintro en w6 ⟨rfl, s6⟩)
      | (go_at_call 12; refine (H3.out _ (by exact s6)).mono ?_; clear H3; rintro en w7 ⟨rfl, s7⟩))
  all_goals go_wp2
  all_goals go_ret
  all_goals exact ⟨rfl, s7.below⟩

theorem roots_since {w W : World} (hr : Roots w) (h : Since w W) : Roots W := hr.next h.below
theorem combC : ∀ (n : Nat) (l : List KV) (v : Value) (w : World), l.length = n → Prs w v l → Roots w → n ≤ 1000000000 →
    Calls Tryd.prog 28 #[v, .func (.func 9) #[] #[], .func (.func 12) #[] #[]] w fun e w' => e = .returned (.string (bs (tree l))) ∧ Below w.heap.size w w' := by
  intro n
  induction n using Nat.strongRecOn with
  | _ n ih =>
    intro l v w hl hP hr hn
    by_cases h2 : 2 ≤ n
    · obtain ⟨s1, s2, s3⟩ := spl_pos h2 (by omega)
      have ht := tree_two l (by omega) (by omega)
      rw [hl] at ht
      rw [ht]
      obtain ⟨A, cap, rfl, hcap, hc⟩ := hP
      have hP : Prs w (.slice A l.length cap) l := ⟨A, cap, rfl, hcap, hc⟩
      obtain ⟨A1, c1, hs1, P1⟩ := prs_cut 22 Tryd.underlying22 (by kernel_rfl) hP (spl n) (by omega)
      obtain ⟨hs2, P2⟩ := prs_upto 22 Tryd.underlying22 (by kernel_rfl) hP (spl n) (by omega)
      rw [hl] at hs1 hs2 ⊢
      refine comb2 A n cap (spl n) w A1 _ c1 (tree (l.take (spl n))) (tree (l.drop (spl n))) _ h2 hn rfl hs1 hs2 ?_ ?_ ?_
      · exact Lib.hid fun W hW => (ih (spl n) s2 (l.take (spl n)) _ W (by rw [List.length_take]; omega) (P2.below hW.below) (roots_since hr hW) (by omega)).mono fun e w' ⟨he, hb⟩ => ⟨he, since_of (step_below hW.below hb)⟩
      · exact Lib.hid fun W hW => (ih (n - spl n) (by omega) (l.drop (spl n)) _ W (by rw [List.length_drop, hl]) (P1.below hW.below) (roots_since hr hW) (by omega)).mono fun e w' ⟨he, hb⟩ => ⟨he, since_of (step_below hW.below hb)⟩
      · exact Lib.hid fun W hW => (nodeC _ _ W (roots_since hr hW) (by have := tree_le (l.take (spl n)) (by rw [List.length_take]; omega); omega) (by have := tree_le (l.drop (spl n)) (by rw [List.length_drop]; omega); omega)).mono fun e w' ⟨he, hb⟩ => ⟨he, since_of (step_below hW.below hb)⟩
    · match l with
      | [] => exact comb0 v _ _ w hP
      | [p] => exact comb1 v _ p w hP hr
      | p :: q :: r => simp at hl; omega

set_option maxHeartbeats 1000000 in
theorem root_this (A : Option Addr) (n cap : Nat) (w : World) (t out : List UInt8)
    (H1 : Hid (Calls Tryd.prog 28 #[.slice A n cap, .func (.func 9) #[] #[], .func (.func 12) #[] #[]] w fun e w' => e = .returned (.string (bs t)) ∧ Below w.heap.size w w'))
    (H2 : Hid (∀ W, Since w W → Calls Tryd.prog 15 #[.int .i64 n, .string (bs t)] W fun e w' => e = .returned (.string (bs out)) ∧ Since w w')) :
    Calls Tryd.prog 14 #[.slice A n cap] w fun e w' => e = .returned (.string (bs out)) ∧ Below w.heap.size w w' := by
  go_enter Tryd.func14, Tryd.ntmps14
  go_wp2_with fail
  refine H1.out.mono ?_
  rintro e w1 ⟨rfl, b1⟩
  go_wp2_with fail
  refine (H2.out w1 (since_of b1)).mono ?_
  rintro e w2 ⟨rfl, s2⟩
  go_wp2
  go_ret
  exact ⟨rfl, s2.below⟩
theorem rootC (l : List KV) (v : Value) (w : World) (hP : Prs w v l) (hr : Roots w) (hn : l.length ≤ 1000000000) :
    Calls Tryd.prog 14 #[v] w fun e w' => e = .returned (.string (bs (rootOf l))) ∧ Below w.heap.size w w' := by
  have H1 := Lib.hid (combC l.length l v w rfl hP hr hn)
  obtain ⟨A, cap, rfl, hcap, hc⟩ := hP
  exact root_this A l.length cap w _ _ H1 (Lib.hid fun W hW => (topC l.length (tree l) W (roots_since hr hW) (by have := tree_le l (by omega); omega)).mono fun e w' ⟨he, hb⟩ => ⟨he, since_of (step_below hW.below hb)⟩)
end Go.Proofs.YtbfpepiglcikbaaDoor.W
