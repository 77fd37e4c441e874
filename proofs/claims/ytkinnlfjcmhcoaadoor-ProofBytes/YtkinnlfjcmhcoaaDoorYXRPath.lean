/-
  The reference's path.
-/
import Derived.Test.YtkinnlfjcmhcoaaDoorYKTree
import Derived.Test.YtkinnlfjcmhcoaaDoorZ0a
import Derived.Test.YtkinnlfjcmhcoaaDoorZ0d
namespace Go.Proofs.YtkinnlfjcmhcoaaDoor.W
open Go.RowKit

set_option maxHeartbeats 2000000 in
set_option maxRecDepth 100000 in
theorem rPathL (A : Option Addr) (n cap s : Nat) (i : Int) (w : World) (A' : Option Addr) (n' c' : Nat) (y : List UInt8) (X : List ByteArray) (h0 : 0 ≤ i) (h1 : i ≤ 1000000) (hn : 2 ≤ n) (hn2 : n ≤ 1000000) (hs : spl n = s) (hs2' : s ≤ 1000000) (hi : i < s)
    (hs1 : ∀ W, (Instr.slice 22 (.slice A n cap) (some (.int .i64 s)) none none).run Tryd.prog W = .ok (.slice A' n' c') W)
    (hs2 : ∀ W, (Instr.slice 22 (.slice A n cap) none (some (.int .i64 s)) none).run Tryd.prog W = .ok (.slice A s cap) W)
    (H1 : Hid (∀ W, Since w W → Calls Tryd.prog 65 #[.slice A' n' c'] W fun e w' => ∃ A m c, e = .returned (.tuple #[.string (bs y), .slice A m c]) ∧ Since W w'))
    (H2 : Hid (∀ W, Since w W → Calls Tryd.prog 35 #[.slice A s cap, .int .i64 i] W fun e w' => ∃ A m c, e = .returned (.slice A m c) ∧ OwnStrs W.heap.size (.slice A m c) X W w'))
    (hX : X.length ≤ 100000000) :
    Calls Tryd.prog 35 #[.slice A n cap, .int .i64 i] w fun e w' => ∃ u, e = .returned u ∧ OwnStrs w.heap.size u (X ++ [bs y]) w w' := by
  have K0 := rSplitC n w (by omega)
  rw [Int.toNat_natCast, hs] at K0
  have K := Lib.hid K0
  have HX := Lib.hid hX
  have hwi : IntKind.i64.wrap (i - (s : Int)) = i - (s : Int) := IntWalk.i64_in _ (by omega)
  clear K0 hs hX h1 hs2'
  have n0 : ¬ (n : Int) < 2 := by omega
  clear hn hn2
  go_enter Tryd.func35, Tryd.ntmps35
  go_wp2_with fail
  refine K.out.mono ?_
  rintro e w1 ⟨rfl, b1⟩
  clear K
  go_wp2_with fail
  refine (H1.out w1 (since_of b1)).mono ?_
  rintro e w2 ⟨A2, m2, c2, rfl, s2⟩
  have B2 := Lib.hid (step_below b1 s2.below)
  clear b1 s2 H1
  go_wp2_with fail
  refine (H2.out w2 (since_of B2.out)).mono ?_
  rintro e w3 ⟨A3, m3, c3, rfl, o3⟩
  have O3 := Lib.hid (OwnStrs.from B2.out o3)
  clear o3 B2 H2
  go_wp2_with (at_builtin; refine wpList_append_str rfl _ _ rfl w.heap.size (.slice A3 m3 c3) _ rfl w w3 (bs y) O3.out rfl (by have := HX.out; omega) ?_; intro v7 w7 o7; have O7 := Lib.hid o7; clear o7 O3)
  go_ret
  exact ⟨_, rfl, O7.out⟩
set_option maxHeartbeats 2000000 in
set_option maxRecDepth 100000 in
theorem rPathR (A : Option Addr) (n cap s : Nat) (i : Int) (w : World) (A' : Option Addr) (n' c' : Nat) (y : List UInt8) (X : List ByteArray) (h0 : 0 ≤ i) (h1 : i ≤ 1000000) (hn : 2 ≤ n) (hn2 : n ≤ 1000000) (hs : spl n = s) (hs2' : s ≤ 1000000) (hi : ¬ i < s)
    (hs1 : ∀ W, (Instr.slice 22 (.slice A n cap) (some (.int .i64 s)) none none).run Tryd.prog W = .ok (.slice A' n' c') W)
    (hs2 : ∀ W, (Instr.slice 22 (.slice A n cap) none (some (.int .i64 s)) none).run Tryd.prog W = .ok (.slice A s cap) W)
    (H1 : Hid (∀ W, Since w W → Calls Tryd.prog 65 #[.slice A s cap] W fun e w' => ∃ A m c, e = .returned (.tuple #[.string (bs y), .slice A m c]) ∧ Since W w'))
    (H2 : Hid (∀ W, Since w W → Calls Tryd.prog 35 #[.slice A' n' c', .int .i64 (i - s)] W fun e w' => ∃ A m c, e = .returned (.slice A m c) ∧ OwnStrs W.heap.size (.slice A m c) X W w'))
    (hX : X.length ≤ 100000000) :
    Calls Tryd.prog 35 #[.slice A n cap, .int .i64 i] w fun e w' => ∃ u, e = .returned u ∧ OwnStrs w.heap.size u (X ++ [bs y]) w w' := by
  have K0 := rSplitC n w (by omega)
  rw [Int.toNat_natCast, hs] at K0
  have K := Lib.hid K0
  have HX := Lib.hid hX
  have hwi : IntKind.i64.wrap (i - (s : Int)) = i - (s : Int) := IntWalk.i64_in _ (by omega)
  clear K0 hs hX h1 hs2'
  have n0 : ¬ (n : Int) < 2 := by omega
  clear hn hn2
  go_enter Tryd.func35, Tryd.ntmps35
  go_wp2_with fail
  refine K.out.mono ?_
  rintro e w1 ⟨rfl, b1⟩
  clear K
  go_wp2_with fail
  refine (H1.out w1 (since_of b1)).mono ?_
  rintro e w2 ⟨A2, m2, c2, rfl, s2⟩
  have B2 := Lib.hid (step_below b1 s2.below)
  clear b1 s2 H1
  go_wp2_with fail
  refine (H2.out w2 (since_of B2.out)).mono ?_
  rintro e w3 ⟨A3, m3, c3, rfl, o3⟩
  have O3 := Lib.hid (OwnStrs.from B2.out o3)
  clear o3 B2 H2
  go_wp2_with (at_builtin; refine wpList_append_str rfl _ _ rfl w.heap.size (.slice A3 m3 c3) _ rfl w w3 (bs y) O3.out rfl (by have := HX.out; omega) ?_; intro v7 w7 o7; have O7 := Lib.hid o7; clear o7 O3)
  go_ret
  exact ⟨_, rfl, O7.out⟩
set_option maxHeartbeats 1000000 in
set_option maxRecDepth 100000 in
theorem rPath1 (A : Option Addr) (n cap : Nat) (i : Int) (w : World) (hn : n < 2) : Calls Tryd.prog 35 #[.slice A n cap, .int .i64 i] w fun e w' => ∃ u, e = .returned u ∧ OwnStrs w.heap.size u [] w w' := by
  have n0 : (n : Int) < 2 := by omega
  have R := OwnStrs_nil w
  go_enter Tryd.func35, Tryd.ntmps35
  go_wp2
  go_ret
  exact ⟨_, rfl, R⟩
theorem own_three {B : Nat} {v : Value} {ss : List ByteArray} {W0 w : World} (h : OwnStrs B v ss W0 w) : ∃ A m c, v = .slice A m c := by
  obtain ⟨A, c, e, _⟩ := h.txs
  exact ⟨A, _, c, e⟩
set_option maxRecDepth 100000 in
theorem rPathC : ∀ (n : Nat) (l : List KV) (v : Value) (i : Nat) (w : World), l.length = n → i < 1000000 → Prs w v l → n ≤ 1000000 →
    Calls Tryd.prog 35 #[v, .int .i64 i] w fun e w' => ∃ u, e = .returned u ∧ OwnStrs w.heap.size u (bss (pth l i)) w w' := by
  intro n
  induction n using Nat.strongRecOn with
  | _ n ih =>
    intro l v i w hl hi hP hn
    have hP0 := hP
    obtain ⟨A, cap, rfl, hcap, hc⟩ := hP0
    by_cases h2 : 2 ≤ n
    · obtain ⟨s1, s2, s3⟩ := spl_pos h2 (by omega)
      obtain ⟨A1, c1, hs1, P1⟩ := prs_cut 22 Tryd.underlying22 (by kernel_rfl) hP (spl n) (by omega)
      obtain ⟨hs2, P2⟩ := prs_upto 22 Tryd.underlying22 (by kernel_rfl) hP (spl n) (by omega)
      rw [hl] at hs1 hs2 ⊢
      have len1 : (l.take (spl n)).length = spl n := by rw [List.length_take]; omega
      have len2 : (l.drop (spl n)).length = n - spl n := by rw [List.length_drop, hl]
      by_cases hlt : i < spl n
      · have hp := pth_left (l := l) (by omega) (by omega) (i := i) (by rw [hl]; exact hlt)
        rw [hl] at hp
        rw [hp, bss_append]
        refine rPathL A n cap (spl n) i w A1 _ c1 (tree (l.drop (spl n))) (bss (pth (l.take (spl n)) i)) (by omega) (by omega) h2 hn rfl (by omega) (by omega) hs1 hs2 ?_ ?_ ?_
        · exact Lib.hid fun W hW => (rTreeC _ (l.drop (spl n)) _ W len2 (P1.below hW.below) (by omega)).mono fun e w' ⟨u, he, ho⟩ => by
            obtain ⟨A, m, c, rfl⟩ := own_three ho
            exact ⟨A, m, c, he, since_of ho.below⟩
        · exact Lib.hid fun W hW => (ih (spl n) s2 (l.take (spl n)) _ i W len1 hi (P2.below hW.below) (by omega)).mono fun e w' ⟨u, he, ho⟩ => by
            obtain ⟨A, m, c, rfl⟩ := own_three ho
            exact ⟨A, m, c, he, ho⟩
        · rw [bss_len]; have := (pth_len _ (l.take (spl n)) i rfl (by omega)).1; omega
      · have hp := pth_right (l := l) (by omega) (by omega) (i := i) (by rw [hl]; exact hlt)
        rw [hl] at hp
        rw [hp, bss_append]
        refine rPathR A n cap (spl n) i w A1 _ c1 (tree (l.take (spl n))) (bss (pth (l.drop (spl n)) (i - spl n))) (by omega) (by omega) h2 hn rfl (by omega) (by omega) hs1 hs2 ?_ ?_ ?_
        · exact Lib.hid fun W hW => (rTreeC _ (l.take (spl n)) _ W len1 (P2.below hW.below) (by omega)).mono fun e w' ⟨u, he, ho⟩ => by
            obtain ⟨A, m, c, rfl⟩ := own_three ho
            exact ⟨A, m, c, he, since_of ho.below⟩
        · rw [show (i : Int) - (spl n : Nat) = ((i - spl n : Nat) : Int) by omega]
          exact Lib.hid fun W hW => (ih (n - spl n) (by omega) (l.drop (spl n)) _ (i - spl n) W len2 (by omega) (P1.below hW.below) (by omega)).mono fun e w' ⟨u, he, ho⟩ => by
            obtain ⟨A, m, c, rfl⟩ := own_three ho
            exact ⟨A, m, c, he, ho⟩
        · rw [bss_len]; have := (pth_len _ (l.drop (spl n)) (i - spl n) rfl (by omega)).1; omega
    · rw [pth_small (by omega), hl]
      exact rPath1 A n cap i w (by omega)
end Go.Proofs.YtkinnlfjcmhcoaaDoor.W
