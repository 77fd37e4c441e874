import Derived.Deep.RegionHeld3
import Derived.OwnWalk
import Derived.Lib.MinMax
import Derived.Test.YtkejaepmoabikaaGreatDoorZ1b
import Derived.Test.YtkejaepmoabikaaGreatDoorZ0f
import Derived.Test.YtkejaepmoabikaaGreatDoorZ0b
import Derived.Test.YtkejaepmoabikaaGreatDoorZ0g
import Derived.Test.YtkejaepmoabikaaGreatDoorZ0d
import Derived.Test.YtkejaepmoabikaaGreatDoorZ1a
namespace Go.Proofs.YtkejaepmoabikaaGreatDoor.W
open Go.RowKit
open List renaming getElem_cons_zero → qC
open Lib renaming hid → qH
open _root_.Go.Proofs.Tryz renaming prog → qP
set_option maxHeartbeats 8000000
set_option maxRecDepth 100000
theorem own_one {W0 w : World} (h : Below W0.heap.size W0 w) (c : ByteArray) : OwnStrs W0.heap.size (.slice (some ⟨w.heap.size, 0, none⟩) 1 1) [c] W0 (w.alloc (.cells #[.string c] 9)) :=
 ⟨⟨rfl, .inr ⟨w.heap.size, 1, #[.string c], rfl, h.size, heap_alloc_new w _, Nat.le_refl _, by unfold maxLen; omega, rfl, rfl⟩⟩, h.alloc h.size _, by simp; exact Nat.le_succ_of_le h.size⟩
theorem OwnStrs.lt {B : Nat} {v : Value} {ss : List ByteArray} {W0 w : World} (h : OwnStrs B v ss W0 w) : ∀ g, v.ownBlock = some g → B ≤ g ∧ g < w.heap.size := fun g hg => h.1.lt g hg
theorem rTree0 (v : Value) (w : World) (hP : Prs w v []) :
  Calls qP 74 #[v] w fun e w' => ∃ u, e = .returned (.tuple #[.string (bs []), u]) ∧ OwnStrs w.heap.size u (bss []) w w' := by
 obtain ⟨A, cap, rfl, _, _⟩ := hP
 have h := OwnStrs_nil w
 go_enter Tryz.func74, Tryz.ntmps74
 go_wp2
 go_ret2
 exact ⟨_, rfl, h⟩
theorem rTree1 (v : Value) (p : KV) (w : World) (hP : Prs w v [p]) :
  Calls qP 74 #[v] w fun e w' => ∃ u, e = .returned (.tuple #[.string (bs (shaOf (leafOf p))), u]) ∧ OwnStrs w.heap.size u (bss [leafOf p]) w w' := by
 obtain ⟨A, cap, rfl, _, hc⟩ := hP
 obtain ⟨b, off, rfl, c0, c1⟩ := hc 0 (by simp)
 have H := qH (rLeafC p w)
 have L := qH (show (leafOf p).length ≤ 1000000 by have := leafOf_len p; omega)
 generalize leafOf p = t at *
 obtain ⟨out, ho⟩ : ∃ out, shaOf t = out := ⟨_, rfl⟩
 rw [ho]
 have HO := qH ho
 simp only [qC, Nat.zero_mul, Nat.add_zero] at c0 c1
 simp only [List.length_singleton]
 clear hc ho
 go_enter Tryz.func74, Tryz.ntmps74
 go_wp2_with fail
 refine H.out.mono ?_
 rintro e w1 ⟨rfl, b1⟩
 go_wp2_with fail
 refine (rShaC t out HO w1 L.out).mono ?_
 rintro e w2 ⟨rfl, b2⟩
 have R := qH (own_one (step_below b1 b2) (bs t))
 clear b1 b2
 go_wp2
 go_ret2
 exact ⟨_, rfl, R.out⟩
theorem rTree2 (A : Option Addr) (n cap s : Nat) (w : World) (A' : Option Addr) (n' c' : Nat) (x y t out : List UInt8) (X Y : List ByteArray) (hn : 2 ≤ n) (hn2 : n ≤ 1000000) (hs : spl n = s)
  (hs1 : ∀ W, (Instr.slice 22 (.slice A n cap) (some (.int .i64 s)) none none).run qP W = .ok (.slice A' n' c') W)
  (hs2 : ∀ W, (Instr.slice 22 (.slice A n cap) none (some (.int .i64 s)) none).run qP W = .ok (.slice A s cap) W)
  (H1 : Hid (∀ W, Since w W → Calls qP 74 #[.slice A s cap] W fun e w' => ∃ u, e = .returned (.tuple #[.string (bs x), u]) ∧ OwnStrs W.heap.size u X W w'))
  (H2 : Hid (∀ W, Since w W → Calls qP 74 #[.slice A' n' c'] W fun e w' => ∃ u, e = .returned (.tuple #[.string (bs y), u]) ∧ OwnStrs W.heap.size u Y W w'))
  (H3 : Hid (∀ W, Calls qP 122 #[.string (bs x), .string (bs y)] W fun e w' => e = .returned (.string (bs t)) ∧ Below W.heap.size W w'))
  (H4 : Hid (∀ W, Calls qP 76 #[.string (bs t)] W fun e w' => e = .returned (.string (bs out)) ∧ Below W.heap.size W w'))
  (hX : X.length + Y.length ≤ 100000000) :
  Calls qP 74 #[.slice A n cap] w fun e w' => ∃ u, e = .returned (.tuple #[.string (bs out), u]) ∧ OwnStrs w.heap.size u (X ++ Y ++ [bs t]) w w' := by
 have K0 := rSplitC n w (by omega)
 rw [Int.toNat_natCast, hs] at K0
 have K := qH K0
 have HX := qH hX
 clear K0 hs hX
 have n0 : ((n : Int) == 0) = false := by simp; omega
 have n1 : ((n : Int) == 1) = false := by simp; omega
 clear hn hn2
 go_enter Tryz.func74, Tryz.ntmps74
 go_wp2_with fail
 refine K.out.mono ?_
 rintro e w1 ⟨rfl, b1⟩
 clear K
 go_wp2_with fail
 refine (H1.out w1 (since_of b1)).mono ?_
 rintro e w2 ⟨u2, rfl, o2⟩
 have B2 := qH (step_below b1 o2.below)
 have O2 := qH o2
 clear b1 o2 H1
 go_wp2_with fail
 refine (H2.out w2 (since_of B2.out)).mono ?_
 rintro e w3 ⟨u3, rfl, o3⟩
 have B3 := qH (step_below B2.out o3.below)
 have P2 := qH (O2.out.after o3.below)
 have O3 := qH o3
 clear o3 B2 O2 H2
 go_wp2_with fail
 refine (H3.out w3).mono ?_
 rintro e w4 ⟨rfl, b4⟩
 have B4 := qH (step_below B3.out b4)
 have P3 := qH (P2.out.after b4)
 have O4 := qH (O3.out.after b4)
 clear b4 B3 P2 O3 H3
 go_wp2_with (at_builtin; first
  | (refine wpList_append_txs _ rfl _ _ rfl w.heap.size _ _ u2 [] X rfl rfl w (OwnStrs.start B4.out) P3.out.txs (by have := HX.out; simp; omega) ?_; intro v5 w5 o5 g5; have Q5 := qH (txs_kept O4.out.txs g5 (fun g hg => ⟨(O4.out.lt g hg).2, by intro e; cases e⟩)); have O5 := qH o5; clear o5 g5 O4 P3 B4)
  | (refine wpList_append_txs _ rfl _ _ rfl w.heap.size _ v5 u3 _ Y rfl rfl w O5.out Q5.out (by have := HX.out; simp; omega) ?_; intro v6 w6 o6 g6; have O6 := qH o6; clear o6 g6 O5 Q5)
  | (refine wpList_append_str rfl _ _ rfl w.heap.size v6 _ rfl w w6 (bs t) O6.out rfl (by have := HX.out; simp; omega) ?_; intro v7 w7 o7; have O7 := qH o7; clear o7 O6))
 refine (H4.out w7).mono ?_
 rintro e w8 ⟨rfl, b8⟩
 have R := qH (O7.out.after b8)
 clear b8 O7
 go_wp2
 go_ret2
 exact ⟨_, rfl, by simpa using R.out⟩
theorem rTreeC : ∀ (n : Nat) (l : List KV) (v : Value) (w : World), l.length = n → Prs w v l → n ≤ 1000000 →
  Calls qP 74 #[v] w fun e w' => ∃ u, e = .returned (.tuple #[.string (bs (tree l)), u]) ∧ OwnStrs w.heap.size u (bss (texts l)) w w' := by
 intro n
 induction n using Nat.strongRecOn with
 | _ n ih =>
  intro l v w hl hP hn
  by_cases h2 : 2 ≤ n
  ·obtain ⟨s1, s2, s3⟩ := spl_pos h2 (by omega)
   have ht := tree_two l (by omega) (by omega)
   have hx := texts_two l (by omega) (by omega)
   have lx := texts_len l (by omega)
   rw [hl] at ht hx
   rw [hx] at lx
   rw [List.length_append, List.length_append] at lx
   rw [ht, hx, bss_append, bss_append]
   obtain ⟨A, cap, rfl, hcap, hc⟩ := hP
   have hP : Prs w (.slice A l.length cap) l := ⟨A, cap, rfl, hcap, hc⟩
   obtain ⟨A1, c1, hs1, P1⟩ := prs_cut 22 Tryz.underlying22 (by kernel_rfl) hP (spl n) (by omega)
   obtain ⟨hs2, P2⟩ := prs_upto 22 Tryz.underlying22 (by kernel_rfl) hP (spl n) (by omega)
   rw [hl] at hs1 hs2 ⊢
   have l1 := tree_le (l.take (spl n)) (by rw [List.length_take]; omega)
   have l2 := tree_le (l.drop (spl n)) (by rw [List.length_drop]; omega)
   refine rTree2 A n cap (spl n) w A1 _ c1 (tree (l.take (spl n))) (tree (l.drop (spl n))) (nodeOf (tree (l.take (spl n))) (tree (l.drop (spl n)))) _ (bss (texts (l.take (spl n)))) (bss (texts (l.drop (spl n)))) h2 hn rfl hs1 hs2 ?_ ?_ ?_ ?_ (by rw [bss_len, bss_len]; omega)
   ·exact qH fun W hW => ih (spl n) s2 (l.take (spl n)) _ W (by rw [List.length_take]; omega) (P2.below hW.below) (by omega)
   ·exact qH fun W hW => ih (n - spl n) (by omega) (l.drop (spl n)) _ W (by rw [List.length_drop, hl]) (P1.below hW.below) (by omega)
   ·exact qH fun W => rNodeC _ _ W (by omega) (by omega)
   ·exact qH fun W => rShaC _ _ (qH rfl) W (by rw [nodeOf_len]; omega)
  ·match l with
   | [] => exact rTree0 v w hP
   | [p] => exact rTree1 v p w hP
   | p :: q :: r => simp at hl; omega
theorem rRoot_this (A : Option Addr) (n cap : Nat) (w : World) (x t out : List UInt8) (X : List ByteArray)
  (H1 : Hid (Calls qP 74 #[.slice A n cap] w fun e w' => ∃ u, e = .returned (.tuple #[.string (bs x), u]) ∧ OwnStrs w.heap.size u X w w'))
  (H3 : Hid (∀ W, Calls qP 75 #[.int .i64 n, .string (bs x)] W fun e w' => e = .returned (.string (bs t)) ∧ Below W.heap.size W w'))
  (H4 : Hid (∀ W, Calls qP 76 #[.string (bs t)] W fun e w' => e = .returned (.string (bs out)) ∧ Below W.heap.size W w'))
  (hX : X.length ≤ 100000000) :
  Calls qP 27 #[.slice A n cap] w fun e w' => ∃ u, e = .returned (.tuple #[.string (bs out), u]) ∧ OwnStrs w.heap.size u (X ++ [bs t]) w w' := by
 have HX := qH hX
 clear hX
 go_enter Tryz.func27, Tryz.ntmps27
 go_wp2_with fail
 refine H1.out.mono ?_
 rintro e w2 ⟨u2, rfl, o2⟩
 have O2 := qH o2
 clear o2 H1
 go_wp2_with fail
 refine (H3.out w2).mono ?_
 rintro e w4 ⟨rfl, b4⟩
 have B4 := qH (step_below O2.out.below b4)
 have P3 := qH (O2.out.after b4)
 clear b4 O2 H3
 go_wp2_with (at_builtin; first
  | (refine wpList_append_txs _ rfl _ _ rfl w.heap.size _ _ u2 [] X rfl rfl w (OwnStrs.start B4.out) P3.out.txs (by have := HX.out; simp; omega) ?_; intro v5 w5 o5 g5; have O5 := qH o5; clear o5 g5 P3 B4)
  | (refine wpList_append_str rfl _ _ rfl w.heap.size v5 _ rfl w w5 (bs t) O5.out rfl (by have := HX.out; simp; omega) ?_; intro v7 w7 o7; have O7 := qH o7; clear o7 O5))
 refine (H4.out w7).mono ?_
 rintro e w8 ⟨rfl, b8⟩
 have R := qH (O7.out.after b8)
 clear b8 O7
 go_wp2
 go_ret2
 exact ⟨_, rfl, by simpa using R.out⟩
theorem rRootC (l : List KV) (v : Value) (w : World) (hP : Prs w v l) (hn : l.length ≤ 1000000) :
  Calls qP 27 #[v] w fun e w' => ∃ u, e = .returned (.tuple #[.string (bs (rootOf l)), u]) ∧ OwnStrs w.heap.size u (bss (allOf l)) w w' := by
 have H1 := qH (rTreeC l.length l v w rfl hP hn)
 have l1 := tree_le l (by omega)
 have lx := texts_len l (by omega)
 have lt := topOf_len l.length (tree l)
 obtain ⟨A, cap, rfl, hcap, hc⟩ := hP
 have h := rRoot_this A l.length cap w _ (topOf l.length (tree l)) (rootOf l) _ H1 (qH fun W => rTopC _ _ W (by omega)) (qH fun W => rShaC _ _ (qH rfl) W (by omega)) (by rw [bss_len]; omega)
 unfold allOf
 rw [bss_append]
 exact h
theorem rPathL (A : Option Addr) (n cap s : Nat) (i : Int) (w : World) (A' : Option Addr) (n' c' : Nat) (y : List UInt8) (X : List ByteArray) (h0 : 0 ≤ i) (h1 : i ≤ 1000000) (hn : 2 ≤ n) (hn2 : n ≤ 1000000) (hs : spl n = s) (hs2' : s ≤ 1000000) (hi : i < s)
  (hs1 : ∀ W, (Instr.slice 22 (.slice A n cap) (some (.int .i64 s)) none none).run qP W = .ok (.slice A' n' c') W)
  (hs2 : ∀ W, (Instr.slice 22 (.slice A n cap) none (some (.int .i64 s)) none).run qP W = .ok (.slice A s cap) W)
  (H1 : Hid (∀ W, Since w W → Calls qP 74 #[.slice A' n' c'] W fun e w' => ∃ A m c, e = .returned (.tuple #[.string (bs y), .slice A m c]) ∧ Since W w'))
  (H2 : Hid (∀ W, Since w W → Calls qP 105 #[.slice A s cap, .int .i64 i] W fun e w' => ∃ A m c, e = .returned (.slice A m c) ∧ OwnStrs W.heap.size (.slice A m c) X W w'))
  (hX : X.length ≤ 100000000) :
  Calls qP 105 #[.slice A n cap, .int .i64 i] w fun e w' => ∃ u, e = .returned u ∧ OwnStrs w.heap.size u (X ++ [bs y]) w w' := by
 have K0 := rSplitC n w (by omega)
 rw [Int.toNat_natCast, hs] at K0
 have K := qH K0
 have HX := qH hX
 have hwi : IntKind.i64.wrap (i - (s : Int)) = i - (s : Int) := IntWalk.i64_in _ (by omega)
 clear K0 hs hX h1 hs2'
 have n0 : ¬ (n : Int) < 2 := by omega
 clear hn hn2
 go_enter Tryz.func105, Tryz.ntmps105
 go_wp2_with fail
 refine K.out.mono ?_
 rintro e w1 ⟨rfl, b1⟩
 clear K
 go_wp2_with fail
 refine (H1.out w1 (since_of b1)).mono ?_
 rintro e w2 ⟨A2, m2, c2, rfl, s2⟩
 have B2 := qH (step_below b1 s2.below)
 clear b1 s2 H1
 go_wp2_with fail
 refine (H2.out w2 (since_of B2.out)).mono ?_
 rintro e w3 ⟨A3, m3, c3, rfl, o3⟩
 have O3 := qH (OwnStrs.from B2.out o3)
 clear o3 B2 H2
 go_wp2_with (at_builtin; refine wpList_append_str rfl _ _ rfl w.heap.size (.slice A3 m3 c3) _ rfl w w3 (bs y) O3.out rfl (by have := HX.out; omega) ?_; intro v7 w7 o7; have O7 := qH o7; clear o7 O3)
 go_ret
 exact ⟨_, rfl, O7.out⟩
theorem rPathR (A : Option Addr) (n cap s : Nat) (i : Int) (w : World) (A' : Option Addr) (n' c' : Nat) (y : List UInt8) (X : List ByteArray) (h0 : 0 ≤ i) (h1 : i ≤ 1000000) (hn : 2 ≤ n) (hn2 : n ≤ 1000000) (hs : spl n = s) (hs2' : s ≤ 1000000) (hi : ¬ i < s)
  (hs1 : ∀ W, (Instr.slice 22 (.slice A n cap) (some (.int .i64 s)) none none).run qP W = .ok (.slice A' n' c') W)
  (hs2 : ∀ W, (Instr.slice 22 (.slice A n cap) none (some (.int .i64 s)) none).run qP W = .ok (.slice A s cap) W)
  (H1 : Hid (∀ W, Since w W → Calls qP 74 #[.slice A s cap] W fun e w' => ∃ A m c, e = .returned (.tuple #[.string (bs y), .slice A m c]) ∧ Since W w'))
  (H2 : Hid (∀ W, Since w W → Calls qP 105 #[.slice A' n' c', .int .i64 (i - s)] W fun e w' => ∃ A m c, e = .returned (.slice A m c) ∧ OwnStrs W.heap.size (.slice A m c) X W w'))
  (hX : X.length ≤ 100000000) :
  Calls qP 105 #[.slice A n cap, .int .i64 i] w fun e w' => ∃ u, e = .returned u ∧ OwnStrs w.heap.size u (X ++ [bs y]) w w' := by
 have K0 := rSplitC n w (by omega)
 rw [Int.toNat_natCast, hs] at K0
 have K := qH K0
 have HX := qH hX
 have hwi : IntKind.i64.wrap (i - (s : Int)) = i - (s : Int) := IntWalk.i64_in _ (by omega)
 clear K0 hs hX h1 hs2'
 have n0 : ¬ (n : Int) < 2 := by omega
 clear hn hn2
 go_enter Tryz.func105, Tryz.ntmps105
 go_wp2_with fail
 refine K.out.mono ?_
 rintro e w1 ⟨rfl, b1⟩
 clear K
 go_wp2_with fail
 refine (H1.out w1 (since_of b1)).mono ?_
 rintro e w2 ⟨A2, m2, c2, rfl, s2⟩
 have B2 := qH (step_below b1 s2.below)
 clear b1 s2 H1
 go_wp2_with fail
 refine (H2.out w2 (since_of B2.out)).mono ?_
 rintro e w3 ⟨A3, m3, c3, rfl, o3⟩
 have O3 := qH (OwnStrs.from B2.out o3)
 clear o3 B2 H2
 go_wp2_with (at_builtin; refine wpList_append_str rfl _ _ rfl w.heap.size (.slice A3 m3 c3) _ rfl w w3 (bs y) O3.out rfl (by have := HX.out; omega) ?_; intro v7 w7 o7; have O7 := qH o7; clear o7 O3)
 go_ret
 exact ⟨_, rfl, O7.out⟩
theorem rPath1 (A : Option Addr) (n cap : Nat) (i : Int) (w : World) (hn : n < 2) : Calls qP 105 #[.slice A n cap, .int .i64 i] w fun e w' => ∃ u, e = .returned u ∧ OwnStrs w.heap.size u [] w w' := by
 have n0 : (n : Int) < 2 := by omega
 have R := OwnStrs_nil w
 go_enter Tryz.func105, Tryz.ntmps105
 go_wp2
 go_ret
 exact ⟨_, rfl, R⟩
theorem own_three {B : Nat} {v : Value} {ss : List ByteArray} {W0 w : World} (h : OwnStrs B v ss W0 w) : ∃ A m c, v = .slice A m c := by
 obtain ⟨A, c, e, _⟩ := h.txs
 exact ⟨A, _, c, e⟩
theorem rPathC : ∀ (n : Nat) (l : List KV) (v : Value) (i : Nat) (w : World), l.length = n → i < 1000000 → Prs w v l → n ≤ 1000000 →
  Calls qP 105 #[v, .int .i64 i] w fun e w' => ∃ u, e = .returned u ∧ OwnStrs w.heap.size u (bss (pth l i)) w w' := by
 intro n
 induction n using Nat.strongRecOn with
 | _ n ih =>
  intro l v i w hl hi hP hn
  have hP0 := hP
  obtain ⟨A, cap, rfl, hcap, hc⟩ := hP0
  by_cases h2 : 2 ≤ n
  ·obtain ⟨s1, s2, s3⟩ := spl_pos h2 (by omega)
   obtain ⟨A1, c1, hs1, P1⟩ := prs_cut 22 Tryz.underlying22 (by kernel_rfl) hP (spl n) (by omega)
   obtain ⟨hs2, P2⟩ := prs_upto 22 Tryz.underlying22 (by kernel_rfl) hP (spl n) (by omega)
   rw [hl] at hs1 hs2 ⊢
   have len1 : (l.take (spl n)).length = spl n := by rw [List.length_take]; omega
   have len2 : (l.drop (spl n)).length = n - spl n := by rw [List.length_drop, hl]
   by_cases hlt : i < spl n
   ·have hp := pth_left (l := l) (by omega) (by omega) (i := i) (by rw [hl]; exact hlt)
    rw [hl] at hp
    rw [hp, bss_append]
    refine rPathL A n cap (spl n) i w A1 _ c1 (tree (l.drop (spl n))) (bss (pth (l.take (spl n)) i)) (by omega) (by omega) h2 hn rfl (by omega) (by omega) hs1 hs2 ?_ ?_ ?_
    ·exact qH fun W hW => (rTreeC _ (l.drop (spl n)) _ W len2 (P1.below hW.below) (by omega)).mono fun e w' ⟨u, he, ho⟩ => by
      obtain ⟨A, m, c, rfl⟩ := own_three ho
      exact ⟨A, m, c, he, since_of ho.below⟩
    ·exact qH fun W hW => (ih (spl n) s2 (l.take (spl n)) _ i W len1 hi (P2.below hW.below) (by omega)).mono fun e w' ⟨u, he, ho⟩ => by
      obtain ⟨A, m, c, rfl⟩ := own_three ho
      exact ⟨A, m, c, he, ho⟩
    ·rw [bss_len]; have := (pth_len _ (l.take (spl n)) i rfl (by omega)).1; omega
   ·have hp := pth_right (l := l) (by omega) (by omega) (i := i) (by rw [hl]; exact hlt)
    rw [hl] at hp
    rw [hp, bss_append]
    refine rPathR A n cap (spl n) i w A1 _ c1 (tree (l.take (spl n))) (bss (pth (l.drop (spl n)) (i - spl n))) (by omega) (by omega) h2 hn rfl (by omega) (by omega) hs1 hs2 ?_ ?_ ?_
    ·exact qH fun W hW => (rTreeC _ (l.take (spl n)) _ W len1 (P2.below hW.below) (by omega)).mono fun e w' ⟨u, he, ho⟩ => by
      obtain ⟨A, m, c, rfl⟩ := own_three ho
      exact ⟨A, m, c, he, since_of ho.below⟩
    ·rw [show (i : Int) - (spl n : Nat) = ((i - spl n : Nat) : Int) by omega]
     exact qH fun W hW => (ih (n - spl n) (by omega) (l.drop (spl n)) _ (i - spl n) W len2 (by omega) (P1.below hW.below) (by omega)).mono fun e w' ⟨u, he, ho⟩ => by
      obtain ⟨A, m, c, rfl⟩ := own_three ho
      exact ⟨A, m, c, he, ho⟩
    ·rw [bss_len]; have := (pth_len _ (l.drop (spl n)) (i - spl n) rfl (by omega)).1; omega
  ·rw [pth_small (by omega), hl]
   exact rPath1 A n cap i w (by omega)
def nearTo (l : List KV) (lo k : Nat) : List KV := (l.drop lo).take k
theorem nearTo_succ {l : List KV} {lo k : Nat} (h : lo + k < l.length) : nearTo l lo (k + 1) = nearTo l lo k ++ [l[lo + k]] := by
 unfold nearTo
 rw [List.take_succ_eq_append_getElem (by rw [List.length_drop]; omega), List.getElem_drop]
theorem nearTo_len {l : List KV} {lo k : Nat} (h : lo + k ≤ l.length) : (nearTo l lo k).length = k := by unfold nearTo; rw [List.length_take, List.length_drop]; omega
theorem nearTo_of {l : List KV} {a : Nat} (h : a ≤ l.length) : nearTo l (lowOf a) (highOf a l.length - lowOf a) = nearOf l a := by
 have := low_high h
 unfold nearTo nearOf
 rw [List.drop_take]
structure RAt (w : World) (b B n N lo : Nat) (l : List KV) (kn kp : Nat) (nv pv : Value) (us : List Value) (wr : World) : Prop where
 bx : Blk wr b 112 #[.int .i64 n, .int .i64 N, .bool false, nv, pv]
 res : Blk wr w.heap.size 112 #[.int .i64 0, .int .i64 0, .bool false, .slice none 0 0, .slice none 0 0]
 s : Since w wr
 lt : w.heap.size < b
 bB : b < B
 size : B ≤ wr.heap.size
 near : wr.ownsRow B 36 2 nv kn (prVals (nearTo l lo kn))
 ulen : us.length = kp
 row : wr.ownsRow B 74 1 pv kp us
 at_ : ∀ (i : Nat) u q, us[i]? = some u → (pathsOf l lo kp)[i]? = some q → Txs wr wr.heap.size u (bss q) ∧ Roomy u ∧ ∀ g, u.ownBlock = some g → B ≤ g ∧ g < wr.heap.size ∧ some g ≠ pv.ownBlock ∧ some g ≠ nv.ownBlock
 apart : ∀ g, nv.ownBlock = some g → some g ≠ pv.ownBlock
section
variable {w wr W W9 : World} {b B n N lo kn kp : Nat} {l : List KV} {nv pv : Value} {us : List Value}
theorem rat_start (hs : Since w W) (hb : Blk W b 112 #[.int .i64 n, .int .i64 N, .bool false, .slice none 0 0, .slice none 0 0]) (hr : Blk W w.heap.size 112 #[.int .i64 0, .int .i64 0, .bool false, .slice none 0 0, .slice none 0 0]) (hlt : w.heap.size < b) : RAt w b W.heap.size n N lo l 0 0 (.slice none 0 0) (.slice none 0 0) [] W :=
 ⟨hb, hr, hs, hlt, hb.lt, Nat.le_refl _, World.ownsRow_nil _ _ _ _, rfl, World.ownsRow_nil _ _ _ _, fun i u q h => by simp at h, fun g h => by cases h⟩
theorem RAt.next (h : RAt w b B n N lo l kn kp nv pv us wr) (k : Below wr.heap.size wr W) : RAt w b B n N lo l kn kp nv pv us W := by
 refine ⟨h.bx.below k h.bx.lt, h.res.below k h.res.lt, since_of (step_below h.s.below k), h.lt, h.bB, Nat.le_trans h.size k.size, own_kept h.near k, h.ulen, own_kept h.row k, fun i u q h1 h2 => ?_, h.apart⟩
 obtain ⟨j1, j2, j3⟩ := h.at_ i u q h1 h2
 exact ⟨(j1.below k).more k.size, j2, fun g hg => ⟨(j3 g hg).1, Nat.lt_of_lt_of_le (j3 g hg).2.1 k.size, (j3 g hg).2.2⟩⟩
theorem RAt.x3 (h : RAt w b B n N lo l kn kp nv pv us wr) : wr.cell? ⟨b, 3, none⟩ = some nv := h.bx.c 3 rfl
theorem RAt.x4 (h : RAt w b B n N lo l kn kp nv pv us wr) : wr.cell? ⟨b, 4, none⟩ = some pv := h.bx.c 4 rfl
theorem RAt.xf (h : RAt w b B n N lo l kn kp nv pv us wr) (i : Nat) : wr.frozen? ⟨b, i, none⟩ = false := h.bx.frozen i
theorem RAt.noB (h : RAt w b B n N lo l kn kp nv pv us wr) : nv.ownBlock ≠ some b ∧ pv.ownBlock ≠ some b := by
 have := h.bB
 exact ⟨fun e => by have := (h.near.lt b e).1; omega, fun e => by have := (h.row.lt b e).1; omega⟩
theorem RAt.noR (h : RAt w b B n N lo l kn kp nv pv us wr) : nv.ownBlock ≠ some w.heap.size ∧ pv.ownBlock ≠ some w.heap.size := by
 have := h.bB
 have := h.lt
 exact ⟨fun e => by have := (h.near.lt _ e).1; omega, fun e => by have := (h.row.lt _ e).1; omega⟩
theorem RAt.mid3 (h : RAt w b B n N lo l kn kp nv pv us W) (k : W.grownBy W9 nv.ownBlock) : W9.cell? ⟨b, 3, none⟩ = some nv ∧ W9.frozen? ⟨b, 3, none⟩ = false :=
 have hb := h.bx.grown k (by intro e; exact h.noB.1 e.symm)
 ⟨hb.c 3 rfl, hb.frozen 3⟩
theorem RAt.mid4 (h : RAt w b B n N lo l kn kp nv pv us W) (k : W.grownBy W9 pv.ownBlock) : W9.cell? ⟨b, 4, none⟩ = some pv ∧ W9.frozen? ⟨b, 4, none⟩ = false :=
 have hb := h.bx.grown k (by intro e; exact h.noB.2 e.symm)
 ⟨hb.c 4 rfl, hb.frozen 4⟩
theorem set_grown (W9 : World) (b i : Nat) (v : Value) : W9.grownBy (W9.setCell ⟨b, i, none⟩ v) (some b) :=
 ⟨rfl, rfl, rfl, by simp [World.setCell], fun k _ hk => Below.heap_setCell _ _ _ _ (fun e => hk (by simp [e]))⟩
theorem set_size (W9 : World) (b i : Nat) (v : Value) : (W9.setCell ⟨b, i, none⟩ v).heap.size = W9.heap.size := by simp [World.setCell]
theorem RAt.addNear (h : RAt w b B n N lo l kn kp nv pv us W) {gg cap : Nat} (hl : lo + kn < l.length) (hown : W9.ownsRow B 36 2 (.slice (some ⟨gg, 0, none⟩) (kn + 1) cap) (kn + 1) (prVals (nearTo l lo kn) ++ [.string l[lo + kn].1, .string l[lo + kn].2])) (k : W.grownBy W9 nv.ownBlock) (hat : nv.ownBlock = some gg ∨ W.heap.size ≤ gg) :
  RAt w b B n N lo l (kn + 1) kp (.slice (some ⟨gg, 0, none⟩) (kn + 1) cap) pv us (W9.setCell ⟨b, 3, none⟩ (.slice (some ⟨gg, 0, none⟩) (kn + 1) cap)) := by
 have hbB := h.bB
 have hlt := h.lt
 have hsz := h.size
 have hks := k.size
 have g9 := set_grown W9 b 3 (.slice (some ⟨gg, 0, none⟩) (kn + 1) cap)
 have s9 := set_size W9 b 3 (.slice (some ⟨gg, 0, none⟩) (kn + 1) cap)
 have hrow9 : W9.ownsRow B 74 1 pv kp us := h.row.kept k (by
  cases e : pv.ownBlock with
  | none => exact .inl rfl
  | some g => exact .inr fun e2 => h.apart g e2.symm e.symm)
 have hblk : ∀ g, B ≤ g → g < W.heap.size → some g ≠ nv.ownBlock → (W9.setCell ⟨b, 3, none⟩ (.slice (some ⟨gg, 0, none⟩) (kn + 1) cap)).heap[g]? = W.heap[g]? := fun g h1 h2 h3 => (g9.block g (by omega) (by intro e; injection e with e; omega)).trans (k.block g h2 h3)
 have hgB := (hown.lt gg rfl).1
 refine ⟨(h.bx.grown k (by intro e; exact h.noB.1 e.symm)).set_ 3 _, (h.res.grown k (by intro e; exact h.noR.1 e.symm)).far (p := ⟨b, 3, none⟩) (by simp only; omega) _, since_put (since_of (h.s.below.grown k h.s.2.2.2.1 (fun g hg => by have := (h.near.lt g hg).1; omega))) (by simp only; omega) _, hlt, hbB, by omega, ?_, h.ulen, hrow9.kept g9 (.inr fun e => by have := (hrow9.lt b e).1; omega), fun i u q h1 h2 => ?_, fun g hg => ?_⟩
 ·rw [nearTo_succ hl, prVals_append]
  exact hown.kept g9 (.inr fun e => by have := (hown.lt b e).1; omega)
 ·obtain ⟨j1, j2, j3⟩ := h.at_ i u q h1 h2
  refine ⟨(j1.moved fun g hg => hblk g (j3 g hg).1 (j3 g hg).2.1 (j3 g hg).2.2.2).more (by omega), j2, fun g hg => ⟨(j3 g hg).1, by have := (j3 g hg).2.1; omega, (j3 g hg).2.2.1, fun e => ?_⟩⟩
  injection e with e
  subst e
  rcases hat with h5 | h5
  ·exact (j3 _ hg).2.2.2 h5.symm
  ·have := (j3 _ hg).2.1; omega
 ·have e : gg = g := by simpa [Value.ownBlock] using hg
  subst e
  intro e
  have h6 := h.row.lt gg e.symm
  rcases hat with h5 | h5
  ·exact h.apart gg h5 e
  ·omega
theorem RAt.addPath (h : RAt w b B n N lo l kn kp nv pv us W) {gg cap : Nat} {u : Value} (hT : Txs W W.heap.size u (bss (pth l (lo + kp)))) (hR : Roomy u) (hu : ∀ g, u.ownBlock = some g → B ≤ g ∧ g < W.heap.size ∧ some g ≠ pv.ownBlock ∧ some g ≠ nv.ownBlock)
  (hown : W9.ownsRow B 74 1 (.slice (some ⟨gg, 0, none⟩) (kp + 1) cap) (kp + 1) (us ++ [u])) (k : W.grownBy W9 pv.ownBlock) (hat : pv.ownBlock = some gg ∨ gg = W.heap.size) :
  RAt w b B n N lo l kn (kp + 1) nv (.slice (some ⟨gg, 0, none⟩) (kp + 1) cap) (us ++ [u]) (W9.setCell ⟨b, 4, none⟩ (.slice (some ⟨gg, 0, none⟩) (kp + 1) cap)) := by
 have hbB := h.bB
 have hlt := h.lt
 have hsz := h.size
 have hks := k.size
 have g9 := set_grown W9 b 4 (.slice (some ⟨gg, 0, none⟩) (kp + 1) cap)
 have s9 := set_size W9 b 4 (.slice (some ⟨gg, 0, none⟩) (kp + 1) cap)
 have hnear9 : W9.ownsRow B 36 2 nv kn (prVals (nearTo l lo kn)) := h.near.kept k (by
  cases e : nv.ownBlock with
  | none => exact .inl rfl
  | some g => exact .inr fun e2 => h.apart g e e2)
 have hblk : ∀ g, B ≤ g → g < W.heap.size → some g ≠ pv.ownBlock → (W9.setCell ⟨b, 4, none⟩ (.slice (some ⟨gg, 0, none⟩) (kp + 1) cap)).heap[g]? = W.heap[g]? := fun g h1 h2 h3 => (g9.block g (by omega) (by intro e; injection e with e; omega)).trans (k.block g h2 h3)
 have key : ∀ (u : Value) (q : List (List UInt8)), (Txs W W.heap.size u (bss q) ∧ Roomy u ∧ ∀ g, u.ownBlock = some g → B ≤ g ∧ g < W.heap.size ∧ some g ≠ pv.ownBlock ∧ some g ≠ nv.ownBlock) → Txs (W9.setCell ⟨b, 4, none⟩ (.slice (some ⟨gg, 0, none⟩) (kp + 1) cap)) (W9.setCell ⟨b, 4, none⟩ (.slice (some ⟨gg, 0, none⟩) (kp + 1) cap)).heap.size u (bss q) ∧ Roomy u ∧ ∀ g, u.ownBlock = some g → B ≤ g ∧ g < (W9.setCell ⟨b, 4, none⟩ (.slice (some ⟨gg, 0, none⟩) (kp + 1) cap)).heap.size ∧ some g ≠ (Value.slice (some ⟨gg, 0, none⟩) (kp + 1) cap).ownBlock ∧ some g ≠ nv.ownBlock := by
  rintro u q ⟨j1, j2, j3⟩
  refine ⟨(j1.moved fun g hg => hblk g (j3 g hg).1 (j3 g hg).2.1 (j3 g hg).2.2.1).more (by omega), j2, fun g hg => ⟨(j3 g hg).1, by have := (j3 g hg).2.1; omega, fun e => ?_, (j3 g hg).2.2.2⟩⟩
  have e : g = gg := by simpa [Value.ownBlock] using e
  subst e
  rcases hat with h5 | h5
  ·exact (j3 _ hg).2.2.1 h5.symm
  ·have := (j3 _ hg).2.1; omega
 have hul := h.ulen
 refine ⟨(h.bx.grown k (by intro e; exact h.noB.2 e.symm)).set_ 4 _, (h.res.grown k (by intro e; exact h.noR.2 e.symm)).far (p := ⟨b, 4, none⟩) (by simp only; omega) _, since_put (since_of (h.s.below.grown k h.s.2.2.2.1 (fun g hg => by have := (h.row.lt g hg).1; omega))) (by simp only; omega) _, hlt, hbB, by omega, hnear9.kept g9 (.inr fun e => by have := (hnear9.lt b e).1; omega), by rw [List.length_append, hul]; rfl, hown.kept g9 (.inr fun e => by have := (hown.lt b e).1; omega), fun i u' q' h1 h2 => ?_, fun g hg e => ?_⟩
 ·rw [pathsOf_succ] at h2
  by_cases hi : i < us.length
  ·rw [List.getElem?_append_left hi] at h1
   rw [List.getElem?_append_left (by rw [pathsOf_len]; omega)] at h2
   exact key u' q' (h.at_ i u' q' h1 h2)
  ·rw [List.getElem?_append_right (by omega)] at h1
   rw [List.getElem?_append_right (by rw [pathsOf_len]; omega), pathsOf_len] at h2
   by_cases hz : i - us.length = 0
   ·rw [hz] at h1
    rw [show i - kp = 0 by omega] at h2
    simp only [List.getElem?_cons_zero, Option.some.injEq] at h1 h2
    subst h1 h2
    exact key u _ ⟨hT, hR, hu⟩
   ·rw [List.getElem?_eq_none (by simp; omega)] at h1
    cases h1
 ·have e : g = gg := by simpa [Value.ownBlock] using e
  subst e
  have h6 := h.near.lt g hg
  rcases hat with h5 | h5
  ·exact h.apart g hg h5.symm
  ·omega
theorem RAt.paths (h : RAt w b B n N lo l kn kp nv pv us W) : OwnPths B pv (pathsOf l lo kp) W := by
 refine ⟨us, by rw [h.ulen, pathsOf_len], by rw [pathsOf_len]; exact h.row, h.size, fun i u q h1 h2 => ?_⟩
 obtain ⟨j1, j2, j3⟩ := h.at_ i u q h1 h2
 exact ⟨j1, j2, fun g hg => ⟨(j3 g hg).1, (j3 g hg).2.1, (j3 g hg).2.2.1⟩⟩
theorem RAt.done {m : Nat} {A1 Ap : Option Addr} {c1 cp : Nat} (h : RAt w b B n N lo l m m (.slice A1 m c1) (.slice Ap m cp) us W) (hm : lo + m ≤ l.length) {v0 v1 v2 v3 v4 : Value} :
  ∃ v, Ending.returned (.agg #[.int .i64 n, .int .i64 N, .bool false, .slice A1 m c1, .slice Ap m cp]) = .returned v ∧ Prf (((((W.setCell ⟨w.heap.size, 0, none⟩ v0).setCell ⟨w.heap.size, 1, none⟩ v1).setCell ⟨w.heap.size, 2, none⟩ v2).setCell ⟨w.heap.size, 3, none⟩ v3).setCell ⟨w.heap.size, 4, none⟩ v4) v ⟨n, N, false, nearTo l lo m, pathsOf l lo m⟩ ∧
   Since w (((((W.setCell ⟨w.heap.size, 0, none⟩ v0).setCell ⟨w.heap.size, 1, none⟩ v1).setCell ⟨w.heap.size, 2, none⟩ v2).setCell ⟨w.heap.size, 3, none⟩ v3).setCell ⟨w.heap.size, 4, none⟩ v4) := by
 have h1 := h.lt
 have h2 := h.bB
 have hn := nearTo_len hm
 have hnear := h.near
 rw [show W.ownsRow B 36 2 (.slice A1 m c1) m (prVals (nearTo l lo m)) = W.ownsRow B 36 2 (.slice A1 m c1) (nearTo l lo m).length (prVals (nearTo l lo m)) by rw [hn]] at hnear
 refine ⟨_, rfl, ⟨_, _, rfl, (Prs.of_own hnear).moved fun g hg => heap_put5 W (by have := (hnear.lt g hg).1; omega) v0 v1 v2 v3 v4, ?_⟩, since_put5 h.s (by omega) _ _ _ _ _⟩
 exact (((((h.paths.set_ ⟨w.heap.size, 0, none⟩ (by simp only; omega) v0).set_ ⟨w.heap.size, 1, none⟩ (by simp only; omega) v1).set_ ⟨w.heap.size, 2, none⟩ (by simp only; omega) v2).set_ ⟨w.heap.size, 3, none⟩ (by simp only; omega) v3).set_ ⟨w.heap.size, 4, none⟩ (by simp only; omega) v4).pths
end

theorem OwnInts.from {w w1 w2 : World} {v : Value} {l : List Int} (h : Below w.heap.size w w1) (k : OwnInts w1.heap.size v l w1 w2) : OwnInts w.heap.size v l w w2 :=
 ⟨own_down k.1 h.size, step_below h k.below, Nat.le_trans h.size k.2.2⟩
theorem rdCnt_le (v : ByteArray) : rdCnt v ≤ 9007199254740992 := by
 unfold rdCnt
 split
 ·exact Nat.zero_le _
 ·exact (stNum_facts v 0).1
theorem rFresh_this (A : Option Addr) (m c : Nat) (key : ByteArray) (kind : Int) (n : Nat) (id x : ByteArray) (z : Int) (L2 : List KV) (w : World) (hn : n ≤ 9007199254740992)
  (K1 : Hid (∀ W, Since w W → Calls qP 118 #[.slice A m c, .string key] W fun e w' => e = .returned (.int .i64 n) ∧ Since W w'))
  (K2 : Hid (∀ W, Since w W → Calls qP 119 #[.int .i64 kind, .int .i64 n] W fun e w' => e = .returned (.tuple #[.string id, .int .i64 z]) ∧ Since W w'))
  (K3 : Hid (∀ W, Since w W → Calls qP 78 #[.int .i64 ((n : Int) + 1)] W fun e w' => e = .returned (.string x) ∧ Since W w'))
  (K4 : Hid (∀ W, Since w W → Calls qP 26 #[.slice A m c, .string key, .string x] W fun e w' => ∃ v', e = .returned v' ∧ Prs w' v' L2 ∧ Since W w')) :
  Calls qP 71 #[.slice A m c, .string key, .int .i64 kind] w fun e w' => ∃ v', e = .returned (.tuple #[v', .string id]) ∧ Prs w' v' L2 ∧ Since w w' := by
 have hw : IntKind.i64.wrap ((n : Int) + 1) = (n : Int) + 1 := IntWalk.i64_in _ (by omega)
 clear hn
 go_enter Tryz.func71, Tryz.ntmps71
 go_wp2_with fail
 refine (K1.out _ (Since.refl w)).mono ?_
 rintro e w1 ⟨rfl, q⟩
 have S1 := qH q
 clear K1 q
 go_wp2_with fail
 refine (K2.out _ S1.out).mono ?_
 rintro e w2 ⟨rfl, q⟩
 have S2 := qH (since_two S1.out q)
 clear K2 q S1
 go_wp2_with fail
 refine (K3.out _ S2.out).mono ?_
 rintro e w3 ⟨rfl, q⟩
 have S3 := qH (since_two S2.out q)
 clear K3 q S2 hw
 go_wp2_with fail
 refine (K4.out _ S3.out).mono ?_
 rintro e w4 ⟨v', rfl, hP, q⟩
 have S4 := qH (And.intro hP (since_two S3.out q))
 clear K4 q S3 hP
 go_wp2
 go_ret2
 exact ⟨v', rfl, S4.out.1, S4.out.2⟩
section
variable {s : Value} {L : List KV} {w : World}
theorem rFresh (hP : Prs w s L) (hu : Up L) (hz : L.length + 1 ≤ 1000000000) (hL : Sized L) (key : ByteArray) (kind : Int) :
  Calls qP 71 #[s, .string key, .int .i64 kind] w fun e w' => ∃ v', e = .returned (.tuple #[v', .string (bs (mkS kind (rdCnt ((lget L key).getD ⟨#[]⟩))))]) ∧ Prs w' v' (lset L key (bs (encNum ((rdCnt ((lget L key).getD ⟨#[]⟩) : Int) + 1)).1)) ∧ Since w w' := by
 have hsz := hL.get key
 have hn := rdCnt_le ((lget L key).getD ⟨#[]⟩)
 have K1 := qH (fun W (hW : Since w W) => rCount s L key W (hP.below hW.below) hu (by omega) (by omega))
 have K4 := qH (fun W (hW : Since w W) => rPut14 s L key (bs (encNum ((rdCnt ((lget L key).getD ⟨#[]⟩) : Int) + 1)).1) W (hP.below hW.below) hu hz)
 obtain ⟨A, c, rfl, _, _⟩ := hP
 exact rFresh_this A _ c key kind _ _ _ _ _ w hn K1 (qH fun W _ => (rMake kind _ W).mono fun _ _ ⟨he, hb⟩ => ⟨he, since_of hb⟩) (qH fun W _ => rNum14 _ W) K4
end
theorem rNew_no (A : Option Addr) (m c : Nat) (chain key : ByteArray) (k : Int) (w : World) (h : k ≠ 0 ∨ (k = 0 ∧ 65536 < key.size))
  (K1 : Hid (∀ W, Since w W → Calls qP 70 #[.int .i64 6, .string chain] W fun e w' => e = .returned (.int .i64 k) ∧ Since W w')) :
  Calls qP 25 #[.slice A m c, .string chain, .string key] w fun e w' => e = .returned (.tuple #[.slice A m c, .string ⟨#[]⟩, .int .i64 (if k ≠ 0 then 7 else 4)]) ∧ Since w w' := by
 rcases h with h | ⟨rfl, h⟩
 ·rw [if_pos h]
  have hb : (k != 0) = true := by rw [bne_iff_ne]; exact h
  clear h
  go_enter Tryz.func25, Tryz.ntmps25
  go_wp2_with fail
  refine (K1.out _ (Since.refl w)).mono ?_
  rintro e w1 ⟨rfl, q⟩
  have S1 := qH q
  clear K1 q
  go_wp2
  go_ret3
  exact ⟨rfl, S1.out⟩
 ·rw [if_neg (by simp)]
  go_enter Tryz.func25, Tryz.ntmps25
  go_wp2_with fail
  refine (K1.out _ (Since.refl w)).mono ?_
  rintro e w1 ⟨rfl, q⟩
  have S1 := qH q
  clear K1 q
  go_wp2
  go_ret3
  exact ⟨rfl, S1.out⟩
theorem rNew_this (A : Option Addr) (m c : Nat) (chain key k1 k2 id x : ByteArray) (L1 L2 : List KV) (w : World) (h : key.size ≤ 65536)
  (K1 : Hid (∀ W, Since w W → Calls qP 70 #[.int .i64 6, .string chain] W fun e w' => e = .returned (.int .i64 0) ∧ Since W w'))
  (K2 : Hid (∀ W b, Since w W → Blk W b 9 #[.string ⟨#[110, 101, 120, 116]⟩, .string ⟨#[99, 108, 105, 101, 110, 116]⟩] → Calls qP 39 #[.slice (some ⟨b, 0, none⟩) 2 2] W fun e w' => e = .returned (.string k1) ∧ Since W w'))
  (K3 : Hid (∀ W, Since w W → Calls qP 71 #[.slice A m c, .string k1, .int .i64 3] W fun e w' => ∃ v', e = .returned (.tuple #[v', .string id]) ∧ Prs w' v' L1 ∧ Since W w'))
  (K4 : Hid (∀ W b, Since w W → Blk W b 9 #[.string ⟨#[99, 108, 105, 101, 110, 116]⟩, .string id] → Calls qP 39 #[.slice (some ⟨b, 0, none⟩) 2 2] W fun e w' => e = .returned (.string k2) ∧ Since W w'))
  (K5 : Hid (∀ W, Since w W → Calls qP 72 #[.agg #[.string chain, .string key, .int .i64 0, .bool false]] W fun e w' => e = .returned (.string x) ∧ Since W w'))
  (K6 : Hid (∀ W v, Since w W → Prs W v L1 → Calls qP 26 #[v, .string k2, .string x] W fun e w' => ∃ v', e = .returned v' ∧ Prs w' v' L2 ∧ Since W w' ∧ ∀ g, v'.ownBlock = some g → W.heap.size ≤ g)) :
  Calls qP 25 #[.slice A m c, .string chain, .string key] w fun e w' => ∃ v', e = .returned (.tuple #[v', .string id, .int .i64 0]) ∧ Prs w' v' L2 ∧ Since w w' ∧ ∀ g, v'.ownBlock = some g → w.heap.size ≤ g := by
 have hk : ¬ 65536 < (key.size : Int) := by omega
 clear h
 go_enter Tryz.func25, Tryz.ntmps25
 go_wp2_with fail
 refine (K1.out _ (Since.refl w)).mono ?_
 rintro e w1 ⟨rfl, q⟩
 have B1 := qH (Blk.new w1 9 #[.string ⟨#[110, 101, 120, 116]⟩, .string ⟨#[99, 108, 105, 101, 110, 116]⟩])
 have S1 := qH (since_alloc q (.cells #[.string ⟨#[110, 101, 120, 116]⟩, .string ⟨#[99, 108, 105, 101, 110, 116]⟩] 9))
 clear K1 q
 go_wp2_with fail
 refine (K2.out _ _ S1.out B1.out).mono ?_
 rintro e w2 ⟨rfl, q⟩
 have S2 := qH (since_two S1.out q)
 clear K2 q S1 B1 hk
 go_wp2_with fail
 refine (K3.out _ S2.out).mono ?_
 rintro e w3 ⟨v1, rfl, hP, q⟩
 have P3 := qH (hP.below ((Below.refl _ w3).alloc (Nat.le_refl _) (.cells #[.string ⟨#[99, 108, 105, 101, 110, 116]⟩, .string id] 9)))
 have S3 := qH (since_alloc (since_two S2.out q) (.cells #[.string ⟨#[99, 108, 105, 101, 110, 116]⟩, .string id] 9))
 have B3 := qH (Blk.new w3 9 #[.string ⟨#[99, 108, 105, 101, 110, 116]⟩, .string id])
 clear K3 q S2 hP
 go_wp2_with fail
 refine (K4.out _ _ S3.out B3.out).mono ?_
 rintro e w4 ⟨rfl, q⟩
 have P4 := qH (P3.out.below q.below)
 have S4 := qH (since_two S3.out q)
 clear K4 q S3 B3 P3
 go_wp2_with fail
 refine (K5.out _ S4.out).mono ?_
 rintro e w5 ⟨rfl, q⟩
 have P5 := qH (P4.out.below q.below)
 have S5 := qH (since_two S4.out q)
 clear K5 q S4 P4
 go_wp2_with fail
 refine (K6.out _ _ S5.out P5.out).mono ?_
 rintro e w6 ⟨v', rfl, hP, q, n⟩
 have N6 := qH (fun g hg => Nat.le_trans S5.out.below.size (n g hg))
 have S6 := qH (And.intro hP (since_two S5.out q))
 clear K6 q S5 P5 hP n
 go_wp2
 go_ret3
 exact ⟨v', rfl, S6.out.1, S6.out.2, N6.out⟩
theorem Sized.set {L : List KV} (h : Sized L) {k v : ByteArray} (hk : k.size ≤ 1000000) (hv : v.size ≤ 1000000) : Sized (lset L k v) := by
 induction L with
 | nil =>
  intro p hp
  simp only [lset, List.mem_singleton] at hp
  subst hp
  exact ⟨hk, hv⟩
 | cons x r ih =>
  have hr : Sized r := fun p hp => h p (by simp [hp])
  unfold lset
  split
  ·intro p hp
   rcases List.mem_cons.mp hp with rfl | hp
   ·exact ⟨hk, hv⟩
   ·exact h p hp
  ·split
   ·intro p hp
    rcases List.mem_cons.mp hp with rfl | hp
    ·exact ⟨hk, hv⟩
    ·exact hr p hp
   ·intro p hp
    rcases List.mem_cons.mp hp with rfl | hp
    ·exact h _ (by simp)
    ·exact ih hr p hp
theorem newF {w : World} {f : FuncId} {args : Array Value} {L : List KV} {s : Value} {id : ByteArray} {x : Int} (h : Calls qP f args w fun en w' => ∃ v, en = .returned (.tuple #[v, .string id, .int .i64 x]) ∧ Prs w' v L ∧ Since w w' ∧ ∀ g, v.ownBlock = some g → w.heap.size ≤ g) :
  Calls qP f args w fun en w' => ∃ v, en = .returned (.tuple #[v, .string id, .int .i64 x]) ∧ Prs w' v L ∧ Since w w' ∧ (v = s ∨ ∀ g, v.ownBlock = some g → w.heap.size ≤ g) :=
 h.mono fun _ _ ⟨v, h1, h2, h3, h4⟩ => ⟨v, h1, h2, h3, .inr h4⟩
section
variable {s : Value} {L : List KV} {w : World}
theorem rNewF14 (hP : Prs w s L) (hu : Up L) (hz : L.length + 2 ≤ 1000000000) (hL : Sized L) (chain key : ByteArray) (hc : chain.size ≤ 1000000) :
  Calls qP 25 #[s, .string chain, .string key] w fun e w' => ∃ v', e = .returned (.tuple #[v', .string (cNew L chain key).1.2, .int .i64 (cNew L chain key).2]) ∧ Prs w' v' (cNew L chain key).1.1 ∧ Since w w' ∧ (v' = s ∨ ∀ g, v'.ownBlock = some g → w.heap.size ≤ g) := by
 have K1 := qH (fun W (_ : Since w W) => calls_since (rCheck 6 chain W hc) (Since.refl W))
 unfold cNew
 by_cases h1 : ck 6 chain.data.toList = 0
 ·rw [if_neg (by simp [h1])]
  by_cases h2 : 65536 < key.size
  ·rw [if_pos h2]
   have hP0 := hP
   obtain ⟨A, c, rfl, _, _⟩ := hP0
   refine (rNew_no A _ c chain key _ w (.inr ⟨h1, h2⟩) K1).mono ?_
   rintro e w' ⟨rfl, hs⟩
   rw [if_neg (by simp [h1])]
   exact ⟨_, rfl, hP.below hs.below, hs, .inl rfl⟩
  ·rw [if_neg h2]
   rw [h1] at K1
   have hid : (bs (mkS 3 (cCount L))).size ≤ 1000000 := by
    rw [bs_size]
    unfold mkS
    split
    ·rename_i hm
     have := dcm_len (Int.toNat (cCount L)) (by have := (mk_ok hm).2.2; omega)
     rw [List.length_append, show (wd 3).length = 7 by decide]
     omega
    ·exact Nat.zero_le _
   have hx : (bs (cltTx ⟨chain, key, 0, false⟩)).size ≤ 1000000 := by
    rw [bs_size]
    unfold cltTx
    simp only [List.length_append]
    have := encText_len chain
    have := encText_len key
    have := encNum_len 0
    have := encNum_len (fz false)
    omega
   have K3 := qH (fun W (hW : Since w W) => rFresh (hP.below hW.below) hu (by omega) hL kNext 3)
   have hu1 := lset_up (k := kNext) (v := bs (encNum ((cCount L : Int) + 1)).1) hu
   have hl1 := lset_len (k := kNext) (v := bs (encNum ((cCount L : Int) + 1)).1) L
   have K6 := qH (fun W v (_ : Since w W) (h : Prs W v _) => rPutF14 v _ (kClt (bs (mkS 3 (cCount L)))) (bs (cltTx ⟨chain, key, 0, false⟩)) W h hu1 (by omega))
   obtain ⟨A, c, rfl, _, _⟩ := hP
   exact newF (rNew_this A _ c chain key kNext (kClt (bs (mkS 3 (cCount L)))) _ _ _ _ w (by omega) K1 (qH fun W b _ hB => rKey2 wNext wClt b W hB (by decide) (by decide)) K3 (qH fun W b _ hB => rKey2 wClt _ b W hB (by decide) hid) (qH fun W _ => rValue ⟨chain, key, 0, false⟩ W) K6)
 ·rw [if_pos h1]
  have hP0 := hP
  obtain ⟨A, c, rfl, _, _⟩ := hP0
  refine (rNew_no A _ c chain key _ w (.inl h1) K1).mono ?_
  rintro e w' ⟨rfl, hs⟩
  rw [if_pos h1]
  exact ⟨_, rfl, hP.below hs.below, hs, .inl rfl⟩
end
theorem later_on14 {w V : World} {f : FuncId} {args : Array Value} {x : Ending} (h : Hid (∀ W, Since w W → Calls qP f args W fun e w' => e = x ∧ Since W w')) (hV : Since w V) : Hid (∀ W, Since V W → Calls qP f args W fun e w' => e = x ∧ Since V w') :=
 qH fun W hW => (h.out W (since_two hV hW)).mono fun _ _ ⟨he, hb⟩ => ⟨he, since_two hW hb⟩
theorem later_key {w V : World} {p x key : ByteArray} (h : Hid (∀ W b, Since w W → Blk W b 9 #[.string p, .string x] → Calls qP 39 #[.slice (some ⟨b, 0, none⟩) 2 2] W fun e w' => e = .returned (.string key) ∧ Since W w')) (hV : Since w V) : Hid (∀ W b, Since V W → Blk W b 9 #[.string p, .string x] → Calls qP 39 #[.slice (some ⟨b, 0, none⟩) 2 2] W fun e w' => e = .returned (.string key) ∧ Since V w') :=
 qH fun W b hW hB => (h.out W b (since_two hV hW) hB).mono fun _ _ ⟨he, hb⟩ => ⟨he, since_two hW hb⟩
theorem put_since {V W : World} {f : FuncId} {args : Array Value} {L : List KV} (h : Calls qP f args W fun e w' => ∃ v', e = .returned v' ∧ Prs w' v' L ∧ Since W w' ∧ ∀ g, v'.ownBlock = some g → W.heap.size ≤ g) (hW : Since V W) : Calls qP f args W fun e w' => ∃ v', e = .returned v' ∧ Prs w' v' L ∧ Since V w' ∧ ∀ g, v'.ownBlock = some g → V.heap.size ≤ g :=
 h.mono fun _ _ ⟨v', he, hp, hb, hg⟩ => ⟨v', he, hp, since_two hW hb, fun g e => Nat.le_trans hW.below.size (hg g e)⟩
theorem later_putF {w V : World} {f : FuncId} {args : Array Value} {L : List KV} (h : Hid (∀ W, Since w W → Calls qP f args W fun e w' => ∃ v', e = .returned v' ∧ Prs w' v' L ∧ Since W w' ∧ ∀ g, v'.ownBlock = some g → W.heap.size ≤ g)) (hV : Since w V) : Hid (∀ W, Since V W → Calls qP f args W fun e w' => ∃ v', e = .returned v' ∧ Prs w' v' L ∧ Since V w' ∧ ∀ g, v'.ownBlock = some g → V.heap.size ≤ g) :=
 qH fun W hW => (h.out W (since_two hV hW)).mono fun _ _ ⟨v', he, hp, hb, hg⟩ => ⟨v', he, hp, since_two hW hb, fun g e => Nat.le_trans hW.below.size (hg g e)⟩
theorem rUpd_e1 (A : Option Addr) (m c : Nat) (id raw : ByteArray) (c1 c2 : ByteArray) (c3 : Int) (c4 : Bool) (e : Int) (he : e ≠ 0) (w : World)
  (C : Hid (∀ W, Since w W → Calls qP 12 #[.slice A m c, .string id] W fun en w' => en = .returned (.tuple #[.agg #[.string c1, .string c2, .int .i64 c3, .bool c4], .int .i64 e]) ∧ Since W w')) :
  Calls qP 28 #[.slice A m c, .string id, .string raw] w fun en w' => en = .returned (.tuple #[.slice A m c, .int .i64 e]) ∧ Since w w' := by
 have hb : (e != 0) = true := by rw [bne_iff_ne]; exact he
 clear he
 go_enter Tryz.func28, Tryz.ntmps28
 go_wp2_with fail
 refine (C.out _ (Since.refl w)).mono ?_
 rintro en w1 ⟨rfl, q⟩
 have C1 := qH (Blk.new w1 41 #[.string c1, .string c2, .int .i64 c3, .bool c4])
 have S1 := qH (since_alloc q (.cells #[.string c1, .string c2, .int .i64 c3, .bool c4] 41))
 clear C q
 clear C1
 go_wp2
 go_ret2
 exact ⟨rfl, S1.out⟩
theorem rUpd_e2 (A : Option Addr) (m c : Nat) (id raw : ByteArray) (c1 c2 : ByteArray) (c3 : Int) (c4 : Bool) (h1 : ByteArray) (h2 h3 : Int) (h4 h5 : ByteArray) (e : Int) (he : e ≠ 0) (w : World)
  (C : Hid (∀ W, Since w W → Calls qP 12 #[.slice A m c, .string id] W fun en w' => en = .returned (.tuple #[.agg #[.string c1, .string c2, .int .i64 c3, .bool c4], .int .i64 0]) ∧ Since W w'))
  (E : Hid (∀ W, Since w W → Calls qP 77 #[.agg #[.string c1, .string c2, .int .i64 c3, .bool c4], .string raw] W fun en w' => en = .returned (.tuple #[.agg #[.string h1, .int .i64 h2, .int .i64 h3, .string h4, .string h5], .int .i64 e]) ∧ Since W w')) :
  Calls qP 28 #[.slice A m c, .string id, .string raw] w fun en w' => en = .returned (.tuple #[.slice A m c, .int .i64 e]) ∧ Since w w' := by
 have hb : (e != 0) = true := by rw [bne_iff_ne]; exact he
 clear he
 go_enter Tryz.func28, Tryz.ntmps28
 go_wp2_with fail
 refine (C.out _ (Since.refl w)).mono ?_
 rintro en w1 ⟨rfl, q⟩
 have C1 := qH (Blk.new w1 41 #[.string c1, .string c2, .int .i64 c3, .bool c4])
 have S1 := qH (since_alloc q (.cells #[.string c1, .string c2, .int .i64 c3, .bool c4] 41))
 clear C q
 have y0 : (w1.alloc (.cells #[.string c1, .string c2, .int .i64 c3, .bool c4] 41)).cell? ⟨w1.heap.size, 0, none⟩ = some (.string c1) := C1.out.c 0 rfl
 have y1 : (w1.alloc (.cells #[.string c1, .string c2, .int .i64 c3, .bool c4] 41)).cell? ⟨w1.heap.size, 1, none⟩ = some (.string c2) := C1.out.c 1 rfl
 have y2 : (w1.alloc (.cells #[.string c1, .string c2, .int .i64 c3, .bool c4] 41)).cell? ⟨w1.heap.size, 2, none⟩ = some (.int .i64 c3) := C1.out.c 2 rfl
 have y3 : (w1.alloc (.cells #[.string c1, .string c2, .int .i64 c3, .bool c4] 41)).cell? ⟨w1.heap.size, 3, none⟩ = some (.bool c4) := C1.out.c 3 rfl
 go_wp2_with fail
 clear y0 y1 y2 y3
 refine (E.out _ S1.out).mono ?_
 rintro en w2 ⟨rfl, q⟩
 have C2 := qH ((C1.out.next q.below).alloc (.cells #[.string h1, .int .i64 h2, .int .i64 h3, .string h4, .string h5] 34))
 have H2 := qH (Blk.new w2 34 #[.string h1, .int .i64 h2, .int .i64 h3, .string h4, .string h5])
 have S2 := qH (since_alloc (since_two S1.out q) (.cells #[.string h1, .int .i64 h2, .int .i64 h3, .string h4, .string h5] 34))
 clear E C1 S1 q
 clear C2 H2
 go_wp2
 go_ret2
 exact ⟨rfl, S2.out⟩
theorem rUpd_same (A : Option Addr) (m c : Nat) (id raw : ByteArray) (c1 c2 : ByteArray) (c3 : Int) (c4 : Bool) (h1 h5 : ByteArray) (h2 : Int) (x1 : Int) (x2 : ByteArray) (w : World)
  (C : Hid (∀ W, Since w W → Calls qP 12 #[.slice A m c, .string id] W fun en w' => en = .returned (.tuple #[.agg #[.string c1, .string c2, .int .i64 c3, .bool c4], .int .i64 0]) ∧ Since W w'))
  (E : Hid (∀ W, Since w W → Calls qP 77 #[.agg #[.string c1, .string c2, .int .i64 c3, .bool c4], .string raw] W fun en w' => en = .returned (.tuple #[.agg #[.string h1, .int .i64 h2, .int .i64 x1, .string x2, .string h5], .int .i64 0]) ∧ Since W w'))
  (X : Hid (∀ W, Since w W → Calls qP 32 #[.slice A m c, .string id, .int .i64 h2] W fun en w' => en = .returned (.tuple #[.agg #[.int .i64 x1, .string x2], .int .i64 0]) ∧ Since W w')) :
  Calls qP 28 #[.slice A m c, .string id, .string raw] w fun en w' => en = .returned (.tuple #[.slice A m c, .int .i64 9]) ∧ Since w w' := by
 go_enter Tryz.func28, Tryz.ntmps28
 go_wp2_with fail
 refine (C.out _ (Since.refl w)).mono ?_
 rintro en w1 ⟨rfl, q⟩
 have C1 := qH (Blk.new w1 41 #[.string c1, .string c2, .int .i64 c3, .bool c4])
 have S1 := qH (since_alloc q (.cells #[.string c1, .string c2, .int .i64 c3, .bool c4] 41))
 have S0 := qH q
 clear C q
 have y0 : (w1.alloc (.cells #[.string c1, .string c2, .int .i64 c3, .bool c4] 41)).cell? ⟨w1.heap.size, 0, none⟩ = some (.string c1) := C1.out.c 0 rfl
 have y1 : (w1.alloc (.cells #[.string c1, .string c2, .int .i64 c3, .bool c4] 41)).cell? ⟨w1.heap.size, 1, none⟩ = some (.string c2) := C1.out.c 1 rfl
 have y2 : (w1.alloc (.cells #[.string c1, .string c2, .int .i64 c3, .bool c4] 41)).cell? ⟨w1.heap.size, 2, none⟩ = some (.int .i64 c3) := C1.out.c 2 rfl
 have y3 : (w1.alloc (.cells #[.string c1, .string c2, .int .i64 c3, .bool c4] 41)).cell? ⟨w1.heap.size, 3, none⟩ = some (.bool c4) := C1.out.c 3 rfl
 go_wp2_with fail
 clear y0 y1 y2 y3
 refine (E.out _ S1.out).mono ?_
 rintro en w2 ⟨rfl, q⟩
 have C2 := qH ((C1.out.next q.below).alloc (.cells #[.string h1, .int .i64 h2, .int .i64 x1, .string x2, .string h5] 34))
 have H2 := qH (Blk.new w2 34 #[.string h1, .int .i64 h2, .int .i64 x1, .string x2, .string h5])
 have S2 := qH (since_alloc (since_two S1.out q) (.cells #[.string h1, .int .i64 h2, .int .i64 x1, .string x2, .string h5] 34))
 clear E C1 S1 q
 have y1 : (w2.alloc (.cells #[.string h1, .int .i64 h2, .int .i64 x1, .string x2, .string h5] 34)).cell? ⟨w2.heap.size, 1, none⟩ = some (.int .i64 h2) := H2.out.c 1 rfl
 go_wp2_with fail
 clear y1
 refine (X.out _ S2.out).mono ?_
 rintro en w3 ⟨rfl, q⟩
 have n2 : w1.heap.size < w2.heap.size + 1 := by have := C2.out.lt; simpa using this
 have n3 : w2.heap.size < w3.heap.size := Nat.lt_of_lt_of_le H2.out.lt q.below.size
 have n1 : w1.heap.size < w3.heap.size := Nat.lt_of_lt_of_le C2.out.lt q.below.size
 have g1 : w.heap.size ≤ w1.heap.size := S0.out.below.size
 have C3 := qH ((C2.out.next q.below).alloc (.cells #[.int .i64 x1, .string x2] 62))
 have H3 := qH ((H2.out.next q.below).alloc (.cells #[.int .i64 x1, .string x2] 62))
 have X3 := qH (Blk.new w3 62 #[.int .i64 x1, .string x2])
 have S3 := qH (since_alloc (since_two S2.out q) (.cells #[.int .i64 x1, .string x2] 62))
 clear X C2 H2 S2 q S0
 have y0 : (w3.alloc (.cells #[.int .i64 x1, .string x2] 62)).cell? ⟨w2.heap.size, 0, none⟩ = some (.string h1) := H3.out.c 0 rfl
 have y1 : (w3.alloc (.cells #[.int .i64 x1, .string x2] 62)).cell? ⟨w2.heap.size, 1, none⟩ = some (.int .i64 h2) := H3.out.c 1 rfl
 have y2 : (w3.alloc (.cells #[.int .i64 x1, .string x2] 62)).cell? ⟨w2.heap.size, 2, none⟩ = some (.int .i64 x1) := H3.out.c 2 rfl
 have y3 : (w3.alloc (.cells #[.int .i64 x1, .string x2] 62)).cell? ⟨w2.heap.size, 3, none⟩ = some (.string x2) := H3.out.c 3 rfl
 have y4 : (w3.alloc (.cells #[.int .i64 x1, .string x2] 62)).cell? ⟨w2.heap.size, 4, none⟩ = some (.string h5) := H3.out.c 4 rfl
 have xc0 : (w3.alloc (.cells #[.int .i64 x1, .string x2] 62)).cell? ⟨w3.heap.size, 0, none⟩ = some (.int .i64 x1) := X3.out.c 0 rfl
 have xc1 : (w3.alloc (.cells #[.int .i64 x1, .string x2] 62)).cell? ⟨w3.heap.size, 1, none⟩ = some (.string x2) := X3.out.c 1 rfl
 clear n1 n2 n3 g1 C3 H3 X3
 go_wp2
 go_ret2
 exact ⟨rfl, S3.out⟩
theorem rUpd_frz (A : Option Addr) (m c : Nat) (id raw : ByteArray) (c1 c2 : ByteArray) (c3 : Int) (c4 : Bool) (h1 : ByteArray) (h2 h3 : Int) (h4 h5 : ByteArray) (x1 : Int) (x2 : ByteArray) (key tx : ByteArray) (L2 : List KV) (hx : ¬ (x1 = h3 ∧ x2 = h4)) (w : World)
  (C : Hid (∀ W, Since w W → Calls qP 12 #[.slice A m c, .string id] W fun en w' => en = .returned (.tuple #[.agg #[.string c1, .string c2, .int .i64 c3, .bool c4], .int .i64 0]) ∧ Since W w'))
  (E : Hid (∀ W, Since w W → Calls qP 77 #[.agg #[.string c1, .string c2, .int .i64 c3, .bool c4], .string raw] W fun en w' => en = .returned (.tuple #[.agg #[.string h1, .int .i64 h2, .int .i64 h3, .string h4, .string h5], .int .i64 0]) ∧ Since W w'))
  (X : Hid (∀ W, Since w W → Calls qP 32 #[.slice A m c, .string id, .int .i64 h2] W fun en w' => en = .returned (.tuple #[.agg #[.int .i64 x1, .string x2], .int .i64 0]) ∧ Since W w'))
  (KEY : Hid (∀ W b, Since w W → Blk W b 9 #[.string ⟨#[99, 108, 105, 101, 110, 116]⟩, .string id] → Calls qP 39 #[.slice (some ⟨b, 0, none⟩) 2 2] W fun e w' => e = .returned (.string key) ∧ Since W w'))
  (VA : Hid (∀ W, Since w W → Calls qP 72 #[.agg #[.string c1, .string c2, .int .i64 c3, .bool true]] W fun en w' => en = .returned (.string tx) ∧ Since W w'))
  (PU : Hid (∀ W, Since w W → Calls qP 26 #[.slice A m c, .string key, .string tx] W fun e w' => ∃ v', e = .returned v' ∧ Prs w' v' L2 ∧ Since W w' ∧ ∀ g, v'.ownBlock = some g → W.heap.size ≤ g)) :
  Calls qP 28 #[.slice A m c, .string id, .string raw] w fun en w' => ∃ v, en = .returned (.tuple #[v, .int .i64 0]) ∧ Prs w' v L2 ∧ Since w w' ∧ ∀ g, v.ownBlock = some g → w.heap.size ≤ g := by
 go_enter Tryz.func28, Tryz.ntmps28
 go_wp2_with fail
 refine (C.out _ (Since.refl w)).mono ?_
 rintro en w1 ⟨rfl, q⟩
 have C1 := qH (Blk.new w1 41 #[.string c1, .string c2, .int .i64 c3, .bool c4])
 have S1 := qH (since_alloc q (.cells #[.string c1, .string c2, .int .i64 c3, .bool c4] 41))
 have S0 := qH q
 clear C q
 have y0 : (w1.alloc (.cells #[.string c1, .string c2, .int .i64 c3, .bool c4] 41)).cell? ⟨w1.heap.size, 0, none⟩ = some (.string c1) := C1.out.c 0 rfl
 have y1 : (w1.alloc (.cells #[.string c1, .string c2, .int .i64 c3, .bool c4] 41)).cell? ⟨w1.heap.size, 1, none⟩ = some (.string c2) := C1.out.c 1 rfl
 have y2 : (w1.alloc (.cells #[.string c1, .string c2, .int .i64 c3, .bool c4] 41)).cell? ⟨w1.heap.size, 2, none⟩ = some (.int .i64 c3) := C1.out.c 2 rfl
 have y3 : (w1.alloc (.cells #[.string c1, .string c2, .int .i64 c3, .bool c4] 41)).cell? ⟨w1.heap.size, 3, none⟩ = some (.bool c4) := C1.out.c 3 rfl
 go_wp2_with fail
 clear y0 y1 y2 y3
 refine (E.out _ S1.out).mono ?_
 rintro en w2 ⟨rfl, q⟩
 have C2 := qH ((C1.out.next q.below).alloc (.cells #[.string h1, .int .i64 h2, .int .i64 h3, .string h4, .string h5] 34))
 have H2 := qH (Blk.new w2 34 #[.string h1, .int .i64 h2, .int .i64 h3, .string h4, .string h5])
 have S2 := qH (since_alloc (since_two S1.out q) (.cells #[.string h1, .int .i64 h2, .int .i64 h3, .string h4, .string h5] 34))
 clear E C1 S1 q
 have y1 : (w2.alloc (.cells #[.string h1, .int .i64 h2, .int .i64 h3, .string h4, .string h5] 34)).cell? ⟨w2.heap.size, 1, none⟩ = some (.int .i64 h2) := H2.out.c 1 rfl
 go_wp2_with fail
 clear y1
 refine (X.out _ S2.out).mono ?_
 rintro en w3 ⟨rfl, q⟩
 have n2 : w1.heap.size < w2.heap.size + 1 := by have := C2.out.lt; simpa using this
 have n3 : w2.heap.size < w3.heap.size := Nat.lt_of_lt_of_le H2.out.lt q.below.size
 have n1 : w1.heap.size < w3.heap.size := Nat.lt_of_lt_of_le C2.out.lt q.below.size
 have g1 : w.heap.size ≤ w1.heap.size := S0.out.below.size
 have C3 := qH ((C2.out.next q.below).alloc (.cells #[.int .i64 x1, .string x2] 62))
 have H3 := qH ((H2.out.next q.below).alloc (.cells #[.int .i64 x1, .string x2] 62))
 have X3 := qH (Blk.new w3 62 #[.int .i64 x1, .string x2])
 have S3 := qH (since_alloc (since_two S2.out q) (.cells #[.int .i64 x1, .string x2] 62))
 clear X C2 H2 S2 q S0
 have y0 : (w3.alloc (.cells #[.int .i64 x1, .string x2] 62)).cell? ⟨w2.heap.size, 0, none⟩ = some (.string h1) := H3.out.c 0 rfl
 have y1 : (w3.alloc (.cells #[.int .i64 x1, .string x2] 62)).cell? ⟨w2.heap.size, 1, none⟩ = some (.int .i64 h2) := H3.out.c 1 rfl
 have y2 : (w3.alloc (.cells #[.int .i64 x1, .string x2] 62)).cell? ⟨w2.heap.size, 2, none⟩ = some (.int .i64 h3) := H3.out.c 2 rfl
 have y3 : (w3.alloc (.cells #[.int .i64 x1, .string x2] 62)).cell? ⟨w2.heap.size, 3, none⟩ = some (.string h4) := H3.out.c 3 rfl
 have y4 : (w3.alloc (.cells #[.int .i64 x1, .string x2] 62)).cell? ⟨w2.heap.size, 4, none⟩ = some (.string h5) := H3.out.c 4 rfl
 have xc0 : (w3.alloc (.cells #[.int .i64 x1, .string x2] 62)).cell? ⟨w3.heap.size, 0, none⟩ = some (.int .i64 x1) := X3.out.c 0 rfl
 have xc1 : (w3.alloc (.cells #[.int .i64 x1, .string x2] 62)).cell? ⟨w3.heap.size, 1, none⟩ = some (.string x2) := X3.out.c 1 rfl
 have C4 := qH (C3.out.set_ 3 (.bool true))
 have S4 := qH (since_put S3.out (p := ⟨w1.heap.size, 3, none⟩) g1 (.bool true))
 have fr := C3.out.frozen 3
 have w3c : (w3.alloc (.cells #[.int .i64 x1, .string x2] 62)).cell? ⟨w1.heap.size, 3, none⟩ = some (.bool c4) := C3.out.c 3 rfl
 have hx' : x1 ≠ h3 ∨ (x1 = h3 ∧ x2 ≠ h4) := by
  by_cases a : x1 = h3
  ·exact .inr ⟨a, fun b => hx ⟨a, b⟩⟩
  ·exact .inl a
 clear hx n1 n2 n3 g1 C3 H3 X3 S3
 rcases hx' with hx | ⟨rfl, hx⟩
 all_goals first
  | have hxb : (x1 == h3) = false := by rw [beq_eq_false_iff_ne]; exact hx
  | have hxb := str_neq hx
 all_goals clear hx
 all_goals go_wp2
 all_goals generalize (w3.alloc (.cells #[.int .i64 x1, .string x2] 62)).setCell ⟨w1.heap.size, 3, none⟩ (.bool true) = V at *
 all_goals have k0 : V.cell? ⟨w1.heap.size, 0, none⟩ = some (.string c1) := C4.out.c 0 rfl
 all_goals have k1 : V.cell? ⟨w1.heap.size, 1, none⟩ = some (.string c2) := C4.out.c 1 rfl
 all_goals have k2 : V.cell? ⟨w1.heap.size, 2, none⟩ = some (.int .i64 c3) := C4.out.c 2 rfl
 all_goals have k3 : V.cell? ⟨w1.heap.size, 3, none⟩ = some (.bool true) := C4.out.c 3 rfl
 all_goals have kk0 : ∀ ob, (V.alloc ob).cell? ⟨w1.heap.size, 0, none⟩ = some (.string c1) := fun ob => (C4.out.alloc ob).c 0 rfl
 all_goals have kk1 : ∀ ob, (V.alloc ob).cell? ⟨w1.heap.size, 1, none⟩ = some (.string c2) := fun ob => (C4.out.alloc ob).c 1 rfl
 all_goals have kk2 : ∀ ob, (V.alloc ob).cell? ⟨w1.heap.size, 2, none⟩ = some (.int .i64 c3) := fun ob => (C4.out.alloc ob).c 2 rfl
 all_goals have kk3 : ∀ ob, (V.alloc ob).cell? ⟨w1.heap.size, 3, none⟩ = some (.bool true) := fun ob => (C4.out.alloc ob).c 3 rfl
 all_goals have r0 := Since.refl V
 all_goals have KEY' := later_key KEY S4.out
 all_goals have VA' := later_on14 VA S4.out
 all_goals have PU' := later_putF PU S4.out
 all_goals clear KEY VA PU C4
 all_goals go_region_held3 (fun W => W.cell? ⟨w1.heap.size, 0, none⟩ = some (.string c1) ∧ W.cell? ⟨w1.heap.size, 1, none⟩ = some (.string c2) ∧ W.cell? ⟨w1.heap.size, 2, none⟩ = some (.int .i64 c3) ∧ W.cell? ⟨w1.heap.size, 3, none⟩ = some (.bool true))
  (first | exact ⟨s5.cell k0, s5.cell k1, s5.cell k2, s5.cell k3⟩ | exact ⟨s6.cell k0, s6.cell k1, s6.cell k2, s6.cell k3⟩ | exact ⟨s7.cell k0, s7.cell k1, s7.cell k2, s7.cell k3⟩ | exact ⟨kk0 _, kk1 _, kk2 _, kk3 _⟩ | go_keep)
  (first
    | (go_at_call 39; refine (KEY'.out _ _ (since_drew (since_alloc r0 _)) (blk_drew (Blk.new V _ _))).mono ?_; clear KEY'; rintro en w5 ⟨rfl, s5⟩)
    | (go_at_call 72; refine (VA'.out _ (by exact s5)).mono ?_; clear VA'; rintro en w6 ⟨rfl, s6⟩)
    | (go_at_call 26; refine (PU'.out _ (by exact s6)).mono ?_; clear PU'; rintro en w7 ⟨v7, rfl, P7, s7, n7⟩))
 all_goals go_wp2
 all_goals go_ret2
 all_goals exact ⟨v7, rfl, P7, since_two S4.out s7, fun g hg => Nat.le_trans S4.out.below.size (n7 g hg)⟩
theorem later_key3 {w V : World} {p x n key : ByteArray} (h : Hid (∀ W b, Since w W → Blk W b 9 #[.string p, .string x, .string n] → Calls qP 39 #[.slice (some ⟨b, 0, none⟩) 3 3] W fun e w' => e = .returned (.string key) ∧ Since W w')) (hV : Since w V) : Hid (∀ W b, Since V W → Blk W b 9 #[.string p, .string x, .string n] → Calls qP 39 #[.slice (some ⟨b, 0, none⟩) 3 3] W fun e w' => e = .returned (.string key) ∧ Since V w') :=
 qH fun W b hW hB => (h.out W b (since_two hV hW) hB).mono fun _ _ ⟨he, hb⟩ => ⟨he, since_two hW hb⟩
theorem rUpd_new (A : Option Addr) (m c : Nat) (id raw : ByteArray) (c1 c2 : ByteArray) (c3 : Int) (c4 : Bool) (h1 : ByteArray) (h2 h3 : Int) (h4 h5 : ByteArray) (x1 : Int) (x2 : ByteArray) (f mx : Int) (key key3 nn tx : ByteArray) (t1 t2 : List UInt8) (L1 L2 : List KV) (hf : f ≠ 0) (hmx : mx = max c3 h2) (hl1 : t1.length ≤ 100000) (hl2 : t2.length ≤ 100000) (w : World)
  (C : Hid (∀ W, Since w W → Calls qP 12 #[.slice A m c, .string id] W fun en w' => en = .returned (.tuple #[.agg #[.string c1, .string c2, .int .i64 c3, .bool c4], .int .i64 0]) ∧ Since W w'))
  (E : Hid (∀ W, Since w W → Calls qP 77 #[.agg #[.string c1, .string c2, .int .i64 c3, .bool c4], .string raw] W fun en w' => en = .returned (.tuple #[.agg #[.string h1, .int .i64 h2, .int .i64 h3, .string h4, .string h5], .int .i64 0]) ∧ Since W w'))
  (X : Hid (∀ W, Since w W → Calls qP 32 #[.slice A m c, .string id, .int .i64 h2] W fun en w' => en = .returned (.tuple #[.agg #[.int .i64 x1, .string x2], .int .i64 f]) ∧ Since W w'))
  (NUM : Hid (∀ W, Since w W → Calls qP 22 #[.int .i64 h2] W fun en w' => en = .returned (.string nn) ∧ Since W w'))
  (KEY3 : Hid (∀ W b, Since w W → Blk W b 9 #[.string ⟨#[115, 101, 101, 110]⟩, .string id, .string nn] → Calls qP 39 #[.slice (some ⟨b, 0, none⟩) 3 3] W fun e w' => e = .returned (.string key3) ∧ Since W w'))
  (N1 : Hid (∀ W, Since w W → Calls qP 78 #[.int .i64 h3] W fun en w' => en = .returned (.string (bs t1)) ∧ Since W w'))
  (T2 : Hid (∀ W, Since w W → Calls qP 79 #[.string h4] W fun en w' => en = .returned (.string (bs t2)) ∧ Since W w'))
  (PU1 : Hid (∀ W, Since w W → Calls qP 26 #[.slice A m c, .string key3, .string (bs (t1 ++ t2))] W fun e w' => ∃ v', e = .returned v' ∧ Prs w' v' L1 ∧ Since W w' ∧ ∀ g, v'.ownBlock = some g → W.heap.size ≤ g))
  (KEY : Hid (∀ W b, Since w W → Blk W b 9 #[.string ⟨#[99, 108, 105, 101, 110, 116]⟩, .string id] → Calls qP 39 #[.slice (some ⟨b, 0, none⟩) 2 2] W fun e w' => e = .returned (.string key) ∧ Since W w'))
  (VA : Hid (∀ W, Since w W → Calls qP 72 #[.agg #[.string c1, .string c2, .int .i64 mx, .bool c4]] W fun en w' => en = .returned (.string tx) ∧ Since W w'))
  (PU2 : Hid (∀ W v, Since w W → Prs W v L1 → Calls qP 26 #[v, .string key, .string tx] W fun e w' => ∃ v', e = .returned v' ∧ Prs w' v' L2 ∧ Since W w' ∧ ∀ g, v'.ownBlock = some g → W.heap.size ≤ g)) :
  Calls qP 28 #[.slice A m c, .string id, .string raw] w fun en w' => ∃ v, en = .returned (.tuple #[v, .int .i64 0]) ∧ Prs w' v L2 ∧ Since w w' ∧ ∀ g, v.ownBlock = some g → w.heap.size ≤ g := by
 have ad : ∀ W, (Op.stringOp .add (bs t1) (bs t2)).run qP W = .ok (.string (bs (t1 ++ t2))) W := fun W => run_add W t1 t2 (by omega)
 have hm : ∀ W, (Builtin.max_ #[3, 3] 3 #[.int .i64 c3, .int .i64 h2]).run qP W = .ok (.int .i64 mx) W := fun W => by rw [Lib.run_max_ints, hmx]
 have hfb : (f == 0) = false := by rw [beq_eq_false_iff_ne]; exact hf
 clear hf hmx hl1 hl2
 generalize t1 ++ t2 = t3 at *
 go_enter Tryz.func28, Tryz.ntmps28
 go_wp2_with fail
 refine (C.out _ (Since.refl w)).mono ?_
 rintro en w1 ⟨rfl, q⟩
 have C1 := qH (Blk.new w1 41 #[.string c1, .string c2, .int .i64 c3, .bool c4])
 have S1 := qH (since_alloc q (.cells #[.string c1, .string c2, .int .i64 c3, .bool c4] 41))
 have S0 := qH q
 clear C q
 have y0 : (w1.alloc (.cells #[.string c1, .string c2, .int .i64 c3, .bool c4] 41)).cell? ⟨w1.heap.size, 0, none⟩ = some (.string c1) := C1.out.c 0 rfl
 have y1 : (w1.alloc (.cells #[.string c1, .string c2, .int .i64 c3, .bool c4] 41)).cell? ⟨w1.heap.size, 1, none⟩ = some (.string c2) := C1.out.c 1 rfl
 have y2 : (w1.alloc (.cells #[.string c1, .string c2, .int .i64 c3, .bool c4] 41)).cell? ⟨w1.heap.size, 2, none⟩ = some (.int .i64 c3) := C1.out.c 2 rfl
 have y3 : (w1.alloc (.cells #[.string c1, .string c2, .int .i64 c3, .bool c4] 41)).cell? ⟨w1.heap.size, 3, none⟩ = some (.bool c4) := C1.out.c 3 rfl
 go_wp2_with fail
 clear y0 y1 y2 y3
 refine (E.out _ S1.out).mono ?_
 rintro en w2 ⟨rfl, q⟩
 have C2 := qH ((C1.out.next q.below).alloc (.cells #[.string h1, .int .i64 h2, .int .i64 h3, .string h4, .string h5] 34))
 have H2 := qH (Blk.new w2 34 #[.string h1, .int .i64 h2, .int .i64 h3, .string h4, .string h5])
 have S2 := qH (since_alloc (since_two S1.out q) (.cells #[.string h1, .int .i64 h2, .int .i64 h3, .string h4, .string h5] 34))
 clear E C1 S1 q
 have y1 : (w2.alloc (.cells #[.string h1, .int .i64 h2, .int .i64 h3, .string h4, .string h5] 34)).cell? ⟨w2.heap.size, 1, none⟩ = some (.int .i64 h2) := H2.out.c 1 rfl
 go_wp2_with fail
 clear y1
 refine (X.out _ S2.out).mono ?_
 rintro en w3 ⟨rfl, q⟩
 have n2 : w1.heap.size < w2.heap.size + 1 := by have := C2.out.lt; simpa using this
 have n3 : w2.heap.size < w3.heap.size := Nat.lt_of_lt_of_le H2.out.lt q.below.size
 have n1 : w1.heap.size < w3.heap.size := Nat.lt_of_lt_of_le C2.out.lt q.below.size
 have g1 : w.heap.size ≤ w1.heap.size := S0.out.below.size
 have C3 := qH ((C2.out.next q.below).alloc (.cells #[.int .i64 x1, .string x2] 62))
 have H3 := qH ((H2.out.next q.below).alloc (.cells #[.int .i64 x1, .string x2] 62))
 have X3 := qH (Blk.new w3 62 #[.int .i64 x1, .string x2])
 have S3 := qH (since_alloc (since_two S2.out q) (.cells #[.int .i64 x1, .string x2] 62))
 clear X C2 H2 S2 q S0
 go_wp2
 have hlt : w1.heap.size < (w3.alloc (.cells #[.int .i64 x1, .string x2] 62)).heap.size := C3.out.lt
 have HB := qH H3.out
 have CB := qH C3.out
 have SB := qH S3.out
 clear n1 n2 n3 C3 H3 X3 S3
 generalize (w3.alloc (.cells #[.int .i64 x1, .string x2] 62)) = V at *
 have k0 : V.cell? ⟨w2.heap.size, 0, none⟩ = some (.string h1) := HB.out.c 0 rfl
 have k1 : V.cell? ⟨w2.heap.size, 1, none⟩ = some (.int .i64 h2) := HB.out.c 1 rfl
 have k2 : V.cell? ⟨w2.heap.size, 2, none⟩ = some (.int .i64 h3) := HB.out.c 2 rfl
 have k3 : V.cell? ⟨w2.heap.size, 3, none⟩ = some (.string h4) := HB.out.c 3 rfl
 have k4 : V.cell? ⟨w2.heap.size, 4, none⟩ = some (.string h5) := HB.out.c 4 rfl
 have kk0 : ∀ ob, (V.alloc ob).cell? ⟨w2.heap.size, 0, none⟩ = some (.string h1) := fun ob => (HB.out.alloc ob).c 0 rfl
 have kk1 : ∀ ob, (V.alloc ob).cell? ⟨w2.heap.size, 1, none⟩ = some (.int .i64 h2) := fun ob => (HB.out.alloc ob).c 1 rfl
 have kk2 : ∀ ob, (V.alloc ob).cell? ⟨w2.heap.size, 2, none⟩ = some (.int .i64 h3) := fun ob => (HB.out.alloc ob).c 2 rfl
 have kk3 : ∀ ob, (V.alloc ob).cell? ⟨w2.heap.size, 3, none⟩ = some (.string h4) := fun ob => (HB.out.alloc ob).c 3 rfl
 have kk4 : ∀ ob, (V.alloc ob).cell? ⟨w2.heap.size, 4, none⟩ = some (.string h5) := fun ob => (HB.out.alloc ob).c 4 rfl
 have r0 := Since.refl V
 have NUM' := later_on14 NUM SB.out
 have KEY3' := later_key3 KEY3 SB.out
 have N1' := later_on14 N1 SB.out
 have T2' := later_on14 T2 SB.out
 have PU1' := later_putF PU1 SB.out
 clear NUM KEY3 N1 T2 PU1
 go_region_held3 (fun W => W.cell? ⟨w2.heap.size, 0, none⟩ = some (.string h1) ∧ W.cell? ⟨w2.heap.size, 1, none⟩ = some (.int .i64 h2) ∧ W.cell? ⟨w2.heap.size, 2, none⟩ = some (.int .i64 h3) ∧ W.cell? ⟨w2.heap.size, 3, none⟩ = some (.string h4) ∧ W.cell? ⟨w2.heap.size, 4, none⟩ = some (.string h5))
  (first | exact ⟨s4.cell k0, s4.cell k1, s4.cell k2, s4.cell k3, s4.cell k4⟩ | exact ⟨(since_alloc s4 _).cell k0, (since_alloc s4 _).cell k1, (since_alloc s4 _).cell k2, (since_alloc s4 _).cell k3, (since_alloc s4 _).cell k4⟩ | exact ⟨s5.cell k0, s5.cell k1, s5.cell k2, s5.cell k3, s5.cell k4⟩ | exact ⟨s6.cell k0, s6.cell k1, s6.cell k2, s6.cell k3, s6.cell k4⟩ | exact ⟨s7.cell k0, s7.cell k1, s7.cell k2, s7.cell k3, s7.cell k4⟩ | exact ⟨s8.cell k0, s8.cell k1, s8.cell k2, s8.cell k3, s8.cell k4⟩ | exact ⟨kk0 _, kk1 _, kk2 _, kk3 _, kk4 _⟩ | go_keep)
  (first
    | (go_at_call 22; refine (NUM'.out _ (by exact r0)).mono ?_; clear NUM'; rintro en w4 ⟨rfl, s4⟩)
    | (go_at_call 39; refine (KEY3'.out _ _ (by first | exact since_drew (since_alloc s4 _) | exact since_alloc s4 _ | exact since_alloc (since_drew s4) _ | exact since_drew (since_alloc (since_drew s4) _)) (by first | exact blk_drew (Blk.new _ _ _) | exact Blk.new _ _ _ | exact blk_drew (Blk.new w4.drew _ _) | exact Blk.new w4.drew _ _)).mono ?_; clear KEY3'; rintro en w5 ⟨rfl, s5⟩)
    | (go_at_call 78; refine (N1'.out _ (by exact s5)).mono ?_; clear N1'; rintro en w6 ⟨rfl, s6⟩)
    | (go_at_call 79; refine (T2'.out _ (by exact s6)).mono ?_; clear T2'; rintro en w7 ⟨rfl, s7⟩)
    | (go_at_call 26; refine (PU1'.out _ (by exact s7)).mono ?_; clear PU1'; rintro en w8 ⟨v8, rfl, P8, s8, fr8⟩))
 have C8 := qH (CB.out.next s8.below)
 have H8 := qH (HB.out.next s8.below)
 have S8 := qH (since_two SB.out s8)
 have P9 : Hid (Prs (w8.setCell ⟨w1.heap.size, 2, none⟩ (.int .i64 mx)) v8 L1) := qH (P8.moved fun g hg => Below.heap_setCell w8 ⟨w1.heap.size, 2, none⟩ _ g (fun e => by have := fr8 g hg; simp only at e; omega))
 have C9 := qH (C8.out.set_ 2 (.int .i64 mx))
 have S9 := qH (since_put S8.out (p := ⟨w1.heap.size, 2, none⟩) g1 (.int .i64 mx))
 have a0 : w8.cell? ⟨w1.heap.size, 2, none⟩ = some (.int .i64 c3) := C8.out.c 2 rfl
 have a1 : w8.cell? ⟨w2.heap.size, 1, none⟩ = some (.int .i64 h2) := H8.out.c 1 rfl
 have a2 := C8.out.frozen 2
 clear k0 k1 k2 k3 k4 kk0 kk1 kk2 kk3 kk4 r0 s4 s5 s6 s7 P8 fr8 CB HB SB C8 H8 S8 hlt g1
 go_wp2
 generalize w8.setCell ⟨w1.heap.size, 2, none⟩ (.int .i64 mx) = U at *
 have k0 : U.cell? ⟨w1.heap.size, 0, none⟩ = some (.string c1) := C9.out.c 0 rfl
 have k1 : U.cell? ⟨w1.heap.size, 1, none⟩ = some (.string c2) := C9.out.c 1 rfl
 have k2 : U.cell? ⟨w1.heap.size, 2, none⟩ = some (.int .i64 mx) := C9.out.c 2 rfl
 have k3 : U.cell? ⟨w1.heap.size, 3, none⟩ = some (.bool c4) := C9.out.c 3 rfl
 have kk0 : ∀ ob, (U.alloc ob).cell? ⟨w1.heap.size, 0, none⟩ = some (.string c1) := fun ob => (C9.out.alloc ob).c 0 rfl
 have kk1 : ∀ ob, (U.alloc ob).cell? ⟨w1.heap.size, 1, none⟩ = some (.string c2) := fun ob => (C9.out.alloc ob).c 1 rfl
 have kk2 : ∀ ob, (U.alloc ob).cell? ⟨w1.heap.size, 2, none⟩ = some (.int .i64 mx) := fun ob => (C9.out.alloc ob).c 2 rfl
 have kk3 : ∀ ob, (U.alloc ob).cell? ⟨w1.heap.size, 3, none⟩ = some (.bool c4) := fun ob => (C9.out.alloc ob).c 3 rfl
 have r0 := Since.refl U
 have KEY' := later_key KEY S9.out
 have VA' := later_on14 VA S9.out
 have PU' := qH (fun W (hW : Since U W) => put_since (PU2.out W v8 (since_two S9.out hW) (P9.out.below hW.below)) hW)
 clear KEY VA PU2 C9 P9
 go_region_held3 (fun W => W.cell? ⟨w1.heap.size, 0, none⟩ = some (.string c1) ∧ W.cell? ⟨w1.heap.size, 1, none⟩ = some (.string c2) ∧ W.cell? ⟨w1.heap.size, 2, none⟩ = some (.int .i64 mx) ∧ W.cell? ⟨w1.heap.size, 3, none⟩ = some (.bool c4))
  (first | exact ⟨s15.cell k0, s15.cell k1, s15.cell k2, s15.cell k3⟩ | exact ⟨s16.cell k0, s16.cell k1, s16.cell k2, s16.cell k3⟩ | exact ⟨s17.cell k0, s17.cell k1, s17.cell k2, s17.cell k3⟩ | exact ⟨kk0 _, kk1 _, kk2 _, kk3 _⟩ | go_keep)
  (first
    | (go_at_call 39; refine (KEY'.out _ _ (since_drew (since_alloc r0 _)) (blk_drew (Blk.new U _ _))).mono ?_; clear KEY'; rintro en w15 ⟨rfl, s15⟩)
    | (go_at_call 72; refine (VA'.out _ (by exact s15)).mono ?_; clear VA'; rintro en w16 ⟨rfl, s16⟩)
    | (go_at_call 26; refine (PU'.out _ (by exact s16)).mono ?_; clear PU'; rintro en w17 ⟨v17, rfl, P17, s17, n17⟩))
 go_wp2
 go_ret2
 exact ⟨v17, rfl, P17, since_two S9.out s17, fun g hg => Nat.le_trans S9.out.below.size (n17 g hg)⟩
theorem cGet_key (L : List KV) (id : ByteArray) : (cGet L id).1.key.size ≤ 65536 := by
 unfold cGet
 split
 ·simp [Clt.zero, ByteArray.size]
 ·rename_i c h
  rw [Option.bind_eq_some_iff] at h
  obtain ⟨v, _, hv⟩ := h
  unfold rdClt at hv
  simp only at hv
  split at hv
  ·cases hv
  ·injection hv with hv
   subst hv
   exact (stText_facts _ _).2
theorem fresh14 {w : World} {f : FuncId} {args : Array Value} {L : List KV} {s : Value} {x : Int} (h : Calls qP f args w fun en w' => ∃ v, en = .returned (.tuple #[v, .int .i64 x]) ∧ Prs w' v L ∧ Since w w' ∧ ∀ g, v.ownBlock = some g → w.heap.size ≤ g) :
  Calls qP f args w fun en w' => ∃ v, en = .returned (.tuple #[v, .int .i64 x]) ∧ Prs w' v L ∧ Since w w' ∧ (v = s ∨ ∀ g, v.ownBlock = some g → w.heap.size ≤ g) :=
 h.mono fun _ _ ⟨v, h1, h2, h3, h4⟩ => ⟨v, h1, h2, h3, .inr h4⟩
section
variable {s : Value} {L : List KV} {w : World}
theorem rUpdF14 (hP : Prs w s L) (hu : Up L) (hz : L.length + 2 ≤ 1000000000) (hL : Sized L) (id : ByteArray) (hid : id.size ≤ 1000000) (raw : ByteArray) (hraw : raw.size ≤ 9223372036854775807) :
  Calls qP 28 #[s, .string id, .string raw] w fun en w' => ∃ v, en = .returned (.tuple #[v, .int .i64 (cUpd L id raw).2]) ∧ Prs w' v (cUpd L id raw).1 ∧ Since w w' ∧ (v = s ∨ ∀ g, v.ownBlock = some g → w.heap.size ≤ g) := by
 have C := qH (fun W (hW : Since w W) => rGet14 (hP.below hW.below) hu (by omega) hL id hid)
 have hkey := cGet_key L id
 have E := qH (fun W (_ : Since w W) => rHdr14C (cGet L id).1 raw W hraw (by omega))
 have X := qH (fun W (hW : Since w W) => rSee14 (hP.below hW.below) hu (by omega) hL id hid (cHead (cGet L id).1 raw).1.height)
 have KEY := qH (fun W b (_ : Since w W) hB => rKey2 wClt id b W hB (by decide) hid)
 have kept : ∀ {x : Int} {en : Ending} {w' : World}, en = .returned (.tuple #[s, .int .i64 x]) ∧ Since w w' → ∃ v, en = .returned (.tuple #[v, .int .i64 x]) ∧ Prs w' v L ∧ Since w w' ∧ (v = s ∨ ∀ g, v.ownBlock = some g → w.heap.size ≤ g) := fun ⟨he, hs⟩ => ⟨_, he, hP.below hs.below, hs, .inl rfl⟩
 have PUT : ∀ tx : ByteArray, Hid (∀ W, Since w W → Calls qP 26 #[s, .string (kClt id), .string tx] W fun e w' => ∃ v', e = .returned v' ∧ Prs w' v' (lset L (kClt id) tx) ∧ Since W w' ∧ ∀ g, v'.ownBlock = some g → W.heap.size ≤ g) := fun tx => qH fun W hW => rPutF14 s L (kClt id) tx W (hP.below hW.below) hu (by omega)
 unfold cUpd cTake
 obtain ⟨⟨⟨c1, c2, c3, c4⟩, e⟩, hc⟩ : ∃ x, cGet L id = x := ⟨_, rfl⟩
 rw [hc] at C E X ⊢
 simp only at C E X ⊢
 obtain ⟨⟨⟨h1, h2, h3, h4, h5⟩, f⟩, hh⟩ : ∃ x, cHead ⟨c1, c2, c3, c4⟩ raw = x := ⟨_, rfl⟩
 rw [hh] at E X ⊢
 simp only at E X ⊢
 obtain ⟨⟨⟨x1, x2⟩, g⟩, hx⟩ : ∃ x, cSee L id h2 = x := ⟨_, rfl⟩
 rw [hx] at X ⊢
 simp only at X ⊢
 have PU1 := qH (fun W (hW : Since w W) => rPutF14 s L (kSeen id h2) (bs ((encNum h3).1 ++ (encText h4).1)) W (hP.below hW.below) hu (by omega))
 have hu1 := lset_up (k := kSeen id h2) (v := bs (snTx h3 h4)) hu
 have hl1 := lset_len (k := kSeen id h2) (v := bs (snTx h3 h4)) L
 have PU2 := qH (fun W v (_ : Since w W) (h : Prs W v _) => rPutF14 v _ (kClt id) (bs (cltTx ⟨c1, c2, max c3 h2, c4⟩)) W h hu1 (by omega))
 obtain ⟨A, cap, rfl, _, _⟩ := hP
 by_cases he : e = 0
 ·subst he
  rw [if_neg (by simp)]
  by_cases hf : f = 0
  ·subst hf
   rw [if_neg (by simp)]
   by_cases hg : g = 0
   ·subst hg
    rw [if_pos rfl]
    by_cases hs : x1 = h3 ∧ x2 = h4
    ·rw [if_pos hs]
     obtain ⟨rfl, rfl⟩ := hs
     exact (rUpd_same A _ cap id raw c1 c2 c3 c4 h1 h5 h2 x1 x2 w C E X).mono fun _ _ k => kept k
    ·rw [if_neg hs]
     exact fresh14 (rUpd_frz A _ cap id raw c1 c2 c3 c4 h1 h2 h3 h4 h5 x1 x2 (kClt id) (bs (cltTx ⟨c1, c2, c3, true⟩)) _ hs w C E X KEY (qH fun W _ => rValue ⟨c1, c2, c3, true⟩ W) (PUT _))
   ·rw [if_neg hg]
    exact fresh14 (rUpd_new A _ cap id raw c1 c2 c3 c4 h1 h2 h3 h4 h5 x1 x2 g (max c3 h2) (kClt id) (kSeen id h2) (nTx h2) (bs (cltTx ⟨c1, c2, max c3 h2, c4⟩)) (encNum h3).1 (encText h4).1 _ _ hg rfl (by have := encNum_len h3; omega) (by have := encText_len h4; omega) w C E X (qH fun W _ => rNumber14 h2 W) (qH fun W b _ hB => rKey3 wSeen id (nTx h2) b W hB (by decide) hid (by have := nTx_len h2; omega)) (qH fun W _ => rNum14 h3 W) (qH fun W _ => rText14 h4 W) PU1 KEY (qH fun W _ => rValue ⟨c1, c2, max c3 h2, c4⟩ W) PU2)
  ·rw [if_pos hf]
   exact (rUpd_e2 A _ cap id raw c1 c2 c3 c4 h1 h2 h3 h4 h5 f hf w C E).mono fun _ _ k => kept k
 ·rw [if_pos he]
  exact (rUpd_e1 A _ cap id raw c1 c2 c3 c4 e he w C).mono fun _ _ k => kept k
end
end Go.Proofs.YtkejaepmoabikaaGreatDoor.W
