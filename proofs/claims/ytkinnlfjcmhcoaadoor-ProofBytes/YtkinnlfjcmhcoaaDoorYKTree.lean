/-
  The reference's Tree and Root.
-/
import Derived.Test.YtkinnlfjcmhcoaaDoorYKRef
import Derived.Test.YtkinnlfjcmhcoaaDoorZ0d
import Derived.Test.YtkinnlfjcmhcoaaDoorZ0c
namespace Go.Proofs.YtkinnlfjcmhcoaaDoor.W
open Go.RowKit

theorem own_one {W0 w : World} (h : Below W0.heap.size W0 w) (c : ByteArray) : OwnStrs W0.heap.size (.slice (some ⟨w.heap.size, 0, none⟩) 1 1) [c] W0 (w.alloc (.cells #[.string c] 9)) :=
  ⟨⟨rfl, .inr ⟨w.heap.size, 1, #[.string c], rfl, h.size, heap_alloc_new w _, Nat.le_refl _, by unfold maxLen; omega, rfl, rfl⟩⟩, h.alloc h.size _, by simp; exact Nat.le_succ_of_le h.size⟩
theorem OwnStrs.lt {B : Nat} {v : Value} {ss : List ByteArray} {W0 w : World} (h : OwnStrs B v ss W0 w) : ∀ g, v.ownBlock = some g → B ≤ g ∧ g < w.heap.size := fun g hg => h.1.lt g hg

set_option maxHeartbeats 1000000 in
set_option maxRecDepth 100000 in
theorem rTree0 (v : Value) (w : World) (hP : Prs w v []) :
    Calls Tryd.prog 65 #[v] w fun e w' => ∃ u, e = .returned (.tuple #[.string (bs []), u]) ∧ OwnStrs w.heap.size u (bss []) w w' := by
  obtain ⟨A, cap, rfl, _, _⟩ := hP
  have h := OwnStrs_nil w
  go_enter Tryd.func65, Tryd.ntmps65
  go_wp2
  go_ret2
  exact ⟨_, rfl, h⟩
set_option maxHeartbeats 1000000 in
set_option maxRecDepth 100000 in
theorem rTree1 (v : Value) (p : KV) (w : World) (hP : Prs w v [p]) :
    Calls Tryd.prog 65 #[v] w fun e w' => ∃ u, e = .returned (.tuple #[.string (bs (shaOf (leafOf p))), u]) ∧ OwnStrs w.heap.size u (bss [leafOf p]) w w' := by
  obtain ⟨A, cap, rfl, _, hc⟩ := hP
  obtain ⟨b, off, rfl, c0, c1⟩ := hc 0 (by simp)
  have H := Lib.hid (rLeafC p w)
  have L := Lib.hid (show (leafOf p).length ≤ 1000000 by have := leafOf_len p; omega)
  generalize leafOf p = t at *
  obtain ⟨out, ho⟩ : ∃ out, shaOf t = out := ⟨_, rfl⟩
  rw [ho]
  have HO := Lib.hid ho
  simp only [List.getElem_cons_zero, Nat.zero_mul, Nat.add_zero] at c0 c1
  simp only [List.length_singleton]
  clear hc ho
  go_enter Tryd.func65, Tryd.ntmps65
  go_wp2_with fail
  refine H.out.mono ?_
  rintro e w1 ⟨rfl, b1⟩
  go_wp2_with fail
  refine (rShaC t out HO w1 L.out).mono ?_
  rintro e w2 ⟨rfl, b2⟩
  have R := Lib.hid (own_one (step_below b1 b2) (bs t))
  clear b1 b2
  go_wp2
  go_ret2
  exact ⟨_, rfl, R.out⟩
set_option maxHeartbeats 2000000 in
set_option maxRecDepth 100000 in
theorem rTree2 (A : Option Addr) (n cap s : Nat) (w : World) (A' : Option Addr) (n' c' : Nat) (x y t out : List UInt8) (X Y : List ByteArray) (hn : 2 ≤ n) (hn2 : n ≤ 1000000) (hs : spl n = s)
    (hs1 : ∀ W, (Instr.slice 22 (.slice A n cap) (some (.int .i64 s)) none none).run Tryd.prog W = .ok (.slice A' n' c') W)
    (hs2 : ∀ W, (Instr.slice 22 (.slice A n cap) none (some (.int .i64 s)) none).run Tryd.prog W = .ok (.slice A s cap) W)
    (H1 : Hid (∀ W, Since w W → Calls Tryd.prog 65 #[.slice A s cap] W fun e w' => ∃ u, e = .returned (.tuple #[.string (bs x), u]) ∧ OwnStrs W.heap.size u X W w'))
    (H2 : Hid (∀ W, Since w W → Calls Tryd.prog 65 #[.slice A' n' c'] W fun e w' => ∃ u, e = .returned (.tuple #[.string (bs y), u]) ∧ OwnStrs W.heap.size u Y W w'))
    (H3 : Hid (∀ W, Calls Tryd.prog 84 #[.string (bs x), .string (bs y)] W fun e w' => e = .returned (.string (bs t)) ∧ Below W.heap.size W w'))
    (H4 : Hid (∀ W, Calls Tryd.prog 39 #[.string (bs t)] W fun e w' => e = .returned (.string (bs out)) ∧ Below W.heap.size W w'))
    (hX : X.length + Y.length ≤ 100000000) :
    Calls Tryd.prog 65 #[.slice A n cap] w fun e w' => ∃ u, e = .returned (.tuple #[.string (bs out), u]) ∧ OwnStrs w.heap.size u (X ++ Y ++ [bs t]) w w' := by
  have K0 := rSplitC n w (by omega)
  rw [Int.toNat_natCast, hs] at K0
  have K := Lib.hid K0
  have HX := Lib.hid hX
  clear K0 hs hX
  have n0 : ((n : Int) == 0) = false := by simp; omega
  have n1 : ((n : Int) == 1) = false := by simp; omega
  clear hn hn2
  go_enter Tryd.func65, Tryd.ntmps65
  go_wp2_with fail
  refine K.out.mono ?_
  rintro e w1 ⟨rfl, b1⟩
  clear K
  go_wp2_with fail
  refine (H1.out w1 (since_of b1)).mono ?_
  rintro e w2 ⟨u2, rfl, o2⟩
  have B2 := Lib.hid (step_below b1 o2.below)
  have O2 := Lib.hid o2
  clear b1 o2 H1
  go_wp2_with fail
  refine (H2.out w2 (since_of B2.out)).mono ?_
  rintro e w3 ⟨u3, rfl, o3⟩
  have B3 := Lib.hid (step_below B2.out o3.below)
  have P2 := Lib.hid (O2.out.after o3.below)
  have O3 := Lib.hid o3
  clear o3 B2 O2 H2
  go_wp2_with fail
  refine (H3.out w3).mono ?_
  rintro e w4 ⟨rfl, b4⟩
  have B4 := Lib.hid (step_below B3.out b4)
  have P3 := Lib.hid (P2.out.after b4)
  have O4 := Lib.hid (O3.out.after b4)
  clear b4 B3 P2 O3 H3
  go_wp2_with (at_builtin; first
    | (refine wpList_append_txs _ rfl _ _ rfl w.heap.size _ _ u2 [] X rfl rfl w (OwnStrs.start B4.out) P3.out.txs (by have := HX.out; simp; omega) ?_; intro v5 w5 o5 g5; have Q5 := Lib.hid (txs_kept O4.out.txs g5 (fun g hg => ⟨(O4.out.lt g hg).2, by intro e; cases e⟩)); have O5 := Lib.hid o5; clear o5 g5 O4 P3 B4)
    | (refine wpList_append_txs _ rfl _ _ rfl w.heap.size _ v5 u3 _ Y rfl rfl w O5.out Q5.out (by have := HX.out; simp; omega) ?_; intro v6 w6 o6 g6; have O6 := Lib.hid o6; clear o6 g6 O5 Q5)
    | (refine wpList_append_str rfl _ _ rfl w.heap.size v6 _ rfl w w6 (bs t) O6.out rfl (by have := HX.out; simp; omega) ?_; intro v7 w7 o7; have O7 := Lib.hid o7; clear o7 O6))
  refine (H4.out w7).mono ?_
  rintro e w8 ⟨rfl, b8⟩
  have R := Lib.hid (O7.out.after b8)
  clear b8 O7
  go_wp2
  go_ret2
  exact ⟨_, rfl, by simpa using R.out⟩
set_option maxRecDepth 100000 in
theorem rTreeC : ∀ (n : Nat) (l : List KV) (v : Value) (w : World), l.length = n → Prs w v l → n ≤ 1000000 →
    Calls Tryd.prog 65 #[v] w fun e w' => ∃ u, e = .returned (.tuple #[.string (bs (tree l)), u]) ∧ OwnStrs w.heap.size u (bss (texts l)) w w' := by
  intro n
  induction n using Nat.strongRecOn with
  | _ n ih =>
    intro l v w hl hP hn
    by_cases h2 : 2 ≤ n
    · obtain ⟨s1, s2, s3⟩ := spl_pos h2 (by omega)
      have ht := tree_two l (by omega) (by omega)
      have hx := texts_two l (by omega) (by omega)
      have lx := texts_len l (by omega)
      rw [hl] at ht hx
      rw [hx] at lx
      rw [List.length_append, List.length_append] at lx
      rw [ht, hx, bss_append, bss_append]
      obtain ⟨A, cap, rfl, hcap, hc⟩ := hP
      have hP : Prs w (.slice A l.length cap) l := ⟨A, cap, rfl, hcap, hc⟩
      obtain ⟨A1, c1, hs1, P1⟩ := prs_cut 22 Tryd.underlying22 (by kernel_rfl) hP (spl n) (by omega)
      obtain ⟨hs2, P2⟩ := prs_upto 22 Tryd.underlying22 (by kernel_rfl) hP (spl n) (by omega)
      rw [hl] at hs1 hs2 ⊢
      have l1 := tree_le (l.take (spl n)) (by rw [List.length_take]; omega)
      have l2 := tree_le (l.drop (spl n)) (by rw [List.length_drop]; omega)
      refine rTree2 A n cap (spl n) w A1 _ c1 (tree (l.take (spl n))) (tree (l.drop (spl n))) (nodeOf (tree (l.take (spl n))) (tree (l.drop (spl n)))) _ (bss (texts (l.take (spl n)))) (bss (texts (l.drop (spl n)))) h2 hn rfl hs1 hs2 ?_ ?_ ?_ ?_ (by rw [bss_len, bss_len]; omega)
      · exact Lib.hid fun W hW => ih (spl n) s2 (l.take (spl n)) _ W (by rw [List.length_take]; omega) (P2.below hW.below) (by omega)
      · exact Lib.hid fun W hW => ih (n - spl n) (by omega) (l.drop (spl n)) _ W (by rw [List.length_drop, hl]) (P1.below hW.below) (by omega)
      · exact Lib.hid fun W => rNodeC _ _ W (by omega) (by omega)
      · exact Lib.hid fun W => rShaC _ _ (Lib.hid rfl) W (by rw [nodeOf_len]; omega)
    · match l with
      | [] => exact rTree0 v w hP
      | [p] => exact rTree1 v p w hP
      | p :: q :: r => simp at hl; omega

set_option maxHeartbeats 1000000 in
set_option maxRecDepth 100000 in
theorem rRoot_this (A : Option Addr) (n cap : Nat) (w : World) (x t out : List UInt8) (X : List ByteArray)
    (H1 : Hid (Calls Tryd.prog 65 #[.slice A n cap] w fun e w' => ∃ u, e = .returned (.tuple #[.string (bs x), u]) ∧ OwnStrs w.heap.size u X w w'))
    (H3 : Hid (∀ W, Calls Tryd.prog 38 #[.int .i64 n, .string (bs x)] W fun e w' => e = .returned (.string (bs t)) ∧ Below W.heap.size W w'))
    (H4 : Hid (∀ W, Calls Tryd.prog 39 #[.string (bs t)] W fun e w' => e = .returned (.string (bs out)) ∧ Below W.heap.size W w'))
    (hX : X.length ≤ 100000000) :
    Calls Tryd.prog 25 #[.slice A n cap] w fun e w' => ∃ u, e = .returned (.tuple #[.string (bs out), u]) ∧ OwnStrs w.heap.size u (X ++ [bs t]) w w' := by
  have HX := Lib.hid hX
  clear hX
  go_enter Tryd.func25, Tryd.ntmps25
  go_wp2_with fail
  refine H1.out.mono ?_
  rintro e w2 ⟨u2, rfl, o2⟩
  have O2 := Lib.hid o2
  clear o2 H1
  go_wp2_with fail
  refine (H3.out w2).mono ?_
  rintro e w4 ⟨rfl, b4⟩
  have B4 := Lib.hid (step_below O2.out.below b4)
  have P3 := Lib.hid (O2.out.after b4)
  clear b4 O2 H3
  go_wp2_with (at_builtin; first
    | (refine wpList_append_txs _ rfl _ _ rfl w.heap.size _ _ u2 [] X rfl rfl w (OwnStrs.start B4.out) P3.out.txs (by have := HX.out; simp; omega) ?_; intro v5 w5 o5 g5; have O5 := Lib.hid o5; clear o5 g5 P3 B4)
    | (refine wpList_append_str rfl _ _ rfl w.heap.size v5 _ rfl w w5 (bs t) O5.out rfl (by have := HX.out; simp; omega) ?_; intro v7 w7 o7; have O7 := Lib.hid o7; clear o7 O5))
  refine (H4.out w7).mono ?_
  rintro e w8 ⟨rfl, b8⟩
  have R := Lib.hid (O7.out.after b8)
  clear b8 O7
  go_wp2
  go_ret2
  exact ⟨_, rfl, by simpa using R.out⟩
set_option maxRecDepth 100000 in
theorem rRootC (l : List KV) (v : Value) (w : World) (hP : Prs w v l) (hn : l.length ≤ 1000000) :
    Calls Tryd.prog 25 #[v] w fun e w' => ∃ u, e = .returned (.tuple #[.string (bs (rootOf l)), u]) ∧ OwnStrs w.heap.size u (bss (allOf l)) w w' := by
  have H1 := Lib.hid (rTreeC l.length l v w rfl hP hn)
  have l1 := tree_le l (by omega)
  have lx := texts_len l (by omega)
  have lt := topOf_len l.length (tree l)
  obtain ⟨A, cap, rfl, hcap, hc⟩ := hP
  have h := rRoot_this A l.length cap w _ (topOf l.length (tree l)) (rootOf l) _ H1 (Lib.hid fun W => rTopC _ _ W (by omega)) (Lib.hid fun W => rShaC _ _ (Lib.hid rfl) W (by omega)) (by rw [bss_len]; omega)
  unfold allOf
  rw [bss_append]
  exact h
end Go.Proofs.YtkinnlfjcmhcoaaDoor.W
