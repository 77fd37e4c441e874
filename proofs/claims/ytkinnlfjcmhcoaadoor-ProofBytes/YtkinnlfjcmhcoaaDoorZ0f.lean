/-
  Texts of one level, merged: XPath, XBuild, XNear, XLacks, CSame, CTexts, XSame, XLen, WRdr, WList, TRefG, XRoots.
-/
import Derived.Deep.AppendLies
import Derived.IntWalk
import Derived.Laws.Append
import Derived.Lib.Hide
import Derived.WalkKit
import Derived.WalkLawsBesides
import Derived.BigQuiet
import Derived.Deep.RegionHeld3
import Derived.Lib.LaidTab
import Derived.Test.YtkinnlfjcmhcoaaDoorZ0d
import Derived.Test.YtkinnlfjcmhcoaaDoorZ0e
import Derived.Test.YtkinnlfjcmhcoaaDoorZ0b
import Derived.Test.YtkinnlfjcmhcoaaDoorZ0c
import Derived.Test.YtkinnlfjcmhcoaaDoorZ0a
/-
  proof.pathOf.
-/
namespace Go.Proofs.YtkinnlfjcmhcoaaDoor.W
open Go.RowKit

/-- 'append(path, tree)' -/
theorem own_appended {B : Nat} {w w5 w7 w1 : World} {u : Value} {X : List ByteArray} {y : ByteArray} {gg cap : Nat} (hO : OwnStrs B u X w w5) (b7 : Below w5.heap.size w5 w7)
    (hown1 : w1.ownsRow B 9 1 (.slice (some ⟨gg, 0, none⟩) (X.length + 1) cap) (X.length + 1) (strVals X ++ [.string y])) (hgrow : (w7.alloc (.cells #[.string y] 9)).grownBy w1 u.ownBlock) :
    OwnStrs B (.slice (some ⟨gg, 0, none⟩) (X.length + 1) cap) (X ++ [y]) w w1 := by
  have h7 := (hO.after b7).alloc (.cells #[.string y] 9)
  refine ⟨by simpa [strVals] using hown1, h7.2.1.grown hgrow h7.2.2 (fun k hk => (hO.1.lt k hk).1), Nat.le_trans h7.2.2 hgrow.size⟩
set_option maxHeartbeats 4000000 in
set_option maxRecDepth 100000 in
theorem pathOfL (A : Option Addr) (n cap s : Nat) (i : Int) (w : World) (A' : Option Addr) (n' c' : Nat) (X : List ByteArray) (y : ByteArray) (hn : 2 ≤ n) (hn2 : n ≤ 1000000000) (hs : spl n = s) (hi : i < s) (hX : X.length ≤ 1000000)
    (hs1 : ∀ W, (Instr.slice 34 (.slice A n cap) (some (.int .i64 s)) none none).run Tryd.prog W = .ok (.slice A' n' c') W)
    (hs2 : ∀ W, (Instr.slice 34 (.slice A n cap) none (some (.int .i64 s)) none).run Tryd.prog W = .ok (.slice A s cap) W)
    (H1 : Hid (∀ W, Since w W → Calls Tryd.prog 33 #[.slice A s cap, .int .i64 (i)] W fun e w' => ∃ u, e = .returned u ∧ OwnStrs w.heap.size u X w w'))
    (H2 : Hid (∀ W, Since w W → Calls Tryd.prog 67 #[.slice A' n' c'] W fun e w' => e = .returned (.string y) ∧ Below W.heap.size W w')) :
    Calls Tryd.prog 33 #[.slice A n cap, .int .i64 i] w fun e w' => ∃ u, e = .returned u ∧ OwnStrs w.heap.size u (X ++ [y]) w w' := by
  obtain ⟨i0, hinf, hz0, hz1, hz2⟩ := info_parts infoStr
  have K0 := splitC n w (by omega)
  rw [Int.toNat_natCast, hs] at K0
  have K := Lib.hid K0
  clear K0 hs
  have r0 := Since.refl w
  have n1 : ((n : Int) == 1) = false := by simp; omega
  have HX := Lib.hid hX
  clear hn hX
  go_enter Tryd.func33, Tryd.ntmps33
  go_wp2_with fail
  refine K.out.mono ?_
  rintro e w1 ⟨rfl, rfl⟩
  clear K
  go_wp2
  go_region_held3 (fun _ => True)
    (first | trivial | go_keep)
    (first
      | (go_at_call 33; refine (H1.out _ (by exact r0)).mono ?_; clear H1; rintro en w5 ⟨u5, rfl, o5⟩; have O5 := Lib.hid o5; have s5 := since_of o5.2.1; clear o5)
      | (go_at_call 67; refine (H2.out _ (by exact s5)).mono ?_; clear H2; rintro en w7 ⟨rfl, b7⟩; have B7 := Lib.hid b7; clear b7)
      | (refine step_append_lies _ (by rfl) _ _ _ (by rfl) w.heap.size 9 i0 _ 1 16 Tryd.underlying34 hinf hz0 hz1 hz2 rfl (by omega) u5 X.length (strVals X) (by rfl) ((O5.out.after B7.out).alloc _).1 ⟨w7.heap.size, 0, none⟩ 1 1 [.string y] (by rfl) (by rfl) (World.news_of_block (cs := #[.string y]) (t := 9) (fr := (0, 0)) (heap_alloc_new w7 _)) (by simp [Value.oneCell']) (by omega) (by have := HX.out; unfold maxLen; omega) (by have := HX.out; omega) ((O5.out.after B7.out).alloc (.cells #[.string y] 9)).2.2 (w7.heap.size + 1) (by simp) ?_; intro gg cap2 w9 hown9 hgrow9 hat9 hlt9))
  all_goals have R := own_appended O5.out B7.out hown9 hgrow9
  all_goals clear hown9 hgrow9 hat9 hlt9
  all_goals go_wp2
  all_goals go_ret
  all_goals exact ⟨_, rfl, R⟩
set_option maxHeartbeats 4000000 in
set_option maxRecDepth 100000 in
theorem pathOfR (A : Option Addr) (n cap s : Nat) (i : Int) (w : World) (A' : Option Addr) (n' c' : Nat) (X : List ByteArray) (y : ByteArray) (hn : 2 ≤ n) (hn2 : n ≤ 1000000000) (hs : spl n = s) (hi : ¬ i < s) (hi0 : 0 ≤ i) (hi1 : i < n) (hX : X.length ≤ 1000000)
    (hs1 : ∀ W, (Instr.slice 34 (.slice A n cap) (some (.int .i64 s)) none none).run Tryd.prog W = .ok (.slice A' n' c') W)
    (hs2 : ∀ W, (Instr.slice 34 (.slice A n cap) none (some (.int .i64 s)) none).run Tryd.prog W = .ok (.slice A s cap) W)
    (H1 : Hid (∀ W, Since w W → Calls Tryd.prog 33 #[.slice A' n' c', .int .i64 (i - s)] W fun e w' => ∃ u, e = .returned u ∧ OwnStrs w.heap.size u X w w'))
    (H2 : Hid (∀ W, Since w W → Calls Tryd.prog 67 #[.slice A s cap] W fun e w' => e = .returned (.string y) ∧ Below W.heap.size W w')) :
    Calls Tryd.prog 33 #[.slice A n cap, .int .i64 i] w fun e w' => ∃ u, e = .returned u ∧ OwnStrs w.heap.size u (X ++ [y]) w w' := by
  obtain ⟨i0, hinf, hz0, hz1, hz2⟩ := info_parts infoStr
  have K0 := splitC n w (by omega)
  rw [Int.toNat_natCast, hs] at K0
  have K := Lib.hid K0
  clear K0 hs
  have r0 := Since.refl w
  have n1 : ((n : Int) == 1) = false := by simp; omega
  have hw : IntKind.i64.wrap (i - (s : Int)) = i - (s : Int) := IntWalk.i64_in _ (by omega)
  have HX := Lib.hid hX
  clear hn hX
  go_enter Tryd.func33, Tryd.ntmps33
  go_wp2_with fail
  refine K.out.mono ?_
  rintro e w1 ⟨rfl, rfl⟩
  clear K
  go_wp2
  go_region_held3 (fun _ => True)
    (first | trivial | go_keep)
    (first
      | (go_at_call 33; refine (H1.out _ (by exact r0)).mono ?_; clear H1; rintro en w5 ⟨u5, rfl, o5⟩; have O5 := Lib.hid o5; have s5 := since_of o5.2.1; clear o5)
      | (go_at_call 67; refine (H2.out _ (by exact s5)).mono ?_; clear H2; rintro en w7 ⟨rfl, b7⟩; have B7 := Lib.hid b7; clear b7)
      | (refine step_append_lies _ (by rfl) _ _ _ (by rfl) w.heap.size 9 i0 _ 1 16 Tryd.underlying34 hinf hz0 hz1 hz2 rfl (by omega) u5 X.length (strVals X) (by rfl) ((O5.out.after B7.out).alloc _).1 ⟨w7.heap.size, 0, none⟩ 1 1 [.string y] (by rfl) (by rfl) (World.news_of_block (cs := #[.string y]) (t := 9) (fr := (0, 0)) (heap_alloc_new w7 _)) (by simp [Value.oneCell']) (by omega) (by have := HX.out; unfold maxLen; omega) (by have := HX.out; omega) ((O5.out.after B7.out).alloc (.cells #[.string y] 9)).2.2 (w7.heap.size + 1) (by simp) ?_; intro gg cap2 w9 hown9 hgrow9 hat9 hlt9))
  all_goals have R := own_appended O5.out B7.out hown9 hgrow9
  all_goals clear hown9 hgrow9 hat9 hlt9
  all_goals go_wp2
  all_goals go_ret
  all_goals exact ⟨_, rfl, R⟩
set_option maxRecDepth 100000 in
theorem pathOfC : ∀ (n : Nat) (l : List KV) (v : Value) (i : Nat) (w : World), l.length = n → i < n → Txs w w.heap.size v (bss (lv l)) → Roomy v → Roots w → n ≤ 1000000 →
    Calls Tryd.prog 33 #[v, .int .i64 i] w fun e w' => ∃ u, e = .returned u ∧ OwnStrs w.heap.size u (bss (pth l i)) w w' := by
  intro n
  induction n using Nat.strongRecOn with
  | _ n ih =>
    intro l v i w hl hi hT hR hr hn
    have hT0 := hT
    obtain ⟨A, cap, rfl, hc⟩ := hT0
    have hcap : (bss (lv l)).length ≤ cap := by
      obtain ⟨A0, n0, c0, e, h⟩ := hR
      cases e
      exact h
    have hll : (bss (lv l)).length = n := by rw [bss_len, lv_len, hl]
    by_cases h2 : 2 ≤ n
    · obtain ⟨s1, s2, s3⟩ := spl_pos h2 (by omega)
      obtain ⟨A1, c1, hs1, P1, R1⟩ := txs_cut hT hcap (spl n) (by omega)
      obtain ⟨hs2, P2⟩ := txs_upto hT hcap (spl n) (by omega)
      have e1 : (bss (lv l)).take (spl n) = bss (lv (l.take (spl n))) := by rw [lv_take, bss_take]
      have e2 : (bss (lv l)).drop (spl n) = bss (lv (l.drop (spl n))) := by rw [lv_drop, bss_drop]
      rw [e1] at P2
      rw [e2] at hs1 P1 R1
      rw [hll] at hs1 hs2 ⊢
      have len1 : (l.take (spl n)).length = spl n := by rw [List.length_take]; omega
      have len2 : (l.drop (spl n)).length = n - spl n := by rw [List.length_drop, hl]
      have ne1 : l.take (spl n) ≠ [] := by intro e; rw [e] at len1; simp at len1; omega
      have ne2 : l.drop (spl n) ≠ [] := by intro e; rw [e] at len2; simp at len2; omega
      by_cases hlt : i < spl n
      · have hp := pth_left (l := l) (by omega) (by omega) (i := i) (by rw [hl]; exact hlt)
        rw [hl] at hp
        rw [hp, bss_append]
        refine pathOfL A n cap (spl n) i w A1 _ c1 (bss (pth (l.take (spl n)) i)) (bs (tree (l.drop (spl n)))) h2 (by omega) rfl (by omega) ?_ hs1 hs2 ?_ ?_
        · rw [bss_len]; have := (pth_len _ (l.take (spl n)) i rfl (by omega)).1; omega
        · exact Lib.hid fun W hW => (ih (spl n) s2 (l.take (spl n)) _ i W len1 hlt (hW.txs P2) ⟨_, _, _, rfl, by omega⟩ (roots_since hr hW) (by omega)).mono fun e w' ⟨u, he, ho⟩ => ⟨u, he, OwnStrs.from hW.below ho⟩
        · exact Lib.hid fun W hW => treeOfC _ (l.drop (spl n)) _ W rfl ne2 (hW.txs P1) ⟨_, _, _, rfl, R1⟩ (roots_since hr hW) (by omega)
      · have hp := pth_right (l := l) (by omega) (by omega) (i := i) (by rw [hl]; exact hlt)
        rw [hl] at hp
        rw [hp, bss_append]
        refine pathOfR A n cap (spl n) i w A1 _ c1 (bss (pth (l.drop (spl n)) (i - spl n))) (bs (tree (l.take (spl n)))) h2 (by omega) rfl (by omega) (by omega) (by omega) ?_ hs1 hs2 ?_ ?_
        · rw [bss_len]; have := (pth_len _ (l.drop (spl n)) (i - spl n) rfl (by omega)).1; omega
        · rw [show (i : Int) - (spl n : Nat) = ((i - spl n : Nat) : Int) by omega]
          exact Lib.hid fun W hW => (ih (n - spl n) (by omega) (l.drop (spl n)) _ (i - spl n) W len2 (by omega) (hW.txs P1) ⟨_, _, _, rfl, R1⟩ (roots_since hr hW) (by omega)).mono fun e w' ⟨u, he, ho⟩ => ⟨u, he, OwnStrs.from hW.below ho⟩
        · exact Lib.hid fun W hW => treeOfC _ (l.take (spl n)) _ W rfl ne1 (hW.txs P2) ⟨_, _, _, rfl, by omega⟩ (roots_since hr hW) (by omega)
    · rw [pth_small (by omega), hll]
      obtain rfl : n = 1 := by omega
      exact pathOf1 A cap i w
end Go.Proofs.YtkinnlfjcmhcoaaDoor.W
/-
  proof.Build.
-/
namespace Go.Proofs.YtkinnlfjcmhcoaaDoor.W
open Go.RowKit

/-- the three boxes of Build -/
def boxW (w : World) (v : Value) (key : ByteArray) : World :=
  ((w.alloc (.cells #[v] 22)).alloc (.cells #[.string key] 9)).alloc (.cells #[.int .i64 0, .int .i64 0, .bool false, .slice none 0 0, .slice none 0 0] 28)
structure BoxAt (w : World) (v : Value) (key : ByteArray) (W : World) : Prop where
  l : Blk W w.heap.size 22 #[v]
  k : Blk W (w.heap.size + 1) 9 #[.string key]
  r : Blk W (w.heap.size + 1 + 1) 28 #[.int .i64 0, .int .i64 0, .bool false, .slice none 0 0, .slice none 0 0]
  s : Since w W
theorem boxAt (w : World) (v : Value) (key : ByteArray) : BoxAt w v key (boxW w v key) := by
  have h1 := Blk.new w 22 #[v]
  have b1 : Below w.heap.size w (w.alloc (.cells #[v] 22)) := (Below.refl _ w).alloc (Nat.le_refl _) _
  have e2 : (w.alloc (.cells #[v] 22)).heap.size = w.heap.size + 1 := by simp
  unfold boxW
  generalize w.alloc (.cells #[v] 22) = W1 at *
  have h2 := Blk.new W1 9 #[.string key]
  rw [e2] at h2
  have h1' := h1.alloc (.cells #[.string key] 9)
  have b2 : Below w.heap.size w (W1.alloc (.cells #[.string key] 9)) := b1.alloc b1.size _
  have e3 : (W1.alloc (.cells #[.string key] 9)).heap.size = w.heap.size + 1 + 1 := by simp [e2]
  generalize W1.alloc (.cells #[.string key] 9) = W2 at *
  have h3 := Blk.new W2 28 #[.int .i64 0, .int .i64 0, .bool false, .slice none 0 0, .slice none 0 0]
  rw [e3] at h3
  exact ⟨h1'.alloc _, h2.alloc _, h3, since_of (b2.alloc b2.size _)⟩
theorem BoxAt.next {w W W' : World} {v : Value} {key : ByteArray} (h : BoxAt w v key W) (k : Since W W') : BoxAt w v key W' :=
  ⟨h.l.below k.below h.l.lt, h.k.below k.below h.k.lt, h.r.below k.below h.r.lt, since_of (step_below h.s.below k.below)⟩

theorem put5 {W : World} {b : Nat} {t : TypeId} {a0 a1 a2 a3 a4 : Value} (h : Blk W b t #[a0, a1, a2, a3, a4]) (v0 v1 v2 v3 v4 : Value) :
    Blk (((((W.setCell ⟨b, 0, none⟩ v0).setCell ⟨b, 1, none⟩ v1).setCell ⟨b, 2, none⟩ v2).setCell ⟨b, 3, none⟩ v3).setCell ⟨b, 4, none⟩ v4) b t #[v0, v1, v2, v3, v4] :=
  ((((h.set_ 0 v0).set_ 1 v1).set_ 2 v2).set_ 3 v3).set_ 4 v4
theorem since_put {w W : World} (h : Since w W) {p : Addr} (hb : w.heap.size ≤ p.block) (v : Value) : Since w (W.setCell p v) := since_of (h.below.setCell hb v)
theorem since_put5 {w W : World} {b : Nat} (h : Since w W) (hb : w.heap.size ≤ b) (v0 v1 v2 v3 v4 : Value) :
    Since w (((((W.setCell ⟨b, 0, none⟩ v0).setCell ⟨b, 1, none⟩ v1).setCell ⟨b, 2, none⟩ v2).setCell ⟨b, 3, none⟩ v3).setCell ⟨b, 4, none⟩ v4) :=
  since_put (since_put (since_put (since_put (since_put h (p := ⟨b, 0, none⟩) hb v0) (p := ⟨b, 1, none⟩) hb v1) (p := ⟨b, 2, none⟩) hb v2) (p := ⟨b, 3, none⟩) hb v3) (p := ⟨b, 4, none⟩) hb v4
theorem heap_put5 (W : World) {b g : Nat} (hg : g ≠ b) (v0 v1 v2 v3 v4 : Value) :
    (((((W.setCell ⟨b, 0, none⟩ v0).setCell ⟨b, 1, none⟩ v1).setCell ⟨b, 2, none⟩ v2).setCell ⟨b, 3, none⟩ v3).setCell ⟨b, 4, none⟩ v4).heap[g]? = W.heap[g]? :=
  ((((Below.heap_setCell _ ⟨b, 4, none⟩ v4 g hg).trans (Below.heap_setCell _ ⟨b, 3, none⟩ v3 g hg)).trans (Below.heap_setCell _ ⟨b, 2, none⟩ v2 g hg)).trans (Below.heap_setCell _ ⟨b, 1, none⟩ v1 g hg)).trans (Below.heap_setCell _ ⟨b, 0, none⟩ v0 g hg)
theorem blk_put5 {W : World} {b g : Nat} {t : TypeId} {cs : Array Value} (h : Blk W g t cs) (hg : g ≠ b) (v0 v1 v2 v3 v4 : Value) :
    Blk (((((W.setCell ⟨b, 0, none⟩ v0).setCell ⟨b, 1, none⟩ v1).setCell ⟨b, 2, none⟩ v2).setCell ⟨b, 3, none⟩ v3).setCell ⟨b, 4, none⟩ v4) g t cs := (heap_put5 W hg v0 v1 v2 v3 v4).trans h
theorem Blk.c {W : World} {b : Nat} {t : TypeId} {cs : Array Value} (h : Blk W b t cs) (i : Nat) {v : Value} (e : cs[i]? = some v) : W.cell? ⟨b, i, none⟩ = some v := (h.cell i).trans e
set_option maxHeartbeats 2000000 in
set_option maxRecDepth 100000 in
theorem buildNo (A : Option Addr) (m cap : Nat) (key : ByteArray) (w : World)
    (H1 : Hid (∀ W, Since w W → Calls Tryd.prog 29 #[.slice A m cap] W fun e w' => e = .returned (.bool false) ∧ Since W w')) :
    Calls Tryd.prog 11 #[.slice A m cap, .string key] w fun e w' => e = .returned (.agg #[.int .i64 0, .int .i64 0, .bool false, .slice none 0 0, .slice none 0 0]) ∧ Since w w' := by
  have B0 := boxAt w (.slice A m cap) key
  have c2 := B0.l.cell 0
  have HB := Lib.hid B0
  simp only [List.getElem?_toArray, List.getElem?_cons_zero] at c2
  unfold boxW at c2 HB
  clear B0
  go_enter Tryd.func11, Tryd.ntmps11
  go_wp2_with fail
  refine (H1.out _ HB.out.s).mono ?_
  rintro e w1 ⟨rfl, s1⟩
  have B1 := HB.out.next s1
  have K := Lib.hid B1
  have d0 := B1.r.cell 0
  have d1 := B1.r.cell 1
  have d2 := B1.r.cell 2
  have d3 := B1.r.cell 3
  have d4 := B1.r.cell 4
  have f0 := B1.r.frozen 0
  have f1 := B1.r.frozen 1
  have f2 := B1.r.frozen 2
  have f3 := B1.r.frozen 3
  have f4 := B1.r.frozen 4
  simp only [List.getElem?_toArray, List.getElem?_cons_zero, List.getElem?_cons_succ] at d0 d1 d2 d3 d4
  clear H1 HB B1 s1 c2
  go_wp2
  have K2 := put5 K.out.r (.int .i64 0) (.int .i64 0) (.bool false) (.slice none 0 0) (.slice none 0 0)
  refine bodyPost_ret (v := .agg #[.int .i64 0, .int .i64 0, .bool false, .slice none 0 0, .slice none 0 0]) (by simp [results, Tryd.results11, go_sem, K2.c 0 rfl, K2.c 1 rfl, K2.c 2 rfl, K2.c 3 rfl, K2.c 4 rfl]) rfl ⟨rfl, since_put5 K.out.s (by omega) _ _ _ _ _⟩
set_option maxHeartbeats 1000000 in
set_option maxRecDepth 100000 in
theorem buildIn (A : Option Addr) (n cap N : Nat) (key : ByteArray) (LV X : List ByteArray) (b off : Nat) (w : World) (hA : A = some ⟨b, off, none⟩) (hN : N < n) (hc : w.cell? ⟨b, off + N * 2, none⟩ = some (.string key))
    (H1 : Hid (∀ W, Since w W → Calls Tryd.prog 29 #[.slice A n cap] W fun e w' => e = .returned (.bool true) ∧ Since W w'))
    (H2 : Hid (∀ W, BoxAt w (.slice A n cap) key W → Calls Tryd.prog 30 #[.int .i64 n, .func (.func 31) #[] #[.pointer (some ⟨w.heap.size, 0, none⟩), .pointer (some ⟨w.heap.size + 1, 0, none⟩)]] W fun e w' => e = .returned (.int .i64 N) ∧ Since W w'))
    (H3 : Hid (∀ W, Since w W → Calls Tryd.prog 32 #[.slice A n cap] W fun e w' => ∃ u, e = .returned u ∧ OwnStrs W.heap.size u LV W w'))
    (H4 : Hid (∀ W u, Since w W → Txs W W.heap.size u LV → Roomy u → Calls Tryd.prog 33 #[u, .int .i64 N] W fun e w' => ∃ pu, e = .returned pu ∧ OwnStrs W.heap.size pu X W w')) :
    Calls Tryd.prog 11 #[.slice A n cap, .string key] w fun e w' => ∃ pv, e = .returned (.agg #[.int .i64 n, .int .i64 N, .bool true, .slice none 0 0, pv]) ∧ (∃ g pu, pv = .slice (some ⟨g, 0, none⟩) 1 1 ∧ Blk w' g 34 #[pu] ∧ Txs w' w'.heap.size pu X ∧ Roomy pu) ∧ Since w w' := by
  subst hA
  have B0 := boxAt w (.slice (some ⟨b, off, none⟩) n cap) key
  have c2 := B0.l.cell 0
  have HB := Lib.hid B0
  simp only [List.getElem?_toArray, List.getElem?_cons_zero] at c2
  unfold boxW at c2 HB
  clear B0
  go_enter Tryd.func11, Tryd.ntmps11
  go_wp2_with fail
  refine (H1.out _ HB.out.s).mono ?_
  rintro e w1 ⟨rfl, s1⟩
  have HB1 := Lib.hid (HB.out.next s1)
  have c2' := s1.cell c2
  clear H1 HB s1 c2
  go_wp2_with fail
  refine (H2.out _ HB1.out).mono ?_
  rintro e w2 ⟨rfl, s2⟩
  have HB2 := Lib.hid (HB1.out.next s2)
  have c2 := s2.cell c2'
  have HBX := Lib.hid (Blk.new w2 28 #[.int .i64 n, .int .i64 N, .bool false, .slice none 0 0, .slice none 0 0])
  have HS := Lib.hid (show Since w2 (w2.alloc (.cells #[.int .i64 n, .int .i64 N, .bool false, .slice none 0 0, .slice none 0 0] 28)) from since_of ((Below.refl _ w2).alloc (Nat.le_refl _) _))
  have c3 := HS.out.cell c2
  clear H2 HB1 s2 c2'
  go_wp2_with fail
  refine (H3.out _ (since_of (step_below HB2.out.s.below HS.out.below))).mono ?_
  rintro e w3 ⟨u3, rfl, o3⟩
  have S3 := since_of o3.below
  have HB3 := Lib.hid ((HB2.out.next HS.out).next S3)
  have HX3 := Lib.hid (HBX.out.below S3.below HBX.out.lt)
  have HR3 := Lib.hid (own_roomy o3.1)
  have HT3 := Lib.hid (And.intro o3.txs (fun g hg => (o3.1.lt g hg).1))
  have c2 := HB3.out.l.c 0 rfl
  have ck := HB3.out.k.c 0 rfl
  have cx := HB3.out.s.cell hc
  have kx := HX3.out.c 2 rfl
  have fx := HX3.out.frozen 2
  have i0 : (0 : Int) ≤ (N : Int) := by omega
  have i1 : (N : Int) < (n : Int) := by omega
  have hlow := HB2.out.r.lt
  clear H3 HS HB2 HBX S3 o3 c3 hc
  go_wp2
  go_region
  go_wp2_with fail
  have hb6 : ∀ g, u3.ownBlock = some g → g ≠ w2.heap.size := fun g hg e => by
    have := HT3.out.2 g hg
    simp at this
    omega
  have hT4 : Txs ((w3.setCell ⟨w2.heap.size, 2, none⟩ (.bool true)).drew) ((w3.setCell ⟨w2.heap.size, 2, none⟩ (.bool true)).drew).heap.size u3 LV :=
    (HT3.out.1.moved (w' := (w3.setCell ⟨w2.heap.size, 2, none⟩ (.bool true)).drew) fun g hg => Below.heap_setCell w3 ⟨w2.heap.size, 2, none⟩ (.bool true) g (hb6 g hg)).more (by show _ ≤ (w3.setCell _ _).heap.size; simp [World.setCell])
  have S4 : Since w ((w3.setCell ⟨w2.heap.size, 2, none⟩ (.bool true)).drew) := since_of (Below.drewN (since_put HB3.out.s (p := ⟨w2.heap.size, 2, none⟩) (by simp only; omega) _).below 1)
  have R4 : Blk ((w3.setCell ⟨w2.heap.size, 2, none⟩ (.bool true)).drew) (w.heap.size + 1 + 1) 28 #[.int .i64 0, .int .i64 0, .bool false, .slice none 0 0, .slice none 0 0] := HB3.out.r.far (p := ⟨w2.heap.size, 2, none⟩) (by simp only; omega) _
  have K4 : Blk ((w3.setCell ⟨w2.heap.size, 2, none⟩ (.bool true)).drew) w2.heap.size 28 #[.int .i64 n, .int .i64 N, .bool true, .slice none 0 0, .slice none 0 0] := HX3.out.set_ 2 _
  have HS4 := Lib.hid S4
  have HR4 := Lib.hid R4
  have HK4 := Lib.hid K4
  have HT4 := Lib.hid hT4
  have hsz4 : w2.heap.size < ((w3.setCell ⟨w2.heap.size, 2, none⟩ (.bool true)).drew).heap.size := K4.lt
  clear S4 R4 K4 hT4 hb6 HT3 HX3 HB3 c2 ck cx kx fx
  refine (H4.out _ u3 HS4.out HT4.out HR3.out).mono ?_
  rintro e w5 ⟨pu, rfl, o5⟩
  obtain ⟨A5, m5, cap5, rfl, hroom⟩ := own_roomy o5.1
  have hlt5 := o5.1.lt
  have hpu : ∀ g, (Value.slice A5 m5 cap5).ownBlock = some g → w2.heap.size < g ∧ g < w5.heap.size := fun g hg => by have := hlt5 g hg; omega
  have HPU := Lib.hid hpu
  have HT5 := Lib.hid o5.txs
  have HS5 := Lib.hid (show Since w w5 from since_of (step_below HS4.out.below o5.below))
  have R5 := HR4.out.below o5.below HR4.out.lt
  have K5 := HK4.out.below o5.below HK4.out.lt
  have lt5 := K5.lt
  clear hpu hlt5 o5 H4 HS4 HR4 HK4 HT4 HR3 hsz4
  have f6 : (w5.alloc (.cells #[.slice A5 m5 cap5] 34)).frozen? ⟨w2.heap.size, 4, none⟩ = false := (K5.alloc _).frozen 4
  have c6 : (w5.alloc (.cells #[.slice A5 m5 cap5] 34)).cell? ⟨w2.heap.size, 4, none⟩ = some (.slice none 0 0) := (K5.alloc _).c 4 rfl
  have hsz : (w5.setCell ⟨w2.heap.size, 4, none⟩ (.slice (some ⟨w5.heap.size, 0, none⟩) 1 1)).heap.size = w5.heap.size := by simp [World.setCell]
  have K7 : Blk ((w5.setCell ⟨w2.heap.size, 4, none⟩ (.slice (some ⟨w5.heap.size, 0, none⟩) 1 1)).alloc (.cells #[.slice A5 m5 cap5] 34)) w2.heap.size 28 #[.int .i64 n, .int .i64 N, .bool true, .slice none 0 0, .slice (some ⟨w5.heap.size, 0, none⟩) 1 1] := (K5.set_ 4 _).alloc _
  have R7 : Blk ((w5.setCell ⟨w2.heap.size, 4, none⟩ (.slice (some ⟨w5.heap.size, 0, none⟩) 1 1)).alloc (.cells #[.slice A5 m5 cap5] 34)) (w.heap.size + 1 + 1) 28 #[.int .i64 0, .int .i64 0, .bool false, .slice none 0 0, .slice none 0 0] := (R5.far (p := ⟨w2.heap.size, 4, none⟩) (by simp only; omega) _).alloc _
  have G7 : Blk ((w5.setCell ⟨w2.heap.size, 4, none⟩ (.slice (some ⟨w5.heap.size, 0, none⟩) 1 1)).alloc (.cells #[.slice A5 m5 cap5] 34)) w5.heap.size 34 #[.slice A5 m5 cap5] := by
    have := Blk.new (w5.setCell ⟨w2.heap.size, 4, none⟩ (.slice (some ⟨w5.heap.size, 0, none⟩) 1 1)) 34 #[.slice A5 m5 cap5]
    rwa [hsz] at this
  have HT7 := Lib.hid (show Txs ((w5.setCell ⟨w2.heap.size, 4, none⟩ (.slice (some ⟨w5.heap.size, 0, none⟩) 1 1)).alloc (.cells #[.slice A5 m5 cap5] 34)) w5.heap.size (.slice A5 m5 cap5) X from HT5.out.moved fun g hg => (Below.heap_alloc _ _ g (by rw [hsz]; exact (HPU.out g hg).2)).trans (Below.heap_setCell w5 ⟨w2.heap.size, 4, none⟩ _ g (by have := HPU.out g hg; simp only; omega)))
  have HS7 := Lib.hid (show Since w ((w5.setCell ⟨w2.heap.size, 4, none⟩ (.slice (some ⟨w5.heap.size, 0, none⟩) 1 1)).alloc (.cells #[.slice A5 m5 cap5] 34)) from since_of ((since_put HS5.out (p := ⟨w2.heap.size, 4, none⟩) (by simp only; omega) _).below.alloc (by rw [hsz]; exact HS5.out.2.2.2.1) _))
  have hs7 : w5.heap.size < (((w5.setCell ⟨w2.heap.size, 4, none⟩ (.slice (some ⟨w5.heap.size, 0, none⟩) 1 1)).alloc (.cells #[.slice A5 m5 cap5] 34))).heap.size := G7.lt
  have HH := Lib.hid (And.intro R7 G7)
  have p0 := K7.c 0 rfl
  have p1 := K7.c 1 rfl
  have p2 := K7.c 2 rfl
  have p3 := K7.c 3 rfl
  have p4 := K7.c 4 rfl
  have d0 := R7.c 0 rfl
  have d1 := R7.c 1 rfl
  have d2 := R7.c 2 rfl
  have d3 := R7.c 3 rfl
  have d4 := R7.c 4 rfl
  have f0 := R7.frozen 0
  have f1 := R7.frozen 1
  have f2 := R7.frozen 2
  have f3 := R7.frozen 3
  have f4 := R7.frozen 4
  clear K5 R5 K7 R7 G7 HT5 HS5 hsz
  go_wp2
  have K2 := put5 HH.out.1 (.int .i64 n) (.int .i64 N) (.bool true) (.slice none 0 0) (.slice (some ⟨w5.heap.size, 0, none⟩) 1 1)
  refine bodyPost_ret (v := .agg #[.int .i64 n, .int .i64 N, .bool true, .slice none 0 0, .slice (some ⟨w5.heap.size, 0, none⟩) 1 1]) (by simp [results, Tryd.results11, go_sem, K2.c 0 rfl, K2.c 1 rfl, K2.c 2 rfl, K2.c 3 rfl, K2.c 4 rfl]) rfl ?_
  refine ⟨_, rfl, ⟨w5.heap.size, .slice A5 m5 cap5, rfl, ?_, ?_, ⟨_, _, _, rfl, hroom⟩⟩, since_put5 HS7.out (by omega) _ _ _ _ _⟩
  · exact blk_put5 HH.out.2 (by omega) _ _ _ _ _
  · exact (HT7.out.moved fun g hg => heap_put5 _ (by have := HPU.out g hg; omega) _ _ _ _ _).more (by simp [World.setCell])
end Go.Proofs.YtkinnlfjcmhcoaaDoor.W
/-
  'near := l[low:high:high]' and 'append(near[:0:0], near...)': a copy of a part of a list of pairs.
-/
namespace Go.Proofs.YtkinnlfjcmhcoaaDoor.W
open Go.RowKit

section
variable {w : World} {A : Option Addr} {cap : Nat} {l : List KV}
set_option maxRecDepth 100000 in
theorem prs_lhm (h : Prs w (.slice A l.length cap) l) (i j : Nat) (hi : i ≤ j) (hj : j ≤ l.length) :
    ∃ A', (∀ W, (Instr.slice 22 (.slice A l.length cap) (some (.int .i64 i)) (some (.int .i64 j)) (some (.int .i64 j))).run Tryd.prog W = .ok (.slice A' (j - i) (j - i)) W) ∧ Prs w (.slice A' (j - i) (j - i)) ((l.take j).drop i) := by
  obtain ⟨A0, cap0, e, hcap, hc⟩ := h
  cases e
  have el : ((l.take j).drop i).length = j - i := by rw [List.length_drop, List.length_take]; omega
  refine ⟨if j = i then A else A.map (·.add (i * 2)), fun W => ?_, ⟨_, _, by rw [el], by rw [el]; exact Nat.le_refl _, fun k hk => ?_⟩⟩
  · obtain ⟨i0, hi0, hz0, hz1, hz2⟩ := info_parts infoPair
    have hE : Tryd.prog.elem 22 = 32 := by kernel_rfl
    have hr := run_slice_lhm (P := Tryd.prog) (w := W) 22 A l.length cap (by kernel_rfl) .i64 .i64 .i64 i j j (by omega) (by omega) (by omega) (by omega)
    rw [hE, run_sizeOf W hi0, show Tryd.prog.cellsOf 32 = 2 by kernel_rfl] at hr
    rw [hr]
    simp [Result.andThen, sliced]
  · rw [el] at hk
    obtain ⟨b, off, rfl, h1, h2⟩ := hc (i + k) (by omega)
    refine ⟨b, off + i * 2, ?_, ?_, ?_⟩
    · rw [if_neg (by omega), Option.map_some, add_far]
    · rw [List.getElem_drop, List.getElem_take, show off + i * 2 + k * 2 = off + (i + k) * 2 by omega]; exact h1
    · rw [List.getElem_drop, List.getElem_take, show off + i * 2 + k * 2 + 1 = off + (i + k) * 2 + 1 by omega]; exact h2
set_option maxRecDepth 100000 in
theorem run_none (A : Option Addr) (n cap : Nat) : ∃ A', ∀ W, (Instr.slice 22 (.slice A n cap) none (some (.int .i64 0)) (some (.int .i64 0))).run Tryd.prog W = .ok (.slice A' 0 0) W := by
  refine ⟨A, fun W => ?_⟩
  obtain ⟨i0, hi0, hz0, hz1, hz2⟩ := info_parts infoPair
  have hE : Tryd.prog.elem 22 = 32 := by kernel_rfl
  have hr := run_slice_hm (P := Tryd.prog) (w := W) 22 A n cap (by kernel_rfl) .i64 .i64 0 0 (by omega) (by omega) (by omega)
  rw [hE, run_sizeOf W hi0, show Tryd.prog.cellsOf 32 = 2 by kernel_rfl] at hr
  rw [hr]
  simp [Result.andThen, sliced]
set_option maxRecDepth 100000 in
theorem run_none' (A : Option Addr) (n cap : Nat) : ∃ A', (∀ W, (Instr.slice 22 (.slice A n cap) none (some (.int .i64 0)) (some (.int .i64 0))).run Tryd.prog W = .ok (.slice A' 0 0) W) ∧ ((∃ a, A = some a) → ∃ a, A' = some a) := by
  refine ⟨A, fun W => ?_, fun h => h⟩
  obtain ⟨i0, hi0, hz0, hz1, hz2⟩ := info_parts infoPair
  have hE : Tryd.prog.elem 22 = 32 := by kernel_rfl
  have hr := run_slice_hm (P := Tryd.prog) (w := W) 22 A n cap (by kernel_rfl) .i64 .i64 0 0 (by omega) (by omega) (by omega)
  rw [hE, run_sizeOf W hi0, show Tryd.prog.cellsOf 32 = 2 by kernel_rfl] at hr
  rw [hr]
  simp [Result.andThen, sliced]
end
/-- appended to an empty slice without room: in a new block, if there is anything -/
theorem run_append_fresh (w : World) (ty : TypeId) (A : Option Addr) (y : Value) (m : List KV) (hP : Prs w y m) (hA : m ≠ [] → ∃ a, A = some a) (hlen : m.length ≤ 1000000000) :
    ∃ A2 c2 w', (Builtin.append_ #[22, 22] ty #[.slice A 0 0, y]).run Tryd.prog w = .ok (.slice A2 m.length c2) w' ∧ Prs w' (.slice A2 m.length c2) m ∧ Below w.heap.size w w' ∧ (m ≠ [] → ∃ g, A2 = some ⟨g, 0, none⟩ ∧ w.heap.size ≤ g ∧ g < w'.heap.size) := by
  obtain ⟨i0, hi, hz0, hz1, hz2⟩ := info_parts infoPair
  have hP0 := hP
  obtain ⟨Ay, cy, rfl, hcap, hc⟩ := hP0
  by_cases hm : m = []
  · subst hm
    refine ⟨A, 0, w, ?_, Prs.nil _ _ _, Below.refl _ _, fun h => absurd rfl h⟩
    cases A <;> cases Ay <;> simp [Builtin.append_, run_underlying Tryd.underlying22, go_sem, run_sizeOf w hi, Builtin.firstCells, loadCells, loadCellsFrom]
  · obtain ⟨a, rfl⟩ := hA hm
    obtain ⟨b, off, e, _⟩ := hc 0 (by cases m <;> simp_all)
    cases e
    have hpos : 0 < m.length := List.length_pos_iff.2 hm
    have hr := run_append_grow (P := Tryd.prog) (w := w) 22 ty 32 i0 _ Tryd.underlying22 hi hz0 a 0 0 [] (by simp) (fun j v h => by simp at h) ⟨b, off, none⟩ m.length cy (prVals m) (by rw [hz1, prVals_len]) hP.cells (by omega) (by omega) (by have := growslice_fits (need := 0 + m.length) (old := 0) (bytes := 32) (by omega) (by omega); rw [hz2]; exact this)
    simp only [Nat.zero_add, Array.empty_append] at hr
    refine ⟨_, _, _, hr, ⟨_, _, rfl, grownCap_ge _ _ _ _, fun i hi => ⟨w.heap.size, 0, rfl, ?_, ?_⟩⟩, ?_, fun _ => ⟨_, rfl, Nat.le_refl _, by simp⟩⟩
    · have hb := Blk.new w.drew 32 ((prVals m).toArray ++ Builtin.zeroCells (Value.agg #[.string .empty, .string .empty]).cells (grownCap w m.length 0 32 - m.length))
      have := hb.cell (0 + i * 2)
      rw [Nat.zero_add] at this ⊢
      refine this.trans ?_
      rw [Array.getElem?_append_left (by rw [List.size_toArray, prVals_len]; omega), List.getElem?_toArray]
      exact (prVals_at m i hi).1
    · have hb := Blk.new w.drew 32 ((prVals m).toArray ++ Builtin.zeroCells (Value.agg #[.string .empty, .string .empty]).cells (grownCap w m.length 0 32 - m.length))
      have := hb.cell (0 + i * 2 + 1)
      rw [Nat.zero_add] at this ⊢
      refine this.trans ?_
      rw [Array.getElem?_append_left (by rw [List.size_toArray, prVals_len]; omega), List.getElem?_toArray]
      exact (prVals_at m i hi).2
    · exact (Below.drewN (Below.refl _ w) 1).alloc (Nat.le_refl _) _
theorem wpList_append_fresh {ops : Array Oper} {rest : List Oper} {o : Oper} {a : Act} {Q : Exit → Act → World → Prop} (w : World) (hgd : o.guard = none) (s x : Operand)
    (ho : o.op = .call { callee := .builtin .append, args := #[s, x], argTypes := #[22, 22] }) (A : Option Addr) (y : Value) (m : List KV) (hs : a.eval s = .slice A 0 0) (hx : a.eval x = y)
    (hP : Prs w y m) (hA : m ≠ [] → ∃ a, A = some a) (hlen : m.length ≤ 1000000000)
    (h : ∀ A2 c2 w', Prs w' (.slice A2 m.length c2) m → Below w.heap.size w w' → (m ≠ [] → ∃ g, A2 = some ⟨g, 0, none⟩ ∧ w.heap.size ≤ g ∧ g < w'.heap.size) → wpList Tryd.prog ops Q rest (a.put o.dst (.slice A2 m.length c2)) w') : wpList Tryd.prog ops Q (o :: rest) a w := by
  refine wpList_plain hgd fun K hK => ?_
  obtain ⟨A2, c2, w', hr, h2, h3, h4⟩ := run_append_fresh w o.type A y m hP hA hlen
  simp [Oper.wp, Oper.upon, execOp, ho, resolve, invoke, builtin, hs, hx, hr, Result.andThen]
  exact hK _ _ (h A2 c2 w' h2 h3 h4)
end Go.Proofs.YtkinnlfjcmhcoaaDoor.W
/-
  proof.Lacks.
-/
namespace Go.Proofs.YtkinnlfjcmhcoaaDoor.W
open Go.RowKit

/-- what Lacks is asked of one neighbour: the two comparisons of strings, decided -/
theorem side_cases (key : ByteArray) (pos i : Int) (p : KV) : (i < pos ∧ kc p.1 key = -1 ∧ sideOk key pos i p = true) ∨ (i < pos ∧ kc p.1 key ≠ -1 ∧ sideOk key pos i p = false) ∨
    (¬ i < pos ∧ kc p.1 key = 1 ∧ sideOk key pos i p = true) ∨ (¬ i < pos ∧ kc p.1 key ≠ 1 ∧ sideOk key pos i p = false) := by
  unfold sideOk
  by_cases h : i < pos
  · rw [if_pos h]
    by_cases hk : kc p.1 key = -1
    · exact .inl ⟨h, hk, decide_eq_true hk⟩
    · exact .inr (.inl ⟨h, hk, decide_eq_false hk⟩)
  · rw [if_neg h]
    by_cases hk : kc p.1 key = 1
    · exact .inr (.inr (.inl ⟨h, hk, decide_eq_true (kc_lt hk)⟩))
    · exact .inr (.inr (.inr ⟨h, hk, decide_eq_false fun e => hk (kc_gt e)⟩))
theorem eq_str (a b : ByteArray) : (a.toList == b.toList) = decide (kc a b = 0) := by
  by_cases h : kc a b = 0
  · rw [decide_eq_true h, kc_zero h]
    exact beq_self_eq_true _
  · rw [decide_eq_false h]
    exact str_ne fun e => h (by rw [e, kc_self])
theorem nearOk_cons {root : List UInt8} {key : ByteArray} {pos n i : Int} {ps : List KV} {qs : List (List (List UInt8))} {k : Nat} (h1 : k < ps.length) (h2 : k < qs.length) :
    nearOk root key pos n (i + k) (ps.drop k) (qs.drop k) = (sideOk key pos (i + k) ps[k] && reach root ps[k] qs[k] (i + k) n && nearOk root key pos n (i + (k + 1 : Nat)) (ps.drop (k + 1)) (qs.drop (k + 1))) := by
  rw [List.drop_eq_getElem_cons h1, List.drop_eq_getElem_cons h2]
  show (sideOk _ _ _ _ && reach _ _ _ _ _ && nearOk _ _ _ _ _ _ _) = _
  rw [show i + ((k + 1 : Nat) : Int) = i + (k : Int) + 1 by omega]

set_option maxHeartbeats 1000000 in
set_option maxRecDepth 100000 in
theorem lacksNo1 (root key : ByteArray) (n pos : Int) (t : Bool) (nv pv : Value) (w : World) (h : t = true ∨ pos < 0 ∨ n < pos) :
    Calls Tryd.prog 17 #[.string root, .string key, .agg #[.int .i64 n, .int .i64 pos, .bool t, nv, pv]] w fun e w' => e = .returned (.bool false) ∧ Since w w' := by
  have HR := Lib.hid (show Since w (w.alloc (.cells #[.int .i64 n, .int .i64 pos, .bool t, nv, pv] 28)) from since_of (by go_grown))
  cases t with
  | true =>
    clear h
    go_enter Tryd.func17, Tryd.ntmps17
    go_wp2
    go_ret
    exact ⟨rfl, HR.out⟩
  | false =>
    by_cases h1 : pos < 0
    · clear h
      go_enter Tryd.func17, Tryd.ntmps17
      go_wp2
      go_ret
      exact ⟨rfl, HR.out⟩
    · have h2 : n < pos := by rcases h with h | h | h <;> first | cases h | omega
      clear h
      go_enter Tryd.func17, Tryd.ntmps17
      go_wp2
      go_ret
      exact ⟨rfl, HR.out⟩
set_option maxHeartbeats 1000000 in
set_option maxRecDepth 100000 in
theorem lacksNo2 (root key : ByteArray) (n pos lo hi : Int) (A1 A2 : Option Addr) (m1 c1 m2 c2 : Nat) (w : World) (h0 : 0 ≤ pos) (h1 : pos ≤ n) (hn : n ≤ 9223372036854775807) (e1 : sLo pos = lo) (e2 : sHi pos n = hi) (hd : 0 ≤ hi - lo ∧ hi - lo ≤ 2) (h : (m1 : Int) ≠ hi - lo ∨ (m2 : Int) ≠ hi - lo) :
    Calls Tryd.prog 17 #[.string root, .string key, .agg #[.int .i64 n, .int .i64 pos, .bool false, .slice A1 m1 c1, .slice A2 m2 c2]] w fun e w' => e = .returned (.bool false) ∧ Since w w' := by
  have HR := Lib.hid (show Since w (w.alloc (.cells #[.int .i64 n, .int .i64 pos, .bool false, .slice A1 m1 c1, .slice A2 m2 c2] 28)) from since_of (by go_grown))
  have K0 := fun W => sidesC pos n W (by omega) (by omega) hn
  rw [e1, e2] at K0
  have K := Lib.hid K0
  have hw : IntKind.i64.wrap (hi - lo) = hi - lo := IntWalk.i64_in _ (by omega)
  have b1 : ¬ pos < 0 := by omega
  have b2 : ¬ n < pos := by omega
  clear K0 e1 e2 hd
  by_cases h3 : (m1 : Int) = hi - lo
  · have h4 : ((m2 : Int) != hi - lo) = true := by rw [bne_iff_ne]; rcases h with h | h; exact absurd h3 h; exact h
    have h5 : ((m1 : Int) != hi - lo) = false := by rw [h3]; simp
    clear h h3
    go_enter Tryd.func17, Tryd.ntmps17
    go_wp2_with fail
    refine (K.out _).mono ?_
    rintro e w1 ⟨rfl, rfl⟩
    go_wp2
    go_ret
    exact ⟨rfl, HR.out⟩
  · have h5 : ((m1 : Int) != hi - lo) = true := by rw [bne_iff_ne]; exact h3
    clear h h3
    go_enter Tryd.func17, Tryd.ntmps17
    go_wp2_with fail
    refine (K.out _).mono ?_
    rintro e w1 ⟨rfl, rfl⟩
    go_wp2
    go_ret
    exact ⟨rfl, HR.out⟩
set_option maxHeartbeats 4000000 in
set_option maxRecDepth 100000 in
theorem lacksYes (root : List UInt8) (key : ByteArray) (n pos lo hi : Int) (A1 A2 : Option Addr) (c1 c2 : Nat) (near : List KV) (paths : List (List (List UInt8))) (w : World) (h0 : 0 ≤ pos) (h1 : pos ≤ n) (hn : n ≤ 9223372036854775807) (e1 : sLo pos = lo) (e2 : sHi pos n = hi) (hd : 0 ≤ hi - lo ∧ hi - lo ≤ 2 ∧ 0 ≤ lo ∧ hi ≤ n)
    (hl1 : (near.length : Int) = hi - lo) (hl2 : (paths.length : Int) = hi - lo)
    (hc : ∀ k (h : k < near.length), ∃ b off, A1 = some ⟨b, off, none⟩ ∧ w.cell? ⟨b, off + k * 2, none⟩ = some (.string near[k].1) ∧ w.cell? ⟨b, off + k * 2 + 1, none⟩ = some (.string near[k].2))
    (hq : ∀ (k : Nat) q, paths[k]? = some q → ∃ b off u, A2 = some ⟨b, off, none⟩ ∧ w.cell? ⟨b, off + k, none⟩ = some u ∧
      ∀ (p : KV) (i : Int) W, Since w W → Calls Tryd.prog 40 #[.string (bs root), .agg #[.string p.1, .string p.2], u, .int .i64 i, .int .i64 n] W fun e w' => e = .returned (.bool (reach root p q i n)) ∧ Since W w')
    (HT : Hid (∀ W, Since w W → Calls Tryd.prog 41 #[.int .i64 0, .string ⟨#[]⟩] W fun e w' => e = .returned (.string (bs (shaOf (topOf 0 [])))) ∧ Since W w')) :
    Calls Tryd.prog 17 #[.string (bs root), .string key, .agg #[.int .i64 n, .int .i64 pos, .bool false, .slice A1 near.length c1, .slice A2 paths.length c2]] w fun e w' => e = .returned (.bool (nearOk root key pos n lo near paths && (decide (0 < n) || decide (root = shaOf (topOf 0 []))))) ∧ Since w w' := by
  obtain ⟨r, hr⟩ : ∃ r, r = (nearOk root key pos n lo near paths && (decide (0 < n) || decide (root = shaOf (topOf 0 [])))) := ⟨_, rfl⟩
  rw [← hr]
  have HR := Lib.hid hr
  have HC := Lib.hid hc
  have HQ := Lib.hid hq
  have HV := Lib.hid (show Since w (w.alloc (.cells #[.int .i64 n, .int .i64 pos, .bool false, .slice A1 near.length c1, .slice A2 paths.length c2] 28)) from since_of (by go_grown))
  have k0 := Blk.new w 28 #[.int .i64 n, .int .i64 pos, .bool false, .slice A1 near.length c1, .slice A2 paths.length c2]
  have q0 := k0.cell 0
  have q1 := k0.cell 1
  have q3 := k0.cell 3
  have q4 := k0.cell 4
  simp only [List.getElem?_toArray, List.getElem?_cons_zero, List.getElem?_cons_succ] at q0 q1 q3 q4
  have K0 := fun W => sidesC pos n W (by omega) (by omega) hn
  rw [e1, e2] at K0
  have K := Lib.hid K0
  have hw : IntKind.i64.wrap (hi - lo) = hi - lo := IntWalk.i64_in _ (by omega)
  have b1 : ¬ pos < 0 := by omega
  have b2 : ¬ n < pos := by omega
  have h4 : ((paths.length : Int) != hi - lo) = false := by rw [hl2]; simp
  have h5 : ((near.length : Int) != hi - lo) = false := by rw [hl1]; simp
  have HL := Lib.hid (show near.length = paths.length ∧ near.length ≤ 2 ∧ (near.length : Int) = hi - lo by omega)
  have HD := Lib.hid hd
  clear K0 e1 e2 hr hc hq k0 hl1 hl2 hd
  go_enter Tryd.func17, Tryd.ntmps17
  go_wp2_with fail
  refine (K.out _).mono ?_
  rintro e w1 ⟨rfl, rfl⟩
  clear K
  go_wp2
  generalize hVV : w.alloc (.cells #[.int .i64 n, .int .i64 pos, .bool false, .slice A1 near.length c1, .slice A2 paths.length c2] 28) = V at *
  clear hVV
  go_loopw [9, 10, 11, 53] (fun _ _ _ i wr => ∃ k : Nat, k ≤ near.length ∧ i = .int .i64 k ∧ Hid (nearOk root key pos n lo near paths = nearOk root key pos n (lo + k) (near.drop k) (paths.drop k)) ∧ Since V wr) (fun _ _ _ i _ => near.length - (intOf i).toNat)
  case atStart => exact ⟨0, Nat.zero_le _, rfl, Lib.hid (by rw [Int.natCast_zero, Int.add_zero, List.drop_zero, List.drop_zero]), Since.refl V⟩
  case round =>
    obtain ⟨k, hk, rfl, HI, hS⟩ := hrel
    by_cases hlt : k < near.length
    · have hlt2 : k < paths.length := by have := HL.out; omega
      obtain ⟨g1, o1, rfl, d1, d2⟩ := HC.out k hlt
      obtain ⟨g2, o2, u, rfl, d3, H⟩ := HQ.out k _ (List.getElem?_eq_getElem hlt2)
      have HS := Lib.hid (show Since w wr from since_of (step_below HV.out.below hS.below))
      have z1 := HS.out.cell d1
      have z2 := HS.out.cell d2
      have z3 := HS.out.cell d3
      have y0 := hS.cell q0
      have y1 := hS.cell q1
      have y4 := hS.cell q4
      have HE := Lib.hid (HI.out.trans (nearOk_cons (root := root) (key := key) (pos := pos) (n := n) (i := lo) hlt hlt2))
      have HSD := Lib.hid (side_cases key pos (lo + k) near[k])
      have HRE := Lib.hid (H near[k] (lo + k))
      have i0 : (0 : Int) ≤ (k : Int) := by omega
      have i1 : (k : Int) < (near.length : Int) := by omega
      have i2 : (k : Int) < (paths.length : Int) := by omega
      have wi : IntKind.i64.wrap (lo + (k : Int)) = lo + (k : Int) := IntWalk.i64_in _ (by have := HD.out; have := HL.out; omega)
      have HI2 := Lib.hid (show (k : Int) ≤ 1 by have := HL.out; omega)
      have hless := less_str near[k].1 key
      have heq := eq_str near[k].1 key
      generalize reach root near[k] paths[k] (lo + k) n = re at *
      obtain ⟨p, hp⟩ : ∃ p, p = near[k] := ⟨_, rfl⟩
      rw [← hp] at z1 z2 HE HSD HRE hless heq
      obtain ⟨p1, p2⟩ := p
      simp only at z1 z2 HSD HRE hless heq
      generalize hci : lo + (k : Int) = ci at *
      clear d1 d2 d3 H hp HI
      have HB := Lib.hid (Blk.new wr 32 #[.string p1, .string p2])
      have HW := Lib.hid (show Since w (wr.alloc (.cells #[.string p1, .string p2] 32)) ∧ Since wr (wr.alloc (.cells #[.string p1, .string p2] 32)) from ⟨since_of (HS.out.below.alloc HS.out.2.2.2.1 _), since_of (by go_grown)⟩)
      have x0 : (wr.alloc (.cells #[.string p1, .string p2] 32)).cell? ⟨wr.heap.size, 0, none⟩ = some (.string p1) := HB.out.cell 0
      have x1 : (wr.alloc (.cells #[.string p1, .string p2] 32)).cell? ⟨wr.heap.size, 1, none⟩ = some (.string p2) := HB.out.cell 1
      have y1' := HW.out.2.cell y1
      rcases HSD.out with ⟨s1, s2, s3⟩ | ⟨s1, s2, s3⟩ | ⟨s1, s2, s3⟩ | ⟨s1, s2, s3⟩
      · rw [decide_eq_true s2] at hless
        clear heq
        rw [s3] at HE
        clear s2
        have rr := HW.out.1
        have y0' := HW.out.2.cell y0
        have y4' := HW.out.2.cell y4
        have z3' := HW.out.2.cell z3
        have SV := Lib.hid (show Since V (wr.alloc (.cells #[.string p1, .string p2] 32)) from since_of (step_below hS.below HW.out.2.below))
        clear HSD HB HW s3
        cases re with
        | false =>
          have h3 : r = false := by rw [HR.out, HE.out]; simp
          subst h3
          clear HR HE
          go_wp2
          generalize wr.alloc (.cells #[.string p1, .string p2] 32) = V2 at *
          go_region_held3 (fun W => W.cell? ⟨wr.heap.size, 0, none⟩ = some (.string p1) ∧ W.cell? ⟨wr.heap.size, 1, none⟩ = some (.string p2) ∧ W.cell? ⟨w.heap.size, 4, none⟩ = some (.slice (some ⟨g2, o2, none⟩) paths.length c2) ∧ W.cell? ⟨w.heap.size, 0, none⟩ = some (.int .i64 n) ∧ W.cell? ⟨g2, o2 + k, none⟩ = some u)
            (first | exact ⟨s5.cell x0, s5.cell x1, s5.cell y4', s5.cell y0', s5.cell z3'⟩ | go_keep)
            (first | (go_at_call 40; refine (HRE.out _ (by exact rr)).mono ?_; clear HRE; rintro en w5 ⟨rfl, s5⟩))
          all_goals go_wp2
          all_goals go_ret
          all_goals exact ⟨rfl, since_of (step_below (Below.drewN (step_below HV.out.below SV.out.below) 1) s5.below)⟩
        | true =>
          have hk9 := HI2.out
          have HE2 := Lib.hid (show nearOk root key pos n lo near paths = nearOk root key pos n (lo + ((k + 1 : Nat) : Int)) (near.drop (k + 1)) (paths.drop (k + 1)) by rw [HE.out]; simp)
          clear HE
          go_wp2
          generalize wr.alloc (.cells #[.string p1, .string p2] 32) = V2 at *
          go_region_held3 (fun W => W.cell? ⟨wr.heap.size, 0, none⟩ = some (.string p1) ∧ W.cell? ⟨wr.heap.size, 1, none⟩ = some (.string p2) ∧ W.cell? ⟨w.heap.size, 4, none⟩ = some (.slice (some ⟨g2, o2, none⟩) paths.length c2) ∧ W.cell? ⟨w.heap.size, 0, none⟩ = some (.int .i64 n) ∧ W.cell? ⟨g2, o2 + k, none⟩ = some u)
            (first | exact ⟨s5.cell x0, s5.cell x1, s5.cell y4', s5.cell y0', s5.cell z3'⟩ | go_keep)
            (first | (go_at_call 40; refine (HRE.out _ (by exact rr)).mono ?_; clear HRE; rintro en w5 ⟨rfl, s5⟩))
          all_goals go_wp2
          all_goals go_roundw
          case rel => exact ⟨k + 1, by omega, by go_num, HE2, since_of (step_below (Below.drewN SV.out.below 1) s5.below)⟩
          case measure => simp [intOf]; omega
      · rw [decide_eq_false s2] at hless
        clear heq
        rw [s3] at HE
        clear s2
        have h3 : r = false := by rw [HR.out, HE.out]; simp
        subst h3
        have SV := Lib.hid (show Since w (wr.alloc (.cells #[.string p1, .string p2] 32)) from HW.out.1)
        clear HR HE HSD HRE HB HW s3
        go_wp2
        go_ret
        exact ⟨rfl, SV.out⟩
      · rw [decide_eq_false (by rw [s2]; decide)] at hless
        rw [decide_eq_false (by rw [s2]; decide)] at heq
        rw [s3] at HE
        clear s2
        have rr := HW.out.1
        have y0' := HW.out.2.cell y0
        have y4' := HW.out.2.cell y4
        have z3' := HW.out.2.cell z3
        have SV := Lib.hid (show Since V (wr.alloc (.cells #[.string p1, .string p2] 32)) from since_of (step_below hS.below HW.out.2.below))
        clear HSD HB HW s3
        cases re with
        | false =>
          have h3 : r = false := by rw [HR.out, HE.out]; simp
          subst h3
          clear HR HE
          go_wp2
          generalize wr.alloc (.cells #[.string p1, .string p2] 32) = V2 at *
          go_region_held3 (fun W => W.cell? ⟨wr.heap.size, 0, none⟩ = some (.string p1) ∧ W.cell? ⟨wr.heap.size, 1, none⟩ = some (.string p2) ∧ W.cell? ⟨w.heap.size, 4, none⟩ = some (.slice (some ⟨g2, o2, none⟩) paths.length c2) ∧ W.cell? ⟨w.heap.size, 0, none⟩ = some (.int .i64 n) ∧ W.cell? ⟨g2, o2 + k, none⟩ = some u)
            (first | exact ⟨s5.cell x0, s5.cell x1, s5.cell y4', s5.cell y0', s5.cell z3'⟩ | go_keep)
            (first | (go_at_call 40; refine (HRE.out _ (by exact rr)).mono ?_; clear HRE; rintro en w5 ⟨rfl, s5⟩))
          all_goals go_wp2
          all_goals go_ret
          all_goals exact ⟨rfl, since_of (step_below (Below.drewN (step_below HV.out.below SV.out.below) 1) s5.below)⟩
        | true =>
          have hk9 := HI2.out
          have HE2 := Lib.hid (show nearOk root key pos n lo near paths = nearOk root key pos n (lo + ((k + 1 : Nat) : Int)) (near.drop (k + 1)) (paths.drop (k + 1)) by rw [HE.out]; simp)
          clear HE
          go_wp2
          generalize wr.alloc (.cells #[.string p1, .string p2] 32) = V2 at *
          go_region_held3 (fun W => W.cell? ⟨wr.heap.size, 0, none⟩ = some (.string p1) ∧ W.cell? ⟨wr.heap.size, 1, none⟩ = some (.string p2) ∧ W.cell? ⟨w.heap.size, 4, none⟩ = some (.slice (some ⟨g2, o2, none⟩) paths.length c2) ∧ W.cell? ⟨w.heap.size, 0, none⟩ = some (.int .i64 n) ∧ W.cell? ⟨g2, o2 + k, none⟩ = some u)
            (first | exact ⟨s5.cell x0, s5.cell x1, s5.cell y4', s5.cell y0', s5.cell z3'⟩ | go_keep)
            (first | (go_at_call 40; refine (HRE.out _ (by exact rr)).mono ?_; clear HRE; rintro en w5 ⟨rfl, s5⟩))
          all_goals go_wp2
          all_goals go_roundw
          case rel => exact ⟨k + 1, by omega, by go_num, HE2, since_of (step_below (Below.drewN SV.out.below 1) s5.below)⟩
          case measure => simp [intOf]; omega
      · rcases kc_cases p1 key with h6 | h6 | h6
        · rw [decide_eq_true h6] at hless
          clear heq
          rw [s3] at HE
          clear s2
          have h3 : r = false := by rw [HR.out, HE.out]; simp
          subst h3
          have SV := Lib.hid (show Since w (wr.alloc (.cells #[.string p1, .string p2] 32)) from HW.out.1)
          clear HR HE HSD HRE HB HW s3
          go_wp2
          go_ret
          exact ⟨rfl, SV.out⟩
        · rw [decide_eq_false (by rw [h6]; decide)] at hless
          rw [decide_eq_true h6] at heq
          rw [s3] at HE
          clear s2
          have h3 : r = false := by rw [HR.out, HE.out]; simp
          subst h3
          have SV := Lib.hid (show Since w (wr.alloc (.cells #[.string p1, .string p2] 32)) from HW.out.1)
          clear HR HE HSD HRE HB HW s3
          go_wp2
          go_ret
          exact ⟨rfl, SV.out⟩
        · exact absurd h6 s2
    · obtain rfl : k = near.length := by omega
      have hall : nearOk root key pos n lo near paths = true := by
        rw [HI.out, List.drop_eq_nil_of_le (Nat.le_refl _)]
        cases paths.drop near.length <;> rfl
      have HS := Lib.hid (show Since w wr from since_of (step_below HV.out.below hS.below))
      have y0 := hS.cell q0
      have HR2 := Lib.hid (HR.out.trans (show _ = (decide (0 < n) || decide (root = shaOf (topOf 0 []))) by rw [hall, Bool.true_and]))
      clear HI hall HR HC HQ HL HD
      by_cases h6 : 0 < n
      · have h3 : r = true := by rw [HR2.out, decide_eq_true h6]; rfl
        subst h3
        clear HR2
        go_wp2
        go_ret
        exact ⟨rfl, HS.out⟩
      · have h8 : decide (0 < n) = false := decide_eq_false h6
        have hr2 := HR2.out
        rw [h8, Bool.false_or] at hr2
        clear HR2 h8
        generalize shaOf (topOf 0 []) = y at *
        by_cases h9 : root = y
        · have h3 : r = true := by rw [hr2, decide_eq_true h9]
          subst h3 h9
          clear hr2
          go_wp2_with fail
          refine (HT.out _ HS.out).mono ?_
          rintro en w5 ⟨rfl, s5⟩
          go_wp2
          go_ret
          exact ⟨rfl, since_of (step_below HS.out.below s5.below)⟩
        · have h3 : r = false := by rw [hr2, decide_eq_false h9]
          subst h3
          have hne := str_ne (bs_ne h9)
          clear hr2 h9
          go_wp2_with fail
          refine (HT.out _ HS.out).mono ?_
          rintro en w5 ⟨rfl, s5⟩
          go_wp2
          go_ret
          exact ⟨rfl, since_of (step_below HS.out.below s5.below)⟩
theorem lacksC (root : List UInt8) (key : ByteArray) (x : Pf) (v : Value) (w : World) (hP : Prf w v x) (hr : Roots w) (hn : x.n ≤ 9223372036854775807) (hq : ∀ q ∈ x.paths, q.length ≤ 1000000 ∧ ∀ y ∈ q, y.length ≤ 1000) :
    Calls Tryd.prog 17 #[.string (bs root), .string key, v] w fun e w' => e = .returned (.bool (lacksP root key x)) ∧ Since w w' := by
  obtain ⟨n, pos, there, near, paths⟩ := x
  obtain ⟨nv, pv, rfl, ⟨A1, c1, rfl, _, hc1⟩, ⟨A2, c2, rfl, _, hc⟩⟩ := hP
  simp only at hn hq hc hc1 ⊢
  by_cases hF : Fits ⟨n, pos, there, near, paths⟩
  · have e : lacksP root key ⟨n, pos, there, near, paths⟩ = (nearOk root key pos n (sLo pos) near paths && (decide (0 < n) || decide (root = shaOf (topOf 0 [])))) := by
      unfold lacksP
      rw [decide_eq_true hF, Bool.true_and]
      rfl
    rw [e]
    obtain ⟨f1, f2, f3, f4, f5⟩ := hF
    have hb := lo_hi (x := ⟨n, pos, there, near, paths⟩) f2 f3
    simp only at f1 f2 f3 f4 f5
    subst f1
    refine lacksYes root key n pos (sLo pos) (sHi pos n) A1 A2 c1 c2 near paths w f2 f3 hn rfl rfl (by have h1 : loI ⟨n, pos, false, near, paths⟩ = sLo pos := rfl; have h2 : hiI ⟨n, pos, false, near, paths⟩ = sHi pos n := rfl; rw [h1, h2] at hb; simp only at hb; omega) f4 f5 hc1 (fun k q hk => ?_) (Lib.hid fun W hW => (topC 0 [] W (roots_since hr hW) (by simp)).mono fun e w' ⟨he, hb⟩ => ⟨he, since_of hb⟩)
    obtain ⟨b, off, u, rfl, d, hT, hR⟩ := hc k q hk
    have h4 := hq q (List.mem_of_getElem? hk)
    exact ⟨b, off, u, rfl, d, fun p i W hW => reachC root p q u i n W ((hT.below hW.below).more hW.2.2.2.1) hR (roots_since hr hW) hn h4.1 h4.2⟩
  · have e : lacksP root key ⟨n, pos, there, near, paths⟩ = false := by unfold lacksP; rw [decide_eq_false hF]; rfl
    rw [e]
    by_cases h1 : there = true ∨ pos < 0 ∨ n < pos
    · exact lacksNo1 (bs root) key n pos there _ _ w h1
    · obtain ⟨h2, h3, h4⟩ : there = false ∧ 0 ≤ pos ∧ pos ≤ n := by
        refine ⟨?_, by omega, by omega⟩
        cases there with
        | false => rfl
        | true => exact absurd (.inl rfl) h1
      subst h2
      have hb := lo_hi (x := ⟨n, pos, false, near, paths⟩) h3 h4
      have h5 : loI ⟨n, pos, false, near, paths⟩ = sLo pos := rfl
      have h6 : hiI ⟨n, pos, false, near, paths⟩ = sHi pos n := rfl
      rw [h5, h6] at hb
      simp only at hb
      refine lacksNo2 (bs root) key n pos (sLo pos) (sHi pos n) A1 A2 near.length c1 paths.length c2 w h3 h4 hn rfl rfl (by omega) ?_
      by_cases h7 : (near.length : Int) = sHi pos n - sLo pos
      · right
        intro h8
        exact hF ⟨rfl, h3, h4, h7, h8⟩
      · exact .inl h7
end Go.Proofs.YtkinnlfjcmhcoaaDoor.W
/-
  The reference of pairs: Same.
-/
namespace Go.Proofs.YtkinnlfjcmhcoaaDoor.W
open Go.RowKit

theorem take_snoc_kv (l : List KV) (i : Nat) (h : i < l.length) : l.take (i + 1) = l.take i ++ [l[i]] := by rw [List.take_succ_eq_append_getElem h]
set_option maxHeartbeats 2000000 in
set_option maxRecDepth 100000 in
theorem rSame (a b : Value) (l m : List KV) (w : World) (hP : Prs w a l) (hQ : Prs w b m) (hz : l.length ≤ 1000000000) :
    Calls Tryd.prog 27 #[a, b] w fun e w' => e = .returned (.bool (decide (l = m))) ∧ Below w.heap.size w w' := by
  obtain ⟨A, cap, rfl, hcap, hc⟩ := hP
  obtain ⟨A', cap', rfl, hcap', hc'⟩ := hQ
  have HC := Lib.hid (And.intro hc hc')
  obtain ⟨r, hr⟩ : ∃ r, r = decide (l = m) := ⟨_, rfl⟩
  rw [← hr]
  have HR := Lib.hid hr
  clear hc hc' hr
  by_cases hlen : l.length = m.length
  · have HL := Lib.hid hlen
    rw [← hlen]
    have he : ((l.length : Int) == (l.length : Int)) = true := by simp
    clear hlen
    go_enter Tryd.func27, Tryd.ntmps27
    go_wp2
    go_loopw [5] (fun i wr => ∃ k : Nat, k ≤ l.length ∧ i = .int .i64 k ∧ Hid (l.take k = m.take k) ∧ Below w.heap.size w wr) (fun i _ => l.length - (intOf i).toNat)
    case atStart => exact ⟨0, Nat.zero_le _, rfl, Lib.hid rfl, Below.refl _ _⟩
    case round =>
      obtain ⟨k, hk, rfl, HT, hbel⟩ := hrel
      by_cases hlt : k < l.length
      · have hlt' : k < m.length := by have := HL.out; omega
        obtain ⟨b1, off1, rfl, d1, d2⟩ := HC.out.1 k hlt
        obtain ⟨b2, off2, rfl, d3, d4⟩ := HC.out.2 k hlt'
        have c1 := (since_of hbel).cell d1
        have c2 := (since_of hbel).cell d2
        have c3 := (since_of hbel).cell d3
        have c4 := (since_of hbel).cell d4
        have hi0 : (0 : Int) ≤ k := by omega
        have hi1 : (k : Int) < (l.length : Int) := by omega
        have hw : IntKind.i64.wrap ((k : Int) + 1) = (k : Int) + 1 := IntWalk.i64_in _ (by omega)
        have HF := Lib.hid (And.intro (take_snoc_kv l k hlt) (take_snoc_kv m k hlt'))
        have HG := Lib.hid (show l = m → l[k] = m[k] from fun e => by subst e; rfl)
        obtain ⟨⟨x1, x2⟩, hx⟩ : ∃ x : KV, x = l[k] := ⟨_, rfl⟩
        obtain ⟨⟨y1, y2⟩, hy⟩ : ∃ y : KV, y = m[k] := ⟨_, rfl⟩
        rw [← hx] at c1 c2 HF HG
        rw [← hy] at c3 c4 HF HG
        simp only at c1 c2 c3 c4 HF HG
        clear d1 d2 d3 d4 hx hy
        by_cases h1 : x1 = y1
        · by_cases h2 : x2 = y2
          · subst h1 h2
            go_wp2
            go_region
            go_wp2
            go_roundw
            case rel => exact ⟨k + 1, by omega, by simp, Lib.hid (by rw [HF.out.1, HF.out.2, HT.out]), hbel.drew⟩
            case measure => simp [intOf]; omega
          · have HN := Lib.hid (show r = false by rw [HR.out]; exact decide_eq_false (fun e => h2 (congrArg Prod.snd (HG.out e))))
            subst h1
            have h2 := str_ne h2
            go_wp2
            go_region
            go_wp2
            go_ret
            exact ⟨by rw [HN.out]; rfl, hbel.drew⟩
        · have HN := Lib.hid (show r = false by rw [HR.out]; exact decide_eq_false (fun e => h1 (congrArg Prod.fst (HG.out e))))
          have h1 := str_ne h1
          go_wp2
          go_region
          go_wp2
          go_ret
          exact ⟨by rw [HN.out]; rfl, hbel.drew⟩
      · obtain rfl : k = l.length := by omega
        have hi1 : ¬ (l.length : Int) < (l.length : Int) := by omega
        go_wp2
        go_ret
        have h1 : l = m := by have := HT.out; rw [List.take_length, HL.out, List.take_length] at this; exact this
        have h2 : r = true := by rw [HR.out]; exact decide_eq_true h1
        exact ⟨by rw [h2]; rfl, hbel⟩
  · have he : ((l.length : Int) == (m.length : Int)) = false := by simp; omega
    have HN := Lib.hid (show r = false by rw [HR.out]; exact decide_eq_false (fun e => hlen (by rw [e])))
    clear hlen HR
    go_enter Tryd.func27, Tryd.ntmps27
    go_wp2
    go_ret
    exact ⟨by rw [HN.out]; rfl, Below.refl _ _⟩
end Go.Proofs.YtkinnlfjcmhcoaaDoor.W
/-
  The reference's Texts: are two lists of strings the same?
-/
namespace Go.Proofs.YtkinnlfjcmhcoaaDoor.W
open Go.RowKit

def Alike (a b : List ByteArray) (k : Nat) : Prop := ∀ i (h : i < a.length) (h' : i < b.length), i < k → a[i] = b[i]
theorem Alike.succ {a b : List ByteArray} {k : Nat} (h : Alike a b k) (ha : k < a.length) (hb : k < b.length) (e : a[k] = b[k]) : Alike a b (k + 1) := by
  intro i hi hi' hlt
  by_cases e' : i = k
  · subst e'; exact e
  · exact h i hi hi' (by omega)
theorem Alike.all {a b : List ByteArray} (h : Alike a b a.length) (hl : a.length = b.length) : a = b :=
  List.ext_getElem hl fun i h1 h2 => h i h1 h2 h1

theorem toList_inj {x y : ByteArray} (h : x.toList = y.toList) : x = y := by
  rw [ByteArray.toList_eq, ByteArray.toList_eq] at h
  rw [← bs_of x, ← bs_of y, h]
theorem ne_of {a b : List ByteArray} {k : Nat} (ha : k < a.length) (hb : k < b.length) (h : (!a[k].toList == b[k].toList) = true) : decide (a = b) = false := by
  simp only [decide_eq_false_iff_not]
  rintro rfl
  simp at h
theorem eq_of {x y : ByteArray} (h : (!x.toList == y.toList) = false) : x = y := toList_inj (by simpa using h)

set_option maxHeartbeats 1000000 in
set_option maxRecDepth 100000 in
theorem sameTxs (va vb : Value) (a b : List ByteArray) (w : World) (B : Nat) (ha : Txs w B va a) (hb : Txs w B vb b) (hB : B ≤ w.heap.size) (hla : a.length ≤ 9223372036854775807) (_hlb : b.length ≤ 9223372036854775807) :
    Calls Tryd.prog 28 #[va, vb] w fun e w' => e = .returned (.bool (decide (a = b))) ∧ Below w.heap.size w w' := by
  obtain ⟨A, ca, rfl, hca⟩ := ha
  obtain ⟨A', cb, rfl, hcb⟩ := hb
  have HA := Lib.hid hca
  have HB := Lib.hid hcb
  clear hca hcb
  by_cases hl : a.length = b.length
  · have HL := Lib.hid hl
    have hb1 : ((a.length : Int) != (b.length : Int)) = false := by simp [hl]
    clear hl
    go_enter Tryd.func28, Tryd.ntmps28
    go_wp2
    go_loopw [5] (fun i wr => ∃ k : Nat, k ≤ a.length ∧ i = .int .i64 k ∧ Alike a b k ∧ Below w.heap.size w wr) (fun i _ => a.length - (intOf i).toNat)
    case atStart => exact ⟨0, Nat.zero_le _, rfl, fun _ _ _ h => absurd h (by omega), Below.refl _ _⟩
    case round =>
      obtain ⟨k, hk, rfl, hal, hbel⟩ := hrel
      by_cases hlt : k < a.length
      · have hltb : k < b.length := by have := HL.out; omega
        obtain ⟨g, off, rfl, hgB, hc⟩ := HA.out k hlt
        obtain ⟨g', off', rfl, hgB', hc'⟩ := HB.out k hltb
        have c1 : wr.cell? ⟨g, off + k, none⟩ = some (.string a[k]) := (hbel.cell (p := ⟨g, off + k, none⟩) (by simp only; omega)).trans hc
        have c2 : wr.cell? ⟨g', off' + k, none⟩ = some (.string b[k]) := (hbel.cell (p := ⟨g', off' + k, none⟩) (by simp only; omega)).trans hc'
        have hi1 : (k : Int) < (a.length : Int) := by omega
        have hi2 : (k : Int) < (b.length : Int) := by omega
        clear hc hc'
        go_wp2
        go_quiet (fail)
        go_wp2
        · have HD := Lib.hid (ne_of hlt hltb (by assumption))
          go_ret
          exact ⟨by rw [HD.out]; rfl, Below.drewN hbel _⟩
        · have hq := Lib.hid (eq_of (x := a[k]) (y := b[k]) (by assumption))
          go_roundw
          case rel => exact ⟨k + 1, by omega, by go_num, hal.succ hlt hltb hq.out, Below.drewN hbel _⟩
          case measure => simp [intOf]; omega
      · obtain rfl : k = a.length := by omega
        have HD := Lib.hid (show decide (a = b) = true from decide_eq_true (hal.all HL.out))
        go_wp2
        go_ret
        exact ⟨by rw [HD.out]; rfl, hbel⟩
  · have hb1 : ((a.length : Int) != (b.length : Int)) = true := by rw [bne_iff_ne]; omega
    have HD := Lib.hid (show decide (a = b) = false by simp; intro e; exact hl (by rw [e]))
    go_enter Tryd.func28, Tryd.ntmps28
    go_wp2
    go_ret
    exact ⟨by rw [HD.out]; rfl, Below.refl _ _⟩
end Go.Proofs.YtkinnlfjcmhcoaaDoor.W
/-
  The reference's Same of proofs: two that read alike.
-/
namespace Go.Proofs.YtkinnlfjcmhcoaaDoor.W
open Go.RowKit

set_option maxHeartbeats 4000000 in
set_option maxRecDepth 100000 in
theorem samePf (a b : Value) (x : Pf) (w : World) (hP : Prf w a x) (hQ : Prf w b x) (hz : x.near.length ≤ 1000000000) (hz2 : x.paths.length ≤ 1000000000) (hz3 : ∀ q ∈ x.paths, q.length ≤ 1000000000) :
    Calls Tryd.prog 10 #[a, b] w fun e w' => e = .returned (.bool true) ∧ Since w w' := by
  obtain ⟨n, pos, t, near, paths⟩ := x
  obtain ⟨nv, pv, rfl, hN, ⟨A2, c2, rfl, _, hc⟩⟩ := hP
  obtain ⟨nv', pv', rfl, hN', ⟨A2', c2', rfl, _, hc'⟩⟩ := hQ
  simp only at hz hz2 hz3 hc hc' hN hN' ⊢
  have hN0 := hN
  have hN0' := hN'
  obtain ⟨A1, c1, rfl, _, _⟩ := hN0
  obtain ⟨A1', c1', rfl, _, _⟩ := hN0'
  have k1 := (Blk.new w 28 #[.int .i64 n, .int .i64 pos, .bool t, .slice A1 near.length c1, .slice A2 paths.length c2]).alloc (.cells #[.int .i64 n, .int .i64 pos, .bool t, .slice A1' near.length c1', .slice A2' paths.length c2'] 28)
  have k2 := Blk.new (w.alloc (.cells #[.int .i64 n, .int .i64 pos, .bool t, .slice A1 near.length c1, .slice A2 paths.length c2] 28)) 28 #[.int .i64 n, .int .i64 pos, .bool t, .slice A1' near.length c1', .slice A2' paths.length c2']
  rw [show (w.alloc (.cells #[.int .i64 n, .int .i64 pos, .bool t, .slice A1 near.length c1, .slice A2 paths.length c2] 28)).heap.size = w.heap.size + 1 by simp] at k2
  have R : Since w ((w.alloc (.cells #[.int .i64 n, .int .i64 pos, .bool t, .slice A1 near.length c1, .slice A2 paths.length c2] 28)).alloc (.cells #[.int .i64 n, .int .i64 pos, .bool t, .slice A1' near.length c1', .slice A2' paths.length c2'] 28)) := since_of (((Below.refl _ w).alloc (Nat.le_refl _) _).alloc (by simp) _)
  have HR := Lib.hid R
  have p3 := (k1.cell 3).trans (by rfl : _ = some (Value.slice A1 near.length c1))
  have p4 := (k1.cell 4).trans (by rfl : _ = some (Value.slice A2 paths.length c2))
  have r3 := (k2.cell 3).trans (by rfl : _ = some (Value.slice A1' near.length c1'))
  have r4 := (k2.cell 4).trans (by rfl : _ = some (Value.slice A2' paths.length c2'))
  have KS := Lib.hid (fun W (h : Since w W) => (rSame (.slice A1 near.length c1) (.slice A1' near.length c1') near near W (hN.below h.below) (hN'.below h.below) hz).mono fun e w' (hx : e = .returned (.bool (decide (near = near))) ∧ Below W.heap.size W w') => (show e = .returned (.bool true) ∧ Since W w' from ⟨by rw [hx.1, decide_eq_true rfl], since_of hx.2⟩))
  have HC := Lib.hid (And.intro hc hc')
  have HZ := Lib.hid (And.intro hz2 hz3)
  have e1 : (n != n) = false := by simp
  have e2 : (pos != pos) = false := by simp
  have e3 : (t != t) = false := by simp
  have e4 : ((paths.length : Int) != (paths.length : Int)) = false := by simp
  clear R k1 k2 hc hc' hN hN' hz hz2 hz3
  go_enter Tryd.func10, Tryd.ntmps10
  go_wp2_with fail
  generalize (w.alloc (.cells #[.int .i64 n, .int .i64 pos, .bool t, .slice A1 near.length c1, .slice A2 paths.length c2] 28)).alloc (.cells #[.int .i64 n, .int .i64 pos, .bool t, .slice A1' near.length c1', .slice A2' paths.length c2'] 28) = V at *
  refine (KS.out V HR.out).mono ?_
  rintro e v1 ⟨rfl, s1⟩
  have HS1 := Lib.hid (show Since w v1 from since_of (step_below HR.out.below s1.below))
  have p4' := s1.cell p4
  have r4' := s1.cell r4
  clear KS s1 p3 p4 r3 r4 HR
  go_wp2
  go_loopw [5] (fun i wr => ∃ k : Nat, k ≤ paths.length ∧ i = .int .i64 k ∧ Since v1 wr) (fun i _ => paths.length - (intOf i).toNat)
  case atStart => exact ⟨0, Nat.zero_le _, rfl, Since.refl v1⟩
  case round =>
    obtain ⟨k, hk, rfl, hS⟩ := hrel
    have q4 := hS.cell p4'
    have q4' := hS.cell r4'
    have hzz := HZ.out.1
    by_cases hlt : k < paths.length
    · have hel := List.getElem?_eq_getElem hlt
      obtain ⟨g1, o1, u1, rfl, d1, T1, _⟩ := HC.out.1 k _ hel
      obtain ⟨g2, o2, u2, rfl, d2, T2, _⟩ := HC.out.2 k _ hel
      have HSW := Lib.hid (show Since w wr from since_of (step_below HS1.out.below hS.below))
      have z1 := HSW.out.cell d1
      have z2 := HSW.out.cell d2
      have hql := HZ.out.2 _ (List.getElem_mem hlt)
      have KT := Lib.hid (fun W (h : Since w W) => (sameTxs u1 u2 (bss paths[k]) (bss paths[k]) W W.heap.size ((T1.below h.below).more h.2.2.2.1) ((T2.below h.below).more h.2.2.2.1) (Nat.le_refl _) (by rw [bss_len]; omega) (by rw [bss_len]; omega)).mono fun e w' (hx : e = .returned (.bool (decide (bss paths[k] = bss paths[k]))) ∧ Below W.heap.size W w') => (show e = .returned (.bool true) ∧ Since W w' from ⟨by rw [hx.1, decide_eq_true rfl], since_of hx.2⟩))
      have i0 : (0 : Int) ≤ (k : Int) := by omega
      have i1 : (k : Int) < (paths.length : Int) := by omega
      have rr := HSW.out
      clear hel d1 d2 T1 T2 hql
      go_wp2
      go_region_held3 (fun W => W.cell? ⟨w.heap.size, 4, none⟩ = some (.slice (some ⟨g1, o1, none⟩) paths.length c2) ∧ W.cell? ⟨w.heap.size + 1, 4, none⟩ = some (.slice (some ⟨g2, o2, none⟩) paths.length c2') ∧ W.cell? ⟨g1, o1 + k, none⟩ = some u1 ∧ W.cell? ⟨g2, o2 + k, none⟩ = some u2)
        (first | exact ⟨s5.cell q4, s5.cell q4', s5.cell z1, s5.cell z2⟩ | go_keep)
        (first | (go_at_call 28; refine (KT.out _ (by exact rr)).mono ?_; clear KT; rintro en w5 ⟨rfl, s5⟩))
      all_goals go_wp2
      all_goals go_roundw
      case rel => exact ⟨k + 1, by omega, by go_num, since_of (step_below (Below.drewN hS.below 1) s5.below)⟩
      case measure => simp [intOf]; omega
    · obtain rfl : k = paths.length := by omega
      go_wp2
      go_ret
      exact ⟨rfl, since_of (step_below HS1.out.below hS.below)⟩
end Go.Proofs.YtkinnlfjcmhcoaaDoor.W
/-
  How long a plain proof's bytes are.
-/
namespace Go.Proofs.YtkinnlfjcmhcoaaDoor.W

theorem numLe (n : Nat) (h : n ≤ 9007199254740992) : (num n).length ≤ 8 := by
  have := be_len_le n 7 (by omega)
  rw [num_len]
  omega
theorem catLe (l : List ByteArray) (hl : ∀ s ∈ l, s.size ≤ 65536) : (cat l).length ≤ 65600 * l.length := by
  induction l with
  | nil => simp [cat]
  | cons x l ih =>
    rw [cat_cons, List.length_append, List.length_cons]
    have h1 := text_len x (hl x (by simp))
    have h2 := ih (fun s hs => hl s (by simp [hs]))
    omega
theorem nearLe (l : List KV) (hl : ∀ p ∈ l, p.1.size ≤ 65536 ∧ p.2.size ≤ 65536) : (nearBytes l).length ≤ 131200 * l.length := by
  induction l with
  | nil => simp [nearBytes]
  | cons x l ih =>
    have e : nearBytes (x :: l) = (text x.1.data.toList ++ text x.2.data.toList) ++ nearBytes l := by simp [nearBytes]
    rw [e, List.length_append, List.length_append, List.length_cons]
    have h1 := text_len x.1 (hl x (by simp)).1
    have h2 := text_len x.2 (hl x (by simp)).2
    have h3 := ih (fun s hs => hl s (by simp [hs]))
    omega
theorem pathLe (l : List (List (List UInt8))) (hl : ∀ q ∈ l, q.length ≤ 256 ∧ ∀ y ∈ q, y.length ≤ 65536) : (pathBytes l).length ≤ 16800000 * l.length := by
  induction l with
  | nil => simp [pathBytes]
  | cons q l ih =>
    have e : pathBytes (q :: l) = (num q.length ++ cat (bss q)) ++ pathBytes l := by simp [pathBytes]
    rw [e, List.length_append, List.length_append, List.length_cons]
    obtain ⟨hq1, hq2⟩ := hl q (by simp)
    have h1 := numLe q.length (by omega)
    have h2 := catLe (bss q) (fun s hs => by
      unfold bss at hs
      rw [List.mem_map] at hs
      obtain ⟨y, hy, rfl⟩ := hs
      rw [bs_size]
      exact hq2 y hy)
    rw [bss_len] at h2
    have h3 := ih (fun s hs => hl s (by simp [hs]))
    omega
theorem plain_len {x : Pf} (h : Plain x) : (pfBytes x).length ≤ 40000000 := by
  have h1 := nearLe x.near h.sizes
  have h2 := pathLe x.paths h.path
  have h3 := h.near
  have h4 := h.paths
  have a1 := numLe x.n.toNat (by have := h.n1; omega)
  have a2 := numLe x.pos.toNat (by have := h.p1; omega)
  have a3 := numLe (if x.there then 1 else 0) (by split <;> omega)
  have a4 := numLe x.near.length (by omega)
  have a5 := numLe x.paths.length (by omega)
  unfold pfBytes
  simp only [List.length_append]
  omega
end Go.Proofs.YtkinnlfjcmhcoaaDoor.W
/-
  The methods of wire.Reader but for List, at a reader and at nil.
-/
namespace Go.Proofs.YtkinnlfjcmhcoaaDoor.W
open Go.RowKit

theorem new (s : ByteArray) (w : World) :
    Calls Tryd.prog 50 #[.string s] w fun e w' => e = .returned (.pointer (some ⟨w.heap.size, 0, none⟩)) ∧ w' = w.alloc (.cells #[.string s, .int .i64 0] 129) := by
  go_enter Tryd.func50, Tryd.ntmps50
  go_wp2
  go_ret
  exact ⟨rfl, rfl⟩

theorem errNil (w : World) : Calls Tryd.prog 52 #[.pointer none] w fun e w' => e = .returned (.int .i64 2) ∧ w = w' := by
  go_enter Tryd.func52, Tryd.ntmps52
  go_wp2
  go_ret
  exact ⟨rfl, rfl⟩
theorem errAt (b : Nat) (s : ByteArray) (e : Int) (w : World) (h : RdAt w b s e) :
    Calls Tryd.prog 52 #[.pointer (some ⟨b, 0, none⟩)] w fun e' w' => e' = .returned (.int .i64 e) ∧ w = w' := by
  have h1 := Blk.cell h 1
  simp only [List.getElem?_toArray, List.getElem?_cons_succ, List.getElem?_cons_zero] at h1
  go_enter Tryd.func52, Tryd.ntmps52
  go_wp2
  go_ret
  exact ⟨rfl, rfl⟩
theorem doneNil (w : World) : Calls Tryd.prog 55 #[.pointer none] w fun e w' => e = .returned (.int .i64 2) ∧ w = w' := by
  go_enter Tryd.func55, Tryd.ntmps55
  go_wp2_with (go_at_call 52; refine (errNil _).mono ?_; rintro e w' ⟨rfl, rfl⟩)
  go_ret
  exact ⟨rfl, rfl⟩
theorem doneAt (b : Nat) (s : ByteArray) (e : Int) (w : World) (h : RdAt w b s e) :
    Calls Tryd.prog 55 #[.pointer (some ⟨b, 0, none⟩)] w fun e' w' => e' = .returned (.int .i64 (stDone s e)) ∧ w = w' := by
  have h0 := Blk.cell h 0
  simp only [List.getElem?_toArray, List.getElem?_cons_zero] at h0
  have HE := Lib.hid (errAt b s e w h)
  by_cases he : e = 0
  · subst he
    by_cases hs : s.size = 0
    · have hE := empty_of s hs
      have HD := Lib.hid (show stDone s 0 = 0 by simp [stDone, hs])
      go_enter Tryd.func55, Tryd.ntmps55
      go_wp2_with (go_at_call 52; refine HE.out.mono ?_; rintro e w' ⟨rfl, rfl⟩)
      go_ret
      exact ⟨by rw [HD.out]; rfl, rfl⟩
    · have hE := nonempty_of s (by omega)
      have HD := Lib.hid (show stDone s 0 = 6 by simp [stDone, hs])
      go_enter Tryd.func55, Tryd.ntmps55
      go_wp2_with (go_at_call 52; refine HE.out.mono ?_; rintro e w' ⟨rfl, rfl⟩)
      go_ret
      exact ⟨by rw [HD.out]; rfl, rfl⟩
  · have hb : (e != 0) = true := by rw [bne_iff_ne]; exact he
    have HD := Lib.hid (show stDone s e = e by simp [stDone, he])
    go_enter Tryd.func55, Tryd.ntmps55
    go_wp2_with (go_at_call 52; refine HE.out.mono ?_; rintro e w' ⟨rfl, rfl⟩)
    go_ret
    exact ⟨by rw [HD.out]; rfl, rfl⟩
theorem numNil (w : World) : Calls Tryd.prog 51 #[.pointer none] w fun e w' => e = .returned (.int .i64 0) ∧ w = w' := by
  go_enter Tryd.func51, Tryd.ntmps51
  go_wp2_with (go_at_call 52; refine (errNil _).mono ?_; rintro e w' ⟨rfl, rfl⟩)
  go_ret
  exact ⟨rfl, rfl⟩

/-- a call on the reader at b: its answer, the reader behind it, nothing else turned -/
def RdPost (w : World) (b : Nat) (v : Value) (s : ByteArray) (e : Int) (en : Ending) (w' : World) : Prop := en = .returned v ∧ RdAt w' b s e ∧ w.grownBy w' (some b)

set_option maxHeartbeats 1000000 in
set_option maxRecDepth 100000 in
theorem numAt (b : Nat) (s : ByteArray) (e : Int) (w : World) (h : RdAt w b s e) (hm : s.size ≤ 9223372036854775807) :
    Calls Tryd.prog 51 #[.pointer (some ⟨b, 0, none⟩)] w (RdPost w b (.int .i64 ((stNum s e).2 : Nat)) (stNum s e).1.1 (stNum s e).1.2) := by
  have h0 := Blk.cell h 0
  have h1 := Blk.cell h 1
  simp only [List.getElem?_toArray, List.getElem?_cons_zero, List.getElem?_cons_succ] at h0 h1
  have HE := Lib.hid (errAt b s e w h)
  by_cases he : e = 0
  · subst he
    have hdn := decodeNum s w hm
    have hf := dec_facts s.data.toList
    rw [size_list] at hf
    obtain ⟨n, sz, er, hd⟩ : ∃ n sz er, dec s.data.toList = (n, sz, er) := ⟨_, _, _, rfl⟩
    have HS := Lib.hid (show stNum s 0 = if er ≠ 0 then ((s, er), 0) else ((s.extract sz s.size, 0), n) by simp [stNum, hd])
    rw [hd] at hdn hf
    simp only at hf
    have HDN := Lib.hid hdn
    clear hdn hd
    by_cases her : er = 0
    · subst her
      have HS2 := Lib.hid (HS.out.trans (if_neg (by simp)))
      clear HS
      go_enter Tryd.func51, Tryd.ntmps51
      go_wp2_with (go_at_call 52; refine HE.out.mono ?_; rintro e w' ⟨rfl, rfl⟩)
      refine HDN.out.mono ?_
      rintro e w1 ⟨rfl, hb⟩
      unfold retDec
      have hR := Blk.below h hb (Blk.lt h)
      have k0 := (Blk.cell hR 0)
      have k0f := (Blk.frozen hR 0)
      simp only [List.getElem?_toArray, List.getElem?_cons_zero] at k0
      go_wp2
      go_ret
      rw [HS2.out]
      exact ⟨rfl, Blk.set_ hR 0 _, only_set (only_of_below (only_refl _ _) hb (Nat.le_refl _)) 0 _⟩
    · have hne : (er != 0) = true := by rw [bne_iff_ne]; exact her
      have HS2 := Lib.hid (HS.out.trans (if_pos her))
      clear HS
      go_enter Tryd.func51, Tryd.ntmps51
      go_wp2_with (go_at_call 52; refine HE.out.mono ?_; rintro e w' ⟨rfl, rfl⟩)
      refine HDN.out.mono ?_
      rintro e w1 ⟨rfl, hb⟩
      unfold retDec
      have hR := Blk.below h hb (Blk.lt h)
      have k1 := (Blk.cell hR 1)
      have k1f := (Blk.frozen hR 1)
      simp only [List.getElem?_toArray, List.getElem?_cons_zero, List.getElem?_cons_succ] at k1
      go_wp2
      go_ret
      rw [HS2.out]
      exact ⟨rfl, Blk.set_ hR 1 _, only_set (only_of_below (only_refl _ _) hb (Nat.le_refl _)) 1 _⟩
  · have hb : (e != 0) = true := by rw [bne_iff_ne]; exact he
    have HS := Lib.hid (stNum_err s he)
    go_enter Tryd.func51, Tryd.ntmps51
    go_wp2_with (go_at_call 52; refine HE.out.mono ?_; rintro e w' ⟨rfl, rfl⟩)
    go_ret
    rw [HS.out]
    exact ⟨rfl, h, only_refl _ _⟩

theorem lenNil (w : World) (most : Nat) : Calls Tryd.prog 83 #[.pointer none, .int .i64 most] w fun e w' => e = .returned (.int .i64 0) ∧ w = w' := by
  go_enter Tryd.func83, Tryd.ntmps83
  go_wp2_with (go_at_call 51; refine (numNil _).mono ?_; rintro e w' ⟨rfl, rfl⟩)
  go_ret
  exact ⟨rfl, rfl⟩
set_option maxHeartbeats 1000000 in
set_option maxRecDepth 100000 in
theorem lenAt (b : Nat) (s : ByteArray) (e : Int) (most : Nat) (w : World) (h : RdAt w b s e) (hm : s.size ≤ 9223372036854775807) :
    Calls Tryd.prog 83 #[.pointer (some ⟨b, 0, none⟩), .int .i64 most] w (RdPost w b (.int .i64 ((stLen s e most).2 : Nat)) (stLen s e most).1.1 (stLen s e most).1.2) := by
  have HN := Lib.hid (numAt b s e w h hm)
  have HS := Lib.hid (show stLen s e most = if most < (stNum s e).2 then (((stNum s e).1.1, 4), 0) else stNum s e from rfl)
  obtain ⟨⟨⟨s1, e1⟩, n⟩, hd⟩ : ∃ r, stNum s e = r := ⟨_, rfl⟩
  rw [hd] at HN HS
  clear hd
  by_cases hn : most < n
  · have HS2 := Lib.hid (HS.out.trans (if_pos hn))
    clear HS
    go_enter Tryd.func83, Tryd.ntmps83
    go_wp2_with fail
    refine HN.out.mono ?_
    rintro e w1 ⟨rfl, hR, hg⟩
    have k1 := (Blk.cell hR 1)
    have k1f := (Blk.frozen hR 1)
    simp only [List.getElem?_toArray, List.getElem?_cons_zero, List.getElem?_cons_succ] at k1
    go_wp2
    go_ret
    rw [HS2.out]
    exact ⟨rfl, Blk.set_ hR 1 _, only_set hg 1 _⟩
  · have HS2 := Lib.hid (HS.out.trans (if_neg hn))
    clear HS
    go_enter Tryd.func83, Tryd.ntmps83
    go_wp2_with fail
    refine HN.out.mono ?_
    rintro e w1 ⟨rfl, hR, hg⟩
    go_wp2
    go_ret
    rw [HS2.out]
    exact ⟨rfl, hR, hg⟩

theorem textNil (w : World) : Calls Tryd.prog 53 #[.pointer none] w fun e w' => e = .returned (.string .empty) ∧ w = w' := by
  go_enter Tryd.func53, Tryd.ntmps53
  go_wp2_with fail
  refine (lenNil w 65536).mono ?_
  rintro e w' ⟨rfl, rfl⟩
  go_wp2_with (go_at_call 52; refine (errNil _).mono ?_; rintro e w' ⟨rfl, rfl⟩)
  go_ret
  exact ⟨rfl, rfl⟩
set_option maxHeartbeats 1000000 in
set_option maxRecDepth 100000 in
theorem textAt (b : Nat) (s : ByteArray) (e : Int) (w : World) (h : RdAt w b s e) (hm : s.size ≤ 9223372036854775807) :
    Calls Tryd.prog 53 #[.pointer (some ⟨b, 0, none⟩)] w (RdPost w b (.string (stText s e).2) (stText s e).1.1 (stText s e).1.2) := by
  have HN := Lib.hid (lenAt b s e 65536 w h hm)
  have HS := Lib.hid (show stText s e = (if (stLen s e 65536).1.2 ≠ 0 then ((stLen s e 65536).1, .empty) else if (stLen s e 65536).1.1.size < (stLen s e 65536).2 then (((stLen s e 65536).1.1, 5), .empty) else (((stLen s e 65536).1.1.extract (stLen s e 65536).2 (stLen s e 65536).1.1.size, 0), (stLen s e 65536).1.1.extract 0 (stLen s e 65536).2)) from rfl)
  have hf := stLen_facts s e 65536
  obtain ⟨⟨⟨s1, e1⟩, n⟩, hd⟩ : ∃ r, stLen s e 65536 = r := ⟨_, rfl⟩
  rw [hd] at HN HS hf
  clear hd
  simp only at hf
  by_cases he : e1 = 0
  · subst he
    have HS1 := Lib.hid (HS.out.trans (if_neg (by simp)))
    by_cases hn : s1.size < n
    · have HS2 := Lib.hid (HS1.out.trans (if_pos hn))
      clear HS HS1
      go_enter Tryd.func53, Tryd.ntmps53
      go_wp2_with fail
      refine HN.out.mono ?_
      rintro e w1 ⟨rfl, hR, hg⟩
      have k0 := (Blk.cell hR 0)
      have k1 := (Blk.cell hR 1)
      have k1f := (Blk.frozen hR 1)
      simp only [List.getElem?_toArray, List.getElem?_cons_zero, List.getElem?_cons_succ] at k0 k1
      go_wp2_with fail
      refine (errAt b s1 0 w1 hR).mono ?_
      rintro e w2 ⟨rfl, rfl⟩
      go_wp2
      go_ret
      rw [HS2.out]
      exact ⟨rfl, Blk.set_ hR 1 _, only_set hg 1 _⟩
    · have HS2 := Lib.hid (HS1.out.trans (if_neg hn))
      clear HS HS1
      go_enter Tryd.func53, Tryd.ntmps53
      go_wp2_with fail
      refine HN.out.mono ?_
      rintro e w1 ⟨rfl, hR, hg⟩
      have k0 := (Blk.cell hR 0)
      have k0f := (Blk.frozen hR 0)
      simp only [List.getElem?_toArray, List.getElem?_cons_zero] at k0
      go_wp2_with fail
      refine (errAt b s1 0 w1 hR).mono ?_
      rintro e w2 ⟨rfl, rfl⟩
      go_wp2
      go_ret
      rw [HS2.out]
      exact ⟨rfl, Blk.set_ hR 0 _, only_set hg 0 _⟩
  · have hne : (e1 != 0) = true := by rw [bne_iff_ne]; exact he
    have HS2 := Lib.hid (HS.out.trans (if_pos he))
    clear HS
    go_enter Tryd.func53, Tryd.ntmps53
    go_wp2_with fail
    refine HN.out.mono ?_
    rintro e w1 ⟨rfl, hR, hg⟩
    go_wp2_with fail
    refine (errAt b s1 e1 w1 hR).mono ?_
    rintro e w2 ⟨rfl, rfl⟩
    go_wp2
    go_ret
    rw [HS2.out]
    exact ⟨rfl, hR, hg⟩
end Go.Proofs.YtkinnlfjcmhcoaaDoor.W
/-
  Reader.List, at a reader and at nil.
-/
namespace Go.Proofs.YtkinnlfjcmhcoaaDoor.W
open Go.RowKit

theorem only_grown {a b c : World} {r row : Option Nat} (h : a.grownBy b r) (k : b.grownBy c row) (hr : ∀ i, row = some i → a.heap.size ≤ i) : a.grownBy c r :=
  ⟨k.os.trans h.os, k.tape.trans h.tape, k.output.trans h.output, Nat.le_trans h.size k.size, fun i hi hne => (k.block i (Nat.lt_of_lt_of_le hi h.size) (fun e => by have := hr i e.symm; omega)).trans (h.block i hi hne)⟩
theorem only_alloc {a b : World} {r : Option Nat} (h : a.grownBy b r) (o : Obj) : a.grownBy (b.alloc o) r := only_trans h (World.grownBy_alloc b o r)
/-- what the loop keeps -/
def LRel (w : World) (b n : Nat) (s1 : ByteArray) (j : Nat) (v : Value) (wr : World) : Prop :=
  ∃ sj acc, listFrom n s1 [] = listFrom (n - j) sj acc ∧ acc.length = j ∧ sj.size ≤ 9223372036854775807 ∧ RdAt wr b sj 0 ∧ wr.ownsRow w.heap.size 9 1 v j (strVals acc) ∧ w.grownBy wr (some b)

def ListPost (w : World) (b : Nat) (r : (ByteArray × Int) × List ByteArray) (en : Ending) (w' : World) : Prop :=
  ∃ v, en = .returned v ∧ Txs w' w'.heap.size v r.2 ∧ RdAt w' b r.1.1 r.1.2 ∧ w.grownBy w' (some b)
/-- .. and the list lies in a block of the call's own -/
def ListOwn (w : World) (b : Nat) (r : (ByteArray × Int) × List ByteArray) (en : Ending) (w' : World) : Prop :=
  ∃ v, en = .returned v ∧ Txs w' w'.heap.size v r.2 ∧ (∀ g, v.ownBlock = some g → w.heap.size ≤ g ∧ g < w'.heap.size) ∧ Roomy v ∧ RdAt w' b r.1.1 r.1.2 ∧ w.grownBy w' (some b)
theorem ListOwn.post {w w' : World} {b : Nat} {r : (ByteArray × Int) × List ByteArray} {en : Ending} (h : ListOwn w b r en w') : ListPost w b r en w' := by
  obtain ⟨v, h1, h2, _, _, h3⟩ := h
  exact ⟨v, h1, h2, h3⟩

theorem listNil (w : World) : Calls Tryd.prog 54 #[.pointer none] w fun e w' => e = .returned (.slice none 0 0) ∧ w = w' := by
  go_enter Tryd.func54, Tryd.ntmps54
  go_wp2_with fail
  refine (lenNil w 256).mono ?_
  rintro e w' ⟨rfl, rfl⟩
  go_wp2
  go_rounds 1
  go_ret
  exact ⟨rfl, rfl⟩

set_option maxHeartbeats 2000000 in
set_option maxRecDepth 100000 in
theorem listOwnAt (b : Nat) (s : ByteArray) (e : Int) (w : World) (h : RdAt w b s e) (hm : s.size ≤ 9223372036854775807) :
    Calls Tryd.prog 54 #[.pointer (some ⟨b, 0, none⟩)] w (ListOwn w b (stList s e)) := by
  obtain ⟨i0, hi, hz0, hz1, hz2⟩ := info_parts infoStr
  have HN := Lib.hid (lenAt b s e 256 w h hm)
  have hb := Blk.lt h
  have HS := Lib.hid (show stList s e = (if (stLen s e 256).1.2 ≠ 0 then ((stLen s e 256).1, []) else listFrom (stLen s e 256).2 (stLen s e 256).1.1 []) from rfl)
  have hf := stLen_facts s e 256
  have hz := stLen_zero s e 256
  obtain ⟨⟨⟨s1, e1⟩, n⟩, hd⟩ : ∃ r, stLen s e 256 = r := ⟨_, rfl⟩
  rw [hd] at HN HS hf hz
  clear hd
  simp only at hf hz
  by_cases he : e1 = 0
  · subst he
    clear hz
    have HS1 := Lib.hid (HS.out.trans (if_neg (by simp)))
    clear HS
    go_enter Tryd.func54, Tryd.ntmps54
    go_wp2_with fail
    refine HN.out.mono ?_
    rintro e w1 ⟨rfl, hR, hg⟩
    have HR := Lib.hid (show LRel w b n s1 0 (.slice none 0 0) w1 from ⟨s1, [], rfl, rfl, by omega, hR, World.ownsRow_nil _ _ _ _, hg⟩)
    clear hR hg
    go_wp2
    go_loopw [4, 8] (fun v i wr => ∃ j : Nat, j ≤ n ∧ i = .int .i64 j ∧ LRel w b n s1 j v wr) (fun _ i _ => n - (intOf i).toNat)
    case atStart => exact ⟨0, Nat.zero_le _, rfl, HR.out⟩
    case round =>
      obtain ⟨j, hj, rfl, sj, acc, hl, hlen, hsz, hRj, hown, hgj⟩ := hrel
      have HL := Lib.hid hl
      have HLen := Lib.hid hlen
      clear hl hlen
      by_cases hlt : j < n
      · have HT := Lib.hid (textAt b sj 0 wr hRj hsz)
        have HLS := Lib.hid (show listFrom (n - j) sj acc = if (stText sj 0).1.2 ≠ 0 then ((stText sj 0).1, []) else listFrom (n - (j + 1)) (stText sj 0).1.1 (acc ++ [(stText sj 0).2]) by
          rw [show n - j = (n - (j + 1)) + 1 by omega]; rfl)
        have htf := stText_facts sj 0
        obtain ⟨⟨⟨s2, e2⟩, t2⟩, hd2⟩ : ∃ r, stText sj 0 = r := ⟨_, rfl⟩
        rw [hd2] at HT HLS htf
        clear hd2
        go_wp2_with fail
        refine HT.out.mono ?_
        rintro e w2 ⟨rfl, hR2, hg2⟩
        have hnb : u4.ownBlock ≠ some b := fun e => by have := (hown.lt b e).1; omega
        have hown2 := hown.kept hg2 (.inr hnb)
        have hsz2 := Nat.le_trans hgj.size hg2.size
        go_wp2_with (at_builtin; go_must (refine wpList_append_own _ rfl _ _ 34 rfl w.heap.size 9 i0 (.string .empty) 1 16 Tryd.underlying34 hi hz0 hz1 hz2 rfl (by decide) u4 j (strVals acc) rfl (hown2.alloc _) ⟨w2.heap.size, 0, none⟩ 1 1 [.string t2] rfl rfl ?c1 ?c2 ?c3 ?c4 ?c5 ?_))
        case c1 =>
          intro k u hk
          match k, hk with
          | 0, hk => simp at hk; subst hk; simp [Addr.add]
          | k + 1, hk => simp at hk
        case c2 => intro u hu; simp at hu; subst hu; rfl
        case c3 => unfold maxLen; omega
        case c4 => omega
        case c5 => simp; omega
        intro v3 w3 hown3 hgrow3 _
        have hrow : ∀ i, u4.ownBlock = some i → w.heap.size ≤ i := fun i hi => (hown.lt i hi).1
        have hR3 : RdAt w3 b s2 e2 := Blk.grown (Blk.alloc hR2 _) hgrow3 (fun e => hnb e.symm)
        have hg3 := only_grown (only_alloc (only_trans hgj hg2) _) hgrow3 hrow
        have hown4 : w3.ownsRow w.heap.size 9 1 v3 (j + 1) (strVals (acc ++ [t2])) := by simpa [strVals] using hown3
        clear hown3 hgrow3 hR2 hown hown2 hg2
        by_cases he2 : e2 = 0
        · subst he2
          have HL2 := Lib.hid (HL.out.trans (HLS.out.trans (if_neg (by simp))))
          clear HL HLS HT
          go_wp2_with fail
          refine (errAt b s2 0 w3 hR3).mono ?_
          rintro e w4 ⟨rfl, rfl⟩
          go_wp2
          go_roundw
          case rel => exact ⟨j + 1, by omega, by go_num, s2, acc ++ [t2], HL2.out, by rw [List.length_append, HLen.out]; rfl, Nat.le_trans htf.1 hsz, hR3, hown4, hg3⟩
          case measure => simp [intOf]; omega
        · have hne : (e2 != 0) = true := by rw [bne_iff_ne]; exact he2
          have HL2 := Lib.hid (HS1.out.trans (HL.out.trans (HLS.out.trans (if_pos he2))))
          clear HL HLS HT
          go_wp2_with fail
          refine (errAt b s2 e2 w3 hR3).mono ?_
          rintro e w4 ⟨rfl, rfl⟩
          go_wp2
          go_ret
          rw [HL2.out]
          exact ⟨_, rfl, Txs.nil _ _ _ _, (fun g hg => by cases hg), roomy_nil, hR3, hg3⟩
      · obtain rfl : j = n := by omega
        have HL2 := Lib.hid (show stList s e = ((sj, 0), acc) by rw [HS1.out, HL.out, Nat.sub_self]; rfl)
        go_wp2
        go_ret
        rw [HL2.out]
        refine ⟨_, rfl, Txs.of_own (base := w.heap.size) ?_, hown.lt, own_roomy hown, hRj, hgj⟩
        rw [HLen.out]
        exact hown
  · have HS1 := Lib.hid (HS.out.trans (if_pos he))
    clear HS
    obtain rfl : n = 0 := hz he
    go_enter Tryd.func54, Tryd.ntmps54
    go_wp2_with fail
    refine HN.out.mono ?_
    rintro e w1 ⟨rfl, hR, hg⟩
    go_wp2
    go_rounds 1
    go_ret
    rw [HS1.out]
    exact ⟨_, rfl, Txs.nil _ _ _ _, (fun g hg => by cases hg), roomy_nil, hR, hg⟩
theorem listAt (b : Nat) (s : ByteArray) (e : Int) (w : World) (h : RdAt w b s e) (hm : s.size ≤ 9223372036854775807) :
    Calls Tryd.prog 54 #[.pointer (some ⟨b, 0, none⟩)] w (ListPost w b (stList s e)) := (listOwnAt b s e w h hm).mono fun _ _ hx => hx.post
end Go.Proofs.YtkinnlfjcmhcoaaDoor.W
/-
  The reference of pairs: Get, Set, Del.
-/
namespace Go.Proofs.YtkinnlfjcmhcoaaDoor.W
open Go.RowKit

/-- the slice value v is a row of the call's own that holds the pairs l; nothing below B has turned -/
def OwnPrs (B : Nat) (v : Value) (l : List KV) (W0 w : World) : Prop := w.ownsRow B 32 2 v l.length (prVals l) ∧ Below B W0 w ∧ B ≤ w.heap.size
theorem OwnPrs_nil (w : World) : OwnPrs w.heap.size (.slice none 0 0) [] w w := ⟨World.ownsRow_nil _ _ _ _, Below.refl _ _, Nat.le_refl _⟩
section
variable {B : Nat} {v : Value} {l : List KV} {W0 w w' : World}
theorem OwnPrs.after (h : OwnPrs B v l W0 w) (k : Below w.heap.size w w') : OwnPrs B v l W0 w' :=
  ⟨h.1.kept (row := none) ⟨k.os, k.tape, k.output, k.size, fun i hi _ => k.block i hi⟩ (by cases hv : v.ownBlock <;> simp), h.2.1.trans (k.mono h.2.2), Nat.le_trans h.2.2 k.size⟩
theorem OwnPrs.alloc (h : OwnPrs B v l W0 w) (o : Obj) : OwnPrs B v l W0 (w.alloc o) := h.after ((Below.refl _ _).alloc (Nat.le_refl _) _)
theorem OwnPrs.prs (h : OwnPrs B v l W0 w) : Prs w v l := Prs.of_own h.1
theorem OwnPrs.below (h : OwnPrs W0.heap.size v l W0 w) : Below W0.heap.size W0 w := h.2.1
end
/-- 'l = append(l, m...)' -/
theorem wpList_append_ownPrs {ops : Array Oper} {rest : List Oper} {o : Oper} {a : Act} {Q : Exit → Act → World → Prop} (w : World) (hgd : o.guard = none) (s x : Operand) (T : TypeId) (hT : Tryd.prog.underlying T = some (.slice 32))
    (ho : o.op = .call { callee := .builtin .append, args := #[s, x], argTypes := #[T, T] }) (B : Nat) (v y : Value) (l m : List KV) (hs : a.eval s = v) (hx : a.eval x = y) (W0 : World)
    (hown : OwnPrs B v l W0 w) (hP : Prs w y m) (hlen : l.length + m.length ≤ 1000000000)
    (h : ∀ v' w', OwnPrs B v' (l ++ m) W0 w' → wpList Tryd.prog ops Q rest (a.put o.dst v') w') : wpList Tryd.prog ops Q (o :: rest) a w :=
  wpList_append_prs w hgd s x T hT ho B v y l m hs hx hown.1 hP hown.2.2 hlen fun v' w' h1 h2 _ => h v' w' ⟨h1, hown.2.1.grown h2 hown.2.2 (fun k hk => (hown.1.lt k hk).1), Nat.le_trans hown.2.2 h2.size⟩

section
variable {w : World} {A : Option Addr} {cap : Nat} {l : List KV}
theorem prs_from (h : Prs w (.slice A l.length cap) l) (i : Nat) (hi : i ≤ l.length) :
    ∃ A' c', (∀ W, (Instr.slice 103 (.slice A l.length cap) (some (.int .i64 i)) none none).run Tryd.prog W = .ok (.slice A' (l.drop i).length c') W) ∧ Prs w (.slice A' (l.drop i).length c') (l.drop i) :=
  prs_cut 103 (by kernel_rfl) (by kernel_rfl) h i hi
end

set_option maxHeartbeats 2000000 in
set_option maxRecDepth 100000 in
theorem rGet (s : Value) (l : List KV) (k : ByteArray) (w : World) (hP : Prs w s l) (hu : Up l) (hz : l.length ≤ 1000000000) :
    Calls Tryd.prog 23 #[s, .string k] w fun e w' => e = .returned (retGet (lget l k)) ∧ w' = w := by
  have H1 := Lib.hid (rAt s l k w hP hz)
  obtain ⟨A, cap, rfl, hcap, hc⟩ := hP
  have hN := latN_le l k
  rcases latN_parts hu k with ⟨h1, h2, _⟩ | ⟨h1, h2, h3, _⟩ | ⟨h1, h2, h3, _, _⟩
  · rw [h2]
    generalize latN l k = i at *
    have hl : ¬ (i : Int) < l.length := by omega
    unfold retGet
    simp only [Option.getD_none, Option.isSome_none]
    clear hc hu h2
    go_enter Tryd.func23, Tryd.ntmps23
    go_wp2_with fail
    refine H1.out.mono ?_
    rintro e w' ⟨rfl, rfl⟩
    go_wp2
    go_returns
    exact ⟨rfl, rfl⟩
  · rw [h3]
    generalize latN l k = i at *
    obtain ⟨b, off, rfl, c1, c2⟩ := hc i h1
    have hl : (i : Int) < l.length := by omega
    have hl0 : (0 : Int) ≤ i := by omega
    have hne := str_ne h2
    generalize (l[i]'h1).1 = x at *
    unfold retGet
    simp only [Option.getD_none, Option.isSome_none]
    clear hc hu h2 h3
    go_enter Tryd.func23, Tryd.ntmps23
    go_wp2_with fail
    refine H1.out.mono ?_
    rintro e w' ⟨rfl, rfl⟩
    go_wp2
    go_returns
    exact ⟨rfl, rfl⟩
  · rw [h3]
    generalize latN l k = i at *
    obtain ⟨b, off, rfl, c1, c2⟩ := hc i h1
    have hl : (i : Int) < l.length := by omega
    have hl0 : (0 : Int) ≤ i := by omega
    rw [h2] at c1
    generalize (l[i]'h1).2 = x at *
    unfold retGet
    simp only [Option.getD_some, Option.isSome_some]
    clear hc hu h2 h3
    go_enter Tryd.func23, Tryd.ntmps23
    go_wp2_with fail
    refine H1.out.mono ?_
    rintro e w' ⟨rfl, rfl⟩
    go_wp2
    go_returns
    exact ⟨rfl, rfl⟩
end Go.Proofs.YtkinnlfjcmhcoaaDoor.W
/-
  The table of roots out of the row's list (as in KAwake, without merkle's examples).
-/
namespace Go.Proofs.YtkinnlfjcmhcoaaDoor.W
open Go.RowKit

theorem gRoots : Tryd.prog.globalNamed "footbridge/sha.roots" = some 0 := by kernel_rfl
theorem gRootsType : (Tryd.prog.globals[0]?).map (·.type) = some 134 := by kernel_rfl
theorem cells32 : Tryd.prog.cellsOf 115 = 1 := by kernel_rfl
theorem cellsRoots : Tryd.prog.cellsOf 134 = 64 := by kernel_rfl
theorem getD_cast (l : List Nat) (i : Nat) : (l.map fun x : Nat => (x : Int)).getD i 0 = (nth l i : Int) := by
  unfold nth
  rw [List.getD_eq_getElem?_getD, List.getD_eq_getElem?_getD, List.getElem?_map]
  cases l[i]? <;> rfl
theorem roots_of {W : World} (h : laidMetH Tryd.prog [("footbridge/sha.roots", Rows.laid_footbridge_sha_roots)] W) : Roots W := by
  have ht : Lib.TabIs Tryd.prog W "footbridge/sha.roots" .u32 (kk.map fun x : Nat => (x : Int)) :=
    Lib.tabIs_of_head (rest := []) gRoots gRootsType Tryd.underlying134 Tryd.underlying115 cells32 cellsRoots h
  intro i hi
  have hc := ht.cell gRoots i hi
  rw [hc, getD_cast]

end Go.Proofs.YtkinnlfjcmhcoaaDoor.W
