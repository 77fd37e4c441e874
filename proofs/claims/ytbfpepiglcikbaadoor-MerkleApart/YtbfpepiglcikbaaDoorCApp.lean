/-
  'l = append(l, m...)' of strings: onto a slice that the call owns.
-/
import Derived.Test.YtbfpepiglcikbaaDoorCStrs
import Derived.Maps.OwnIn
import Derived.Maps.AppendAt
import Derived.Laws.AppendOwn
namespace Go.Proofs.YtbfpepiglcikbaaDoor.W
open Go.RowKit

theorem strVals_append (a b : List ByteArray) : strVals (a ++ b) = strVals a ++ strVals b := by simp [strVals]
theorem strVals_one {ss : List ByteArray} : ∀ u ∈ strVals ss, u.oneCell' = true := by
  intro u hu
  simp only [strVals, List.mem_map] at hu
  obtain ⟨x, _, rfl⟩ := hu
  rfl
theorem addS (b off j : Nat) : (⟨b, off, none⟩ : Addr).add j = ⟨b, off + j, none⟩ := by unfold Addr.add; split <;> simp_all
theorem Txs.cells {w : World} {B b off cap : Nat} {ss : List ByteArray} (h : Txs w B (.slice (some ⟨b, off, none⟩) ss.length cap) ss) : ∀ j u, (strVals ss)[j]? = some u → w.cell? ((⟨b, off, none⟩ : Addr).add j) = some u := by
  intro j u hj
  obtain ⟨A, cap', e, hc⟩ := h
  cases e
  have hlt : j < ss.length := by rw [← strVals_len]; exact (List.getElem?_eq_some_iff.1 hj).1
  obtain ⟨b', off', e, _, h1⟩ := hc j hlt
  cases e
  rw [addS, h1]
  simp [strVals, hlt] at hj
  rw [hj]
theorem run_append_empty (P : Program) (w : World) (t ty e : TypeId) (i : TypeInfo) (ht : P.underlying t = some (.slice e)) (hi : P.info? e = some i) (A : Option Addr) (n cap c : Nat) (hn : n ≤ cap) :
    (Builtin.append_ #[t, t] ty #[.slice A n cap, .slice none 0 c]).run P w = .ok (.slice A n cap) w := by
  cases A <;> simp [Builtin.append_, run_underlying ht, go_sem, run_sizeOf w hi, hn]
theorem run_append_txs (w : World) (B B' : Nat) (ty : TypeId) (v y : Value) (l m : List ByteArray) (hown : w.ownsRow B 9 1 v l.length (strVals l)) (hP : Txs w B' y m) (hB : B ≤ w.heap.size) (hlen : l.length + m.length ≤ 1000000000) :
    ∃ v' w', (Builtin.append_ #[25, 25] ty #[v, y]).run Tryd.prog w = .ok v' w' ∧ w'.ownsRow B 9 1 v' (l ++ m).length (strVals (l ++ m)) ∧ w.grownBy w' v.ownBlock := by
  obtain ⟨i0, hi, hz0, hz1, hz2⟩ := info_parts infoStr
  have hP' := hP
  obtain ⟨A, cap, rfl, hc⟩ := hP'
  match A, hc with
  | none, hc =>
    have hm : m = [] := by
      cases m with
      | nil => rfl
      | cons x m => obtain ⟨b, off, e, _⟩ := hc 0 (by simp); cases e
    subst hm
    rw [List.append_nil]
    have hv : ∃ A' n c, v = .slice A' n c ∧ n ≤ c := by
      rcases hown.2 with ⟨rfl, _⟩ | ⟨g, cap, cur, rfl, _, _, h1, _⟩
      · exact ⟨none, 0, 0, rfl, Nat.le_refl _⟩
      · exact ⟨_, _, _, rfl, h1⟩
    obtain ⟨A', n, c, rfl, hn⟩ := hv
    exact ⟨_, w, run_append_empty Tryd.prog w 25 ty _ i0 Tryd.underlying25 hi A' n c cap hn, hown, only_refl _ _⟩
  | some ad, hc =>
    by_cases hm : m = []
    · subst hm
      obtain ⟨v', w', hr, h2, h3, _, h5⟩ := run_append_own_at (P := Tryd.prog) w B 25 ty 9 i0 _ 1 16 Tryd.underlying25 hi hz0 hz1 hz2 rfl (by decide) v l.length (strVals l) hown ad 0 cap [] rfl (fun j u h => by simp at h) (fun u h => by cases h) (by unfold maxLen; simp only [List.length_nil] at hlen; omega) (by simp only [List.length_nil] at hlen; omega) hB
      exact ⟨v', w', hr, by simpa using h2, h3⟩
    · obtain ⟨b, off, e, _⟩ := hc 0 (by cases m <;> simp_all)
      cases e
      obtain ⟨v', w', hr, h2, h3, _, h5⟩ := run_append_own_at (P := Tryd.prog) w B 25 ty 9 i0 _ 1 16 Tryd.underlying25 hi hz0 hz1 hz2 rfl (by decide) v l.length (strVals l) hown ⟨b, off, none⟩ m.length cap (strVals m) (by rw [strVals_len]; omega) hP.cells strVals_one (by unfold maxLen; omega) (by omega) hB
      exact ⟨v', w', hr, by rw [List.length_append, strVals_append]; exact h2, h3⟩
/-- 'l = append(l, m...)' -/
theorem wpList_append_txs {ops : Array Oper} {rest : List Oper} {o : Oper} {a : Act} {Q : Exit → Act → World → Prop} (w : World) (hgd : o.guard = none) (s x : Operand)
    (ho : o.op = .call { callee := .builtin .append, args := #[s, x], argTypes := #[25, 25] }) (B B' : Nat) (v y : Value) (l m : List ByteArray) (hs : a.eval s = v) (hx : a.eval x = y) (W0 : World)
    (hown : OwnStrs B v l W0 w) (hP : Txs w B' y m) (hlen : l.length + m.length ≤ 1000000000)
    (h : ∀ v' w', OwnStrs B v' (l ++ m) W0 w' → w.grownBy w' v.ownBlock → wpList Tryd.prog ops Q rest (a.put o.dst v') w') : wpList Tryd.prog ops Q (o :: rest) a w := by
  refine wpList_plain hgd fun K hK => ?_
  obtain ⟨v', w', hr, h2, h3⟩ := run_append_txs w B B' o.type v y l m hown.1 hP hown.2.2 hlen
  simp [Oper.wp, Oper.upon, execOp, ho, resolve, invoke, builtin, hs, hx, hr, Result.andThen]
  exact hK _ _ (h v' w' ⟨h2, hown.2.1.grown h3 hown.2.2 (fun k hk => (hown.1.lt k hk).1), Nat.le_trans hown.2.2 h3.size⟩ h3)
/-- the same behind a guard -/
theorem wpList_append_txsG {ops : Array Oper} {rest : List Oper} {o : Oper} {a : Act} {Q : Exit → Act → World → Prop} (w : World) (hgd : Region.wanted o (yielded ops a.tmps) = true) (s x : Operand)
    (ho : o.op = .call { callee := .builtin .append, args := #[s, x], argTypes := #[25, 25] }) (B B' : Nat) (v y : Value) (l m : List ByteArray) (hs : a.eval s = v) (hx : a.eval x = y) (W0 : World)
    (hown : OwnStrs B v l W0 w) (hP : Txs w B' y m) (hlen : l.length + m.length ≤ 1000000000)
    (h : ∀ v' w', OwnStrs B v' (l ++ m) W0 w' → w.grownBy w' v.ownBlock → wpList Tryd.prog ops Q rest (a.put o.dst v') w') : wpList Tryd.prog ops Q (o :: rest) a w := by
  refine wpList_step fun K hK => ?_
  rw [if_pos hgd]
  obtain ⟨v', w', hr, h2, h3⟩ := run_append_txs w B B' o.type v y l m hown.1 hP hown.2.2 hlen
  simp [Oper.wp, Oper.upon, execOp, ho, resolve, invoke, builtin, hs, hx, hr, Result.andThen]
  exact hK _ _ (h v' w' ⟨h2, hown.2.1.grown h3 hown.2.2 (fun k hk => (hown.1.lt k hk).1), Nat.le_trans hown.2.2 h3.size⟩ h3)
/-- an empty slice is anyone's own -/
theorem OwnStrs.start {w w1 : World} (h : Below w.heap.size w w1) : OwnStrs w.heap.size (.slice none 0 0) [] w w1 := ⟨World.ownsRow_nil _ _ _ _, h, h.size⟩
theorem own_down {w : World} {B B' : Nat} {t : TypeId} {k n : Nat} {v : Value} {xs : List Value} (h : w.ownsRow B t k v n xs) (hB : B' ≤ B) : w.ownsRow B' t k v n xs := by
  refine ⟨h.1, ?_⟩
  rcases h.2 with hn | ⟨g, cap, cur, e1, e2, rest⟩
  · exact .inl hn
  · exact .inr ⟨g, cap, cur, e1, Nat.le_trans hB e2, rest⟩
theorem OwnStrs.from {w w1 w2 : World} {v : Value} {ss : List ByteArray} (h : Below w.heap.size w w1) (k : OwnStrs w1.heap.size v ss w1 w2) : OwnStrs w.heap.size v ss w w2 :=
  ⟨own_down k.1 h.size, step_below h k.below, Nat.le_trans h.size k.2.2⟩
theorem txs_kept {w w' : World} {B : Nat} {y : Value} {ss : List ByteArray} {r : Option Nat} (h : Txs w B y ss) (k : w.grownBy w' r) (hd : ∀ g, y.ownBlock = some g → g < w.heap.size ∧ some g ≠ r) : Txs w' B y ss :=
  h.moved fun g hg => k.block g (hd g hg).1 (hd g hg).2
end Go.Proofs.YtbfpepiglcikbaaDoor.W
