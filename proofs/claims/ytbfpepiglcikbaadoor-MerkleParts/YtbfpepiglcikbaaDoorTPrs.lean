/-
  A slice of pairs: as a list of pairs; one that a call owns.
-/
import Derived.Test.YtbfpepiglcikbaaDoorCBlk
import Derived.Test.YtbfpepiglcikbaaDoorTMath
import Derived.Maps.OwnIn
import Derived.Maps.AppendAt
import Derived.Laws.AppendOwn
namespace Go.Proofs.YtbfpepiglcikbaaDoor.W
open Go.RowKit

theorem infoPair : (Tryd.prog.info? 30).map (fun i => (i.zero, i.size, i.bytes)) = some (some (.agg #[.string .empty, .string .empty]), 2, 32) := by kernel_rfl
def prVals (l : List KV) : List Value := l.flatMap fun x => [.string x.1, .string x.2]
theorem prVals_len : ∀ l : List KV, (prVals l).length = l.length * 2
  | [] => rfl
  | x :: l => by simp only [prVals, List.flatMap_cons, List.length_append, List.length_cons, List.length_nil]; have := prVals_len l; simp only [prVals] at this; omega
theorem prVals_append (l m : List KV) : prVals (l ++ m) = prVals l ++ prVals m := by simp [prVals]
theorem prVals_at : ∀ (l : List KV) (i : Nat) (h : i < l.length), (prVals l)[i * 2]? = some (.string l[i].1) ∧ (prVals l)[i * 2 + 1]? = some (.string l[i].2)
  | x :: l, 0, _ => by simp [prVals]
  | x :: l, i + 1, h => by
    have := prVals_at l i (by simpa using h)
    simp only [prVals, List.flatMap_cons] at this ⊢
    rw [show (i + 1) * 2 = i * 2 + 1 + 1 by omega]
    simpa using this
theorem prVals_one {l : List KV} : ∀ u ∈ prVals l, u.oneCell' = true := by
  intro u hu
  simp only [prVals, List.mem_flatMap] at hu
  obtain ⟨x, _, hx⟩ := hu
  simp at hx
  rcases hx with rfl | rfl <;> rfl

/-- the slice value v reads as the pairs l -/
def Prs (w : World) (v : Value) (l : List KV) : Prop :=
  ∃ A cap, v = .slice A l.length cap ∧ l.length ≤ cap ∧ ∀ i (h : i < l.length), ∃ b off, A = some ⟨b, off, none⟩ ∧ w.cell? ⟨b, off + i * 2, none⟩ = some (.string l[i].1) ∧ w.cell? ⟨b, off + i * 2 + 1, none⟩ = some (.string l[i].2)
section
variable {w w' : World} {v : Value} {l : List KV}
theorem Prs.moved (h : Prs w v l) (hb : ∀ g, v.ownBlock = some g → w'.heap[g]? = w.heap[g]?) : Prs w' v l := by
  obtain ⟨A, cap, rfl, hl, hc⟩ := h
  refine ⟨A, cap, rfl, hl, fun i hi => ?_⟩
  obtain ⟨b, off, rfl, h1, h2⟩ := hc i hi
  exact ⟨b, off, rfl, (World.cell?_of_block (w := w) (hb b rfl)).trans h1, (World.cell?_of_block (w := w) (hb b rfl)).trans h2⟩
theorem Prs.kept (h : Prs w v l) (hb : ∀ p u, w.cell? p = some u → some p.block = v.ownBlock → w'.cell? p = some u) : Prs w' v l := by
  obtain ⟨A, cap, rfl, hl, hc⟩ := h
  refine ⟨A, cap, rfl, hl, fun i hi => ?_⟩
  obtain ⟨b, off, rfl, h1, h2⟩ := hc i hi
  exact ⟨b, off, rfl, hb _ _ h1 rfl, hb _ _ h2 rfl⟩
theorem Prs.below (h : Prs w v l) (hb : Below w.heap.size w w') : Prs w' v l := h.kept fun _ _ hc _ => (since_of hb).cell hc
theorem Prs.lt (h : Prs w v l) (hl : l ≠ []) : ∀ g, v.ownBlock = some g → g < w.heap.size := by
  obtain ⟨A, cap, rfl, _, hc⟩ := h
  obtain ⟨b, off, rfl, h1, _⟩ := hc 0 (by cases l <;> simp_all)
  intro g hg
  cases hg
  exact World.block_lt_of_cell? w _ h1
theorem Prs.nil (w : World) (A : Option Addr) (cap : Nat) : Prs w (.slice A 0 cap) [] := ⟨A, cap, rfl, Nat.zero_le _, fun i h => absurd h (by simp)⟩
theorem Prs.of_own {base : Nat} (h : w.ownsRow base 30 2 v l.length (prVals l)) : Prs w v l := by
  rcases h.2 with ⟨rfl, hn⟩ | ⟨g, cap, cur, rfl, hb, hg, hc, _⟩
  · obtain rfl : l = [] := List.eq_nil_of_length_eq_zero hn
    exact Prs.nil _ _ _
  · refine ⟨some ⟨g, 0, none⟩, cap, rfl, hc, fun i hi => ⟨g, 0, rfl, ?_, ?_⟩⟩
    · have := h.cells (g := g) rfl (i * 2) _ (prVals_at l i hi).1
      rwa [show (⟨g, 0, none⟩ : Addr).add (i * 2) = ⟨g, 0 + i * 2, none⟩ by unfold Addr.add; split <;> simp_all] at this
    · have := h.cells (g := g) rfl (i * 2 + 1) _ (prVals_at l i hi).2
      rwa [show (⟨g, 0, none⟩ : Addr).add (i * 2 + 1) = ⟨g, 0 + i * 2 + 1, none⟩ by unfold Addr.add; split <;> simp_all] at this
end

theorem add_far (b off j : Nat) : (⟨b, off, none⟩ : Addr).add j = ⟨b, off + j, none⟩ := by unfold Addr.add; split <;> simp_all
/-- the cells of a list of pairs, from an address on -/
theorem Prs.cells {w : World} {b off cap : Nat} {l : List KV} (h : Prs w (.slice (some ⟨b, off, none⟩) l.length cap) l) : ∀ j u, (prVals l)[j]? = some u → w.cell? ((⟨b, off, none⟩ : Addr).add j) = some u := by
  intro j u hj
  obtain ⟨A, cap', e, _, hc⟩ := h
  cases e
  have hlt : j < l.length * 2 := by rw [← prVals_len]; exact (List.getElem?_eq_some_iff.1 hj).1
  obtain ⟨b', off', e, h1, h2⟩ := hc (j / 2) (by omega)
  cases e
  have hp := prVals_at l (j / 2) (by omega)
  rw [add_far]
  rcases Nat.mod_two_eq_zero_or_one j with hm | hm
  · have e : j / 2 * 2 = j := by omega
    rw [e] at hp h1
    rw [hp.1] at hj
    cases hj
    exact h1
  · have e : j / 2 * 2 + 1 = j := by omega
    rw [Nat.add_assoc, e] at h2
    rw [e] at hp
    rw [hp.2] at hj
    cases hj
    exact h2
theorem run_append_none (P : Program) (w : World) (t ty e : TypeId) (i : TypeInfo) (ht : P.underlying t = some (.slice e)) (hi : P.info? e = some i) (A : Option Addr) (n cap c : Nat) (hn : n ≤ cap) :
    (Builtin.append_ #[t, t] ty #[.slice A n cap, .slice none 0 c]).run P w = .ok (.slice A n cap) w := by
  cases A <;> simp [Builtin.append_, run_underlying ht, go_sem, run_sizeOf w hi, hn]
theorem run_append_prs (w : World) (B : Nat) (T ty : TypeId) (hT : Tryd.prog.underlying T = some (.slice 30)) (v y : Value) (l m : List KV) (hown : w.ownsRow B 30 2 v l.length (prVals l)) (hP : Prs w y m) (hB : B ≤ w.heap.size) (hlen : l.length + m.length ≤ 1000000000) :
    ∃ v' w', (Builtin.append_ #[T, T] ty #[v, y]).run Tryd.prog w = .ok v' w' ∧ w'.ownsRow B 30 2 v' (l ++ m).length (prVals (l ++ m)) ∧ w.grownBy w' v.ownBlock ∧ (v'.ownBlock = v.ownBlock ∨ v'.ownBlock = some w.heap.size) := by
  obtain ⟨i0, hi, hz0, hz1, hz2⟩ := info_parts infoPair
  have hP' := hP
  obtain ⟨A, cap, rfl, hcap, hc⟩ := hP'
  match A, hc with
  | none, hc =>
    have hm : m = [] := by
      cases m with
      | nil => rfl
      | cons x m => obtain ⟨b, off, e, _⟩ := hc 0 (by simp); cases e
    subst hm
    rw [List.append_nil]
    have hv : ∃ A' n c, v = .slice A' n c ∧ n ≤ c := by
      rcases hown.2 with ⟨rfl, _⟩ | ⟨g, cap, cur, rfl, _, _, h1, _⟩
      · exact ⟨none, 0, 0, rfl, Nat.le_refl _⟩
      · exact ⟨_, _, _, rfl, h1⟩
    obtain ⟨A', n, c, rfl, hn⟩ := hv
    exact ⟨_, w, run_append_none Tryd.prog w T ty _ i0 hT hi A' n c cap hn, hown, only_refl _ _, .inl rfl⟩
  | some ad, hc =>
    by_cases hm : m = []
    · subst hm
      obtain ⟨v', w', hr, h2, h3, _, h5⟩ := run_append_own_at (P := Tryd.prog) w B T ty 30 i0 _ 2 32 hT hi hz0 hz1 hz2 rfl (by decide) v l.length (prVals l) hown ad 0 cap [] rfl (fun j u h => by simp at h) (fun u h => by cases h) (by unfold maxLen; simp only [List.length_nil] at hlen; omega) (by simp only [List.length_nil] at hlen; omega) hB
      exact ⟨v', w', hr, by simpa using h2, h3, h5⟩
    · obtain ⟨b, off, e, _⟩ := hc 0 (by cases m <;> simp_all)
      cases e
      obtain ⟨v', w', hr, h2, h3, _, h5⟩ := run_append_own_at (P := Tryd.prog) w B T ty 30 i0 _ 2 32 hT hi hz0 hz1 hz2 rfl (by decide) v l.length (prVals l) hown ⟨b, off, none⟩ m.length cap (prVals m) (prVals_len m) hP.cells prVals_one (by unfold maxLen; omega) (by omega) hB
      exact ⟨v', w', hr, by rw [List.length_append, prVals_append]; exact h2, h3, h5⟩
/-- 'l = append(l, m...)' -/
theorem wpList_append_prs {ops : Array Oper} {rest : List Oper} {o : Oper} {a : Act} {Q : Exit → Act → World → Prop} (w : World) (hgd : o.guard = none) (s x : Operand) (T : TypeId) (hT : Tryd.prog.underlying T = some (.slice 30))
    (ho : o.op = .call { callee := .builtin .append, args := #[s, x], argTypes := #[T, T] }) (B : Nat) (v y : Value) (l m : List KV) (hs : a.eval s = v) (hx : a.eval x = y)
    (hown : w.ownsRow B 30 2 v l.length (prVals l)) (hP : Prs w y m) (hB : B ≤ w.heap.size) (hlen : l.length + m.length ≤ 1000000000)
    (h : ∀ v' w', w'.ownsRow B 30 2 v' (l ++ m).length (prVals (l ++ m)) → w.grownBy w' v.ownBlock → (v'.ownBlock = v.ownBlock ∨ v'.ownBlock = some w.heap.size) → wpList Tryd.prog ops Q rest (a.put o.dst v') w') : wpList Tryd.prog ops Q (o :: rest) a w := by
  refine wpList_plain hgd fun K hK => ?_
  obtain ⟨v', w', hr, h2, h3, h4⟩ := run_append_prs w B T o.type hT v y l m hown hP hB hlen
  simp [Oper.wp, Oper.upon, execOp, ho, resolve, invoke, builtin, hs, hx, hr, Result.andThen]
  exact hK _ _ (h v' w' h2 h3 h4)
/-- the same within a fence -/
theorem wpListIn_append_prs {F : Fence} {nF : Nat} {ops : Array Oper} {rest : List Oper} {o : Oper} {a : Act} {Q : Exit → Act → World → Prop} (w : World) (hgd : o.guard = none) (s x : Operand) (T : TypeId) (hT : Tryd.prog.underlying T = some (.slice 30))
    (ho : o.op = .call { callee := .builtin .append, args := #[s, x], argTypes := #[T, T] }) (B : Nat) (v y : Value) (l m : List KV) (hs : a.eval s = v) (hx : a.eval x = y)
    (hown : w.ownsRow B 30 2 v l.length (prVals l)) (hP : Prs w y m) (hB : B ≤ w.heap.size) (hlen : l.length + m.length ≤ 1000000000)
    (h : ∀ v' w', w'.ownsRow B 30 2 v' (l ++ m).length (prVals (l ++ m)) → w.grownBy w' v.ownBlock → (v'.ownBlock = v.ownBlock ∨ v'.ownBlock = some w.heap.size) → wpListIn F nF Tryd.prog ops Q rest (a.put o.dst v') w') : wpListIn F nF Tryd.prog ops Q (o :: rest) a w := by
  refine wpListIn_plain hgd fun K hK => ?_
  obtain ⟨v', w', hr, h2, h3, h4⟩ := run_append_prs w B T o.type hT v y l m hown hP hB hlen
  unfold Oper.wpIn
  refine ⟨by simp [Oper.about, ho, resolve, Target.leads, Sem.run_pure], ?_⟩
  rw [Oper.semAt_plain F _ _ (by rw [ho]; intro c hc'; cases hc')]
  simp [execOp, ho, resolve, invoke, builtin, hs, hx, hr, Result.andThen]
  exact hK _ _ (h v' w' h2 h3 h4)
theorem prs_built (W : World) (x : KV) : Prs (W.alloc (.cells #[.string x.1, .string x.2] 30)) (.slice (some ⟨W.heap.size, 0, none⟩) 1 1) [x] := by
  refine ⟨_, 1, rfl, Nat.le_refl _, fun i hi => ?_⟩
  have hb := Blk.new W 30 #[.string x.1, .string x.2]
  obtain rfl : i = 0 := by simpa using hi
  exact ⟨_, 0, rfl, hb.cell 0, hb.cell 1⟩
end Go.Proofs.YtbfpepiglcikbaaDoor.W
