/-
  A slice of strings that a call owns.
-/
import Derived.Test.YtbfpepiglcikbaaDoorCTxs
namespace Go.Proofs.YtbfpepiglcikbaaDoor.W
open Go.RowKit

theorem infoStr : (Tryd.prog.info? 9).map (fun i => (i.zero, i.size, i.bytes)) = some (some (.string .empty), 1, 16) := by kernel_rfl

def strVals (ss : List ByteArray) : List Value := ss.map Value.string
theorem strVals_len (ss : List ByteArray) : (strVals ss).length = ss.length := by simp [strVals]
theorem Txs.of_own {w : World} {base : Nat} {v : Value} {ss : List ByteArray} (h : w.ownsRow base 9 1 v ss.length (strVals ss)) : Txs w w.heap.size v ss := by
  rcases h.2 with ⟨rfl, hn⟩ | ⟨g, cap, cur, rfl, hb, hg, _⟩
  · obtain rfl : ss = [] := List.eq_nil_of_length_eq_zero hn
    exact Txs.nil _ _ _ _
  · refine ⟨some ⟨g, 0, none⟩, cap, rfl, fun i hi => ⟨g, 0, rfl, (Array.getElem?_eq_some_iff.1 hg).1, ?_⟩⟩
    have := h.cells (g := g) rfl i (.string ss[i]) (by simp [strVals, hi])
    rw [show (⟨g, 0, none⟩ : Addr).add i = ⟨g, 0 + i, none⟩ by unfold Addr.add; split <;> simp_all] at this
    exact this

/-- the slice value v is a row of the call's own that holds the strings ss; nothing below B has turned -/
def OwnStrs (B : Nat) (v : Value) (ss : List ByteArray) (W0 w : World) : Prop :=
  w.ownsRow B 9 1 v ss.length (strVals ss) ∧ Below B W0 w ∧ B ≤ w.heap.size
theorem OwnStrs_nil (w : World) : OwnStrs w.heap.size (.slice none 0 0) [] w w := ⟨World.ownsRow_nil _ _ _ _, Below.refl _ _, Nat.le_refl _⟩
section
variable {B : Nat} {v : Value} {ss : List ByteArray} {W0 w w' : World}
theorem OwnStrs.after (h : OwnStrs B v ss W0 w) (k : Below w.heap.size w w') : OwnStrs B v ss W0 w' := by
  refine ⟨h.1.kept (row := none) ⟨k.os, k.tape, k.output, k.size, fun i hi _ => k.block i hi⟩ (by cases hv : v.ownBlock <;> simp), h.2.1.trans (k.mono h.2.2), Nat.le_trans h.2.2 k.size⟩
theorem OwnStrs.alloc (h : OwnStrs B v ss W0 w) (o : Obj) : OwnStrs B v ss W0 (w.alloc o) := h.after ((Below.refl _ _).alloc (Nat.le_refl _) _)
theorem OwnStrs.txs (h : OwnStrs B v ss W0 w) : Txs w w.heap.size v ss := Txs.of_own h.1
theorem OwnStrs.below (h : OwnStrs W0.heap.size v ss W0 w) : Below W0.heap.size W0 w := h.2.1
end
/-- 'l = append(l, s)' -/
theorem wpList_append_str {ops : Array Oper} {rest : List Oper} {o : Oper} {a : Act} {Q : Exit → Act → World → Prop} (hgd : o.guard = none) (s x : Operand)
    (ho : o.op = .call { callee := .builtin .append, args := #[s, x], argTypes := #[25, 25] })
    (B : Nat) (v : Value) (ss : List ByteArray) (hs : a.eval s = v) (W0 w0 : World) (c : ByteArray) (hb : OwnStrs B v ss W0 w0)
    (hx : a.eval x = .slice (some ⟨w0.heap.size, 0, none⟩) 1 1) (hlen : ss.length ≤ 1000000000)
    (h : ∀ v' w', OwnStrs B v' (ss ++ [c]) W0 w' → wpList Tryd.prog ops Q rest (a.put o.dst v') w') : wpList Tryd.prog ops Q (o :: rest) a (w0.alloc (.cells #[.string c] 9)) := by
  obtain ⟨i0, hi, hz0, hz1, hz2⟩ := info_parts infoStr
  have hb' := hb.alloc (.cells #[.string c] 9)
  refine wpList_append_own _ hgd s x 25 ho B 9 i0 (.string .empty) 1 16 Tryd.underlying25 hi hz0 hz1 hz2 rfl (by decide) v ss.length (strVals ss) hs hb'.1 ⟨w0.heap.size, 0, none⟩ 1 1 [.string c] hx rfl ?_ ?_ ?_ ?_ hb'.2.2 ?_
  · intro j u hj
    match j, hj with
    | 0, hj => simp at hj; subst hj; simp [Addr.add]
    | (j + 1), hj => simp at hj
  · intro u hu
    simp at hu
    subst hu
    rfl
  · unfold maxLen; omega
  · omega
  · intro v' w' ho' hg _
    refine h v' w' ⟨?_, hb'.2.1.grown hg hb'.2.2 (fun k hk => (hb'.1.lt k hk).1), Nat.le_trans hb'.2.2 hg.size⟩
    simpa [strVals] using ho'
/-- 'make([]string, 0, n)' -/
theorem run_make_strs (n : Nat) (h : n ≤ 1000000000) (w : World) : (Instr.makeSlice 25 (.int .i64 0) (.int .i64 n)).run Tryd.prog w = .ok (.slice (some ⟨w.heap.size, 0, none⟩) 0 n) (w.alloc (.cells (madeCells #[.string .empty] n) 9)) := by
  obtain ⟨i0, hi, hz0, hz1, hz2⟩ := info_parts infoStr
  have hr := run_make (P := Tryd.prog) w 25 9 i0 _ Tryd.underlying25 hi hz0 .i64 .i64 0 n (by omega) (by omega) (by rw [hz2]; omega) (by omega)
  rw [hz1, show (Value.string ByteArray.empty).cells = #[.string .empty] from rfl] at hr
  simpa using hr
theorem OwnStrs_made (n : Nat) (h : n ≤ 1000000000) (w : World) : OwnStrs w.heap.size (.slice (some ⟨w.heap.size, 0, none⟩) 0 n) [] w (w.alloc (.cells (madeCells #[.string .empty] n) 9)) :=
  ⟨World.ownsRow_made w _ n (Nat.le_refl _) (by unfold maxLen; omega) (by rw [size_madeCells, Nat.mul_one]), (Below.refl _ _).alloc (Nat.le_refl _) _, by simp⟩
end Go.Proofs.YtbfpepiglcikbaaDoor.W
