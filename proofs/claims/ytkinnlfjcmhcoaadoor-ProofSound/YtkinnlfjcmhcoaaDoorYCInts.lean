/-
  A slice of ints that a call owns.
-/
import Derived.Test.YtkinnlfjcmhcoaaDoorZ0d
namespace Go.Proofs.YtkinnlfjcmhcoaaDoor.W
open Go.RowKit

theorem infoInt : (Tryd.prog.info? 3).map (fun i => (i.zero, i.size, i.bytes)) = some (some (.int .i64 0), 1, 8) := by kernel_rfl
def intVals (l : List Int) : List Value := l.map (Value.int .i64)
theorem intVals_len (l : List Int) : (intVals l).length = l.length := by simp [intVals]
/-- the slice value v reads as these numbers -/
def Ints (w : World) (v : Value) (l : List Int) : Prop := ∃ A cap, v = .slice A l.length cap ∧ ∀ i (h : i < l.length), ∃ b off, A = some ⟨b, off, none⟩ ∧ w.cell? ⟨b, off + i, none⟩ = some (.int .i64 l[i])
theorem Ints.below {w w' : World} {v : Value} {l : List Int} (h : Ints w v l) (hb : Below w.heap.size w w') : Ints w' v l := by
  obtain ⟨A, cap, rfl, hc⟩ := h
  refine ⟨A, cap, rfl, fun i hi => ?_⟩
  obtain ⟨b, off, ha, h1⟩ := hc i hi
  exact ⟨b, off, ha, (since_of hb).cell h1⟩
def OwnInts (B : Nat) (v : Value) (l : List Int) (W0 w : World) : Prop := w.ownsRow B 3 1 v l.length (intVals l) ∧ Below B W0 w ∧ B ≤ w.heap.size
theorem OwnInts_nil (w : World) : OwnInts w.heap.size (.slice none 0 0) [] w w := ⟨World.ownsRow_nil _ _ _ _, Below.refl _ _, Nat.le_refl _⟩
theorem OwnInts.start {w w1 : World} (h : Below w.heap.size w w1) : OwnInts w.heap.size (.slice none 0 0) [] w w1 := ⟨World.ownsRow_nil _ _ _ _, h, h.size⟩
section
variable {B : Nat} {v : Value} {l : List Int} {W0 w w' : World}
theorem OwnInts.after (h : OwnInts B v l W0 w) (k : Below w.heap.size w w') : OwnInts B v l W0 w' := by
  refine ⟨h.1.kept (row := none) ⟨k.os, k.tape, k.output, k.size, fun i hi _ => k.block i hi⟩ (by cases hv : v.ownBlock <;> simp), h.2.1.trans (k.mono h.2.2), Nat.le_trans h.2.2 k.size⟩
theorem OwnInts.alloc (h : OwnInts B v l W0 w) (o : Obj) : OwnInts B v l W0 (w.alloc o) := h.after ((Below.refl _ _).alloc (Nat.le_refl _) _)
theorem OwnInts.ints (h : OwnInts B v l W0 w) : Ints w v l := by
  rcases h.1.2 with ⟨rfl, hn⟩ | ⟨g, cap, cur, rfl, hb, hg, _⟩
  · obtain rfl : l = [] := List.eq_nil_of_length_eq_zero hn
    exact ⟨none, 0, rfl, fun i hi => absurd hi (by simp)⟩
  · refine ⟨some ⟨g, 0, none⟩, cap, rfl, fun i hi => ⟨g, 0, rfl, ?_⟩⟩
    have := h.1.cells (g := g) rfl i (.int .i64 l[i]) (by simp [intVals, hi])
    rw [show (⟨g, 0, none⟩ : Addr).add i = ⟨g, 0 + i, none⟩ by unfold Addr.add; split <;> simp_all] at this
    exact this
theorem OwnInts.below (h : OwnInts W0.heap.size v l W0 w) : Below W0.heap.size W0 w := h.2.1
end
/-- 'l = append(l, n)' -/
theorem wpList_append_int {ops : Array Oper} {rest : List Oper} {o : Oper} {a : Act} {Q : Exit → Act → World → Prop} (hgd : o.guard = none) (s x : Operand)
    (ho : o.op = .call { callee := .builtin .append, args := #[s, x], argTypes := #[68, 68] })
    (B : Nat) (v : Value) (l : List Int) (hs : a.eval s = v) (W0 w0 : World) (c : Int) (b : Nat) (hzb : w0.heap.size = b) (hb : OwnInts B v l W0 w0)
    (hx : a.eval x = .slice (some ⟨b, 0, none⟩) 1 1) (hlen : l.length ≤ 1000000000)
    (h : ∀ v' w', OwnInts B v' (l ++ [c]) W0 w' → wpList Tryd.prog ops Q rest (a.put o.dst v') w') : wpList Tryd.prog ops Q (o :: rest) a (w0.alloc (.cells #[.int .i64 c] 3)) := by
  subst hzb
  obtain ⟨i0, hi, hz0, hz1, hz2⟩ := info_parts infoInt
  have hb' := hb.alloc (.cells #[.int .i64 c] 3)
  refine wpList_append_own _ hgd s x 68 ho B 3 i0 (.int .i64 0) 1 8 Tryd.underlying68 hi hz0 hz1 hz2 rfl (by decide) v l.length (intVals l) hs hb'.1 ⟨w0.heap.size, 0, none⟩ 1 1 [.int .i64 c] hx rfl ?_ ?_ ?_ ?_ hb'.2.2 ?_
  · intro j u hj
    match j, hj with
    | 0, hj => simp at hj; subst hj; simp [Addr.add]
    | (j + 1), hj => simp at hj
  · intro u hu
    simp at hu
    subst hu
    rfl
  · unfold maxLen; omega
  · omega
  · intro v' w' ho' hg _
    refine h v' w' ⟨?_, hb'.2.1.grown hg hb'.2.2 (fun k hk => (hb'.1.lt k hk).1), Nat.le_trans hb'.2.2 hg.size⟩
    simpa [intVals] using ho'
end Go.Proofs.YtkinnlfjcmhcoaaDoor.W
