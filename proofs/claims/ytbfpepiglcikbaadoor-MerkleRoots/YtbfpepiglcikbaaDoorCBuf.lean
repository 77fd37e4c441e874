/-
  A buffer of bytes that a call owns; what has turned in the world.
-/
import Derived.Test.YtbfpepiglcikbaaDoorProg
import Derived.Test.YtbfpepiglcikbaaDoorCBlk
import Derived.Lib.BufSteps
import Derived.WalkSpells
import Derived.WalkLawsBesides
namespace Go.Proofs.YtbfpepiglcikbaaDoor.W
open Go.RowKit

theorem infoU8 : (Tryd.prog.info? 5).map (fun i => (i.zero, i.size, i.bytes)) = some (some (.int .u8 0), 1, 1) := by kernel_rfl

/-- bytes as cells -/
def cells (l : List UInt8) : List Value := l.map fun b => Value.int .u8 b.toNat
theorem cells_append (a b : List UInt8) : cells (a ++ b) = cells a ++ cells b := by simp [cells]
theorem cells_len (a : List UInt8) : (cells a).length = a.length := by simp [cells]
theorem strCells_eq (s : ByteArray) : Lib.strCells s = cells s.data.toList := rfl

theorem OwnBuf_nil (w : World) (e : TypeId) : Lib.OwnBuf w.heap.size e (.slice none 0 0) 0 [] w w :=
  ⟨World.ownsRowF_nil _ _ _ _, Below.refl _ _, Nat.le_refl _⟩
/-- 'string(b)', b a buffer that the call owns -/
theorem run_string (B : Nat) (v : Value) (l : List UInt8) (W0 w : World) (h : Lib.OwnBuf B 5 v l.length (cells l) W0 w) :
    (convert 47 9 v).run Tryd.prog w = .ok (.string (bs l)) w := by
  rcases h.1.2 with ⟨rfl, hn⟩ | ⟨g, cap, cur, fz, rfl, _⟩
  · have hl : l = [] := List.eq_nil_of_length_eq_zero hn
    subst hl
    exact run_convert_bytes_nil w 47 5 Tryd.underlying47 Tryd.underlying5 0 0 9 Tryd.underlying9
  · refine run_convert_bytes_back w 47 9 5 ⟨g, 0, none⟩ cap l Tryd.underlying47 Tryd.underlying5 Tryd.underlying9 ?_
    intro j hj
    exact h.1.cells (g := g) rfl j _ (by simp [cells, hj])

/-- 'buf = append(buf, c, d)': the two new bytes lie in the block that the statement has just laid for its variadic slice. -/
theorem wpList_append_two {P : Program} {ops : Array Oper} {rest : List Oper} {o : Oper} {a : Act} {Q : Exit → Act → World → Prop} (hgd : o.guard = none) (s x : Operand) (t : TypeId)
    (ho : o.op = .call { callee := .builtin .append, args := #[s, x], argTypes := #[t, t] })
    (B : Nat) (e : TypeId) (i : TypeInfo) (ht : P.underlying t = some (.slice e)) (hi : P.info? e = some i) (hz : i.zero = some (.int .u8 0)) (hsize : i.size = 1) (hby : i.bytes = 1)
    (v : Value) (n : Nat) (xs : List Value) (hs : a.eval s = v) (W0 w0 : World) (c d : Int) (hb : Lib.OwnBuf B e v n xs W0 w0)
    (hx : a.eval x = .slice (some ⟨w0.heap.size, 0, none⟩) 2 2) (hlen : n + 2 ≤ 140737488355328)
    (h : ∀ v' w', Lib.OwnBuf B e v' (n + 2) (xs ++ [.int .u8 c, .int .u8 d]) W0 w' → wpList P ops Q rest (a.put o.dst v') w') : wpList P ops Q (o :: rest) a (w0.alloc (.cells #[.int .u8 c, .int .u8 d] e)) := by
  have hb' := hb.alloc (.cells #[.int .u8 c, .int .u8 d] e)
  refine wpList_append_ownF _ hgd s x t ho B e i (.int .u8 0) 1 1 ht hi hz hsize hby rfl (by decide) v n xs hs hb'.1 ⟨w0.heap.size, 0, none⟩ 2 2 [.int .u8 c, .int .u8 d] hx rfl ?_ ?_ (by unfold maxLen; omega) (by omega) hb'.2.2 ?_
  · intro j u hj
    match j, hj with
    | 0, hj => simp at hj; subst hj; simp [Addr.add]
    | 1, hj => simp at hj; subst hj; simp [Addr.add]
    | (j + 2), hj => simp at hj
  · intro u hu
    simp at hu
    rcases hu with rfl | rfl <;> rfl
  · intro v' w' ho' hg _
    exact h v' w' (hb'.grown ho' hg)

/-- 'make([]byte, 0, n)' -/
theorem run_make0 (n : Nat) (h : n ≤ 140737488355328) (w : World) : (Instr.makeSlice 47 (.int .i64 0) (.int .i64 n)).run Tryd.prog w = .ok (.slice (some ⟨w.heap.size, 0, none⟩) 0 n) (w.alloc (.cells (madeCells (Value.int .u8 0).cells n) 5)) := by
  obtain ⟨i0, hi, hz0, hz1, hz2⟩ := info_parts infoU8
  have hr := run_make (P := Tryd.prog) w 47 5 i0 _ Tryd.underlying47 hi hz0 .i64 .i64 0 n (by omega) (by omega) (by rw [hz2]; omega) (by omega)
  rw [hz1] at hr
  simpa using hr
theorem OwnBuf_made (n : Nat) (h : n ≤ maxLen) (w : World) : Lib.OwnBuf w.heap.size 5 (.slice (some ⟨w.heap.size, 0, none⟩) 0 n) 0 [] w (w.alloc (.cells (madeCells (Value.int .u8 0).cells n) 5)) := by
  exact ⟨World.ownsRowF_of (World.ownsRow_made w _ n (Nat.le_refl _) h (by rw [size_madeCells, Nat.mul_one])), (Below.refl _ _).alloc (Nat.le_refl _) _, by simp⟩
theorem own_made (n : Nat) (h : n ≤ maxLen) (w : World) : (w.alloc (.cells (madeCells (Value.int .u8 0).cells n) 5)).ownsRow w.heap.size 5 1 (.slice (some ⟨w.heap.size, 0, none⟩) 0 n) 0 [] ∧ Below w.heap.size w (w.alloc (.cells (madeCells (Value.int .u8 0).cells n) 5)) :=
  ⟨World.ownsRow_made w _ n (Nat.le_refl _) h (by rw [size_madeCells, Nat.mul_one]), (Below.refl _ _).alloc (Nat.le_refl _) _⟩
end Go.Proofs.YtbfpepiglcikbaaDoor.W
