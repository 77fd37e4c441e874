/-
  The reference of pairs: Get, Set, Del.
-/
import Derived.Test.YtpjndgcliegloaaTRef
import Derived.Test.YtpjndgcliegloaaCEq
namespace Go.Proofs.Ytpjndgcliegloaa.W
open Go.RowKit

/-- the slice value v is a row of the call's own that holds the pairs l; nothing below B has turned -/
def OwnPrs (B : Nat) (v : Value) (l : List KV) (W0 w : World) : Prop := w.ownsRow B 51 2 v l.length (prVals l) ∧ Below B W0 w ∧ B ≤ w.heap.size
theorem OwnPrs_nil (w : World) : OwnPrs w.heap.size (.slice none 0 0) [] w w := ⟨World.ownsRow_nil _ _ _ _, Below.refl _ _, Nat.le_refl _⟩
section
variable {B : Nat} {v : Value} {l : List KV} {W0 w w' : World}
theorem OwnPrs.after (h : OwnPrs B v l W0 w) (k : Below w.heap.size w w') : OwnPrs B v l W0 w' :=
  ⟨h.1.kept (row := none) ⟨k.os, k.tape, k.output, k.size, fun i hi _ => k.block i hi⟩ (by cases hv : v.ownBlock <;> simp), h.2.1.trans (k.mono h.2.2), Nat.le_trans h.2.2 k.size⟩
theorem OwnPrs.alloc (h : OwnPrs B v l W0 w) (o : Obj) : OwnPrs B v l W0 (w.alloc o) := h.after ((Below.refl _ _).alloc (Nat.le_refl _) _)
theorem OwnPrs.prs (h : OwnPrs B v l W0 w) : Prs w v l := Prs.of_own h.1
theorem OwnPrs.below (h : OwnPrs W0.heap.size v l W0 w) : Below W0.heap.size W0 w := h.2.1
end
/-- 'l = append(l, m...)' -/
theorem wpList_append_ownPrs {ops : Array Oper} {rest : List Oper} {o : Oper} {a : Act} {Q : Exit → Act → World → Prop} (w : World) (hgd : o.guard = none) (s x : Operand) (T : TypeId) (hT : Try.prog.underlying T = some (.slice 51))
    (ho : o.op = .call { callee := .builtin .append, args := #[s, x], argTypes := #[T, T] }) (B : Nat) (v y : Value) (l m : List KV) (hs : a.eval s = v) (hx : a.eval x = y) (W0 : World)
    (hown : OwnPrs B v l W0 w) (hP : Prs w y m) (hlen : l.length + m.length ≤ 1000000000)
    (h : ∀ v' w', OwnPrs B v' (l ++ m) W0 w' → wpList Try.prog ops Q rest (a.put o.dst v') w') : wpList Try.prog ops Q (o :: rest) a w :=
  wpList_append_prs w hgd s x T hT ho B v y l m hs hx hown.1 hP hown.2.2 hlen fun v' w' h1 h2 _ => h v' w' ⟨h1, hown.2.1.grown h2 hown.2.2 (fun k hk => (hown.1.lt k hk).1), Nat.le_trans hown.2.2 h2.size⟩

section
variable {w : World} {A : Option Addr} {cap : Nat} {l : List KV}
theorem prs_from (h : Prs w (.slice A l.length cap) l) (i : Nat) (hi : i ≤ l.length) :
    ∃ A' c', (∀ W, (Instr.slice 26 (.slice A l.length cap) (some (.int .i64 i)) none none).run Try.prog W = .ok (.slice A' (l.drop i).length c') W) ∧ Prs w (.slice A' (l.drop i).length c') (l.drop i) := by
  obtain ⟨A0, cap0, e, hcap, hc⟩ := h
  cases e
  refine ⟨_, cap - i, fun W => ?_, ⟨if cap = i then A else A.map (·.add (i * 2)), cap - i, rfl, by rw [List.length_drop]; omega, fun j hj => ?_⟩⟩
  · obtain ⟨i0, hi0, hz0, hz1, hz2⟩ := info_parts infoPair
    have hr := run_slice_l (P := Try.prog) (w := W) 26 A l.length cap Try.underlying26 .i64 i (by omega) (by omega)
    rw [show Try.prog.elem 26 = 51 by kernel_rfl, run_sizeOf W hi0, show Try.prog.cellsOf 51 = 2 by kernel_rfl] at hr
    rw [hr, List.length_drop]
    simp [Result.andThen, sliced]
  · rw [List.length_drop] at hj
    obtain ⟨b, off, rfl, h1, h2⟩ := hc (i + j) (by omega)
    refine ⟨b, off + i * 2, ?_, ?_, ?_⟩
    · rw [if_neg (by omega), Option.map_some, add_far]
    · rw [List.getElem_drop, show off + i * 2 + j * 2 = off + (i + j) * 2 by omega]; exact h1
    · rw [List.getElem_drop, show off + i * 2 + j * 2 + 1 = off + (i + j) * 2 + 1 by omega]; exact h2
theorem prs_upto (T : TypeId) (hT : Try.prog.underlying T = some (.slice (Try.prog.elem T))) (hE : Try.prog.elem T = 51) (h : Prs w (.slice A l.length cap) l) (i : Nat) (hi : i ≤ l.length) :
    (∀ W, (Instr.slice T (.slice A l.length cap) none (some (.int .i64 i)) none).run Try.prog W = .ok (.slice A i cap) W) ∧ Prs w (.slice A i cap) (l.take i) := by
  obtain ⟨A0, cap0, e, hcap, hc⟩ := h
  cases e
  refine ⟨fun W => ?_, ⟨A, cap, by rw [List.length_take, Nat.min_eq_left hi], by rw [List.length_take]; omega, fun j hj => ?_⟩⟩
  · obtain ⟨i0, hi0, hz0, hz1, hz2⟩ := info_parts infoPair
    have hr := run_slice_h (P := Try.prog) (w := W) T A l.length cap hT .i64 i (by omega) (by omega)
    rw [hE, run_sizeOf W hi0, show Try.prog.cellsOf 51 = 2 by kernel_rfl] at hr
    rw [hr]
    cases A <;> simp [Result.andThen, sliced]
    rename_i a
    rcases a with ⟨b, off, x⟩
    cases x <;> simp [Addr.add]
  · rw [List.length_take] at hj
    obtain ⟨b, off, rfl, h1, h2⟩ := hc j (by omega)
    exact ⟨b, off, rfl, by rw [List.getElem_take]; exact h1, by rw [List.getElem_take]; exact h2⟩
end

set_option maxHeartbeats 2000000 in
theorem rGet (s : Value) (l : List KV) (k : ByteArray) (w : World) (hP : Prs w s l) (hu : Up l) (hz : l.length ≤ 1000000000) :
    Calls Try.prog 14 #[s, .string k] w fun e w' => e = .returned (retGet (lget l k)) ∧ w' = w := by
  have H1 := Lib.hid (rAt s l k w hP hz)
  obtain ⟨A, cap, rfl, hcap, hc⟩ := hP
  have hN := latN_le l k
  rcases latN_parts hu k with ⟨h1, h2, _⟩ | ⟨h1, h2, h3, _⟩ | ⟨h1, h2, h3, _, _⟩
  · rw [h2]
    generalize latN l k = i at *
    have hl : ¬ (i : Int) < l.length := by omega
    unfold retGet
    simp only [Option.getD_none, Option.isSome_none]
    clear hc hu h2
    go_enter Try.func14, Try.ntmps14
    go_wp2_with fail
    refine H1.out.mono ?_
    rintro e w' ⟨rfl, rfl⟩
    go_wp2
    go_returns
    exact ⟨rfl, rfl⟩
  · rw [h3]
    generalize latN l k = i at *
    obtain ⟨b, off, rfl, c1, c2⟩ := hc i h1
    have hl : (i : Int) < l.length := by omega
    have hl0 : (0 : Int) ≤ i := by omega
    have hne := str_ne h2
    generalize (l[i]'h1).1 = x at *
    unfold retGet
    simp only [Option.getD_none, Option.isSome_none]
    clear hc hu h2 h3
    go_enter Try.func14, Try.ntmps14
    go_wp2_with fail
    refine H1.out.mono ?_
    rintro e w' ⟨rfl, rfl⟩
    go_wp2
    go_returns
    exact ⟨rfl, rfl⟩
  · rw [h3]
    generalize latN l k = i at *
    obtain ⟨b, off, rfl, c1, c2⟩ := hc i h1
    have hl : (i : Int) < l.length := by omega
    have hl0 : (0 : Int) ≤ i := by omega
    rw [h2] at c1
    generalize (l[i]'h1).2 = x at *
    unfold retGet
    simp only [Option.getD_some, Option.isSome_some]
    clear hc hu h2 h3
    go_enter Try.func14, Try.ntmps14
    go_wp2_with fail
    refine H1.out.mono ?_
    rintro e w' ⟨rfl, rfl⟩
    go_wp2
    go_returns
    exact ⟨rfl, rfl⟩
end Go.Proofs.Ytpjndgcliegloaa.W
