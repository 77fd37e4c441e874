/-
  The reference's Read: states that answer alike, and what it keeps.
-/
import Derived.Test.YtkinnlfjcmhcoaaDoorYXRHead
import Derived.Test.YtkinnlfjcmhcoaaDoorYWRefLs
namespace Go.Proofs.YtkinnlfjcmhcoaaDoor.W
open Go.RowKit

/-! ### States that answer alike -/
def Lk (a b : ByteArray × Int) : Prop := a.2 = b.2 ∧ (a.2 = 0 → a.1 = b.1)
theorem Lk.refl (a : ByteArray × Int) : Lk a a := ⟨rfl, fun _ => rfl⟩
theorem Lk.trans {a b c : ByteArray × Int} (h : Lk a b) (k : Lk b c) : Lk a c := ⟨h.1.trans k.1, fun e => (h.2 e).trans (k.2 (h.1 ▸ e))⟩
theorem lk_text {a b : ByteArray × Int} (h : Lk a b) : Lk (stText a.1 a.2).1 (stText b.1 b.2).1 ∧ (stText a.1 a.2).2 = (stText b.1 b.2).2 := by
  obtain ⟨a1, a2⟩ := a
  obtain ⟨b1, b2⟩ := b
  obtain ⟨h1, h2⟩ := h
  simp only at h1 h2
  subst h1
  by_cases he : a2 = 0
  · rw [h2 he]
    exact ⟨Lk.refl _, rfl⟩
  · simp only [stText_err _ he]
    exact ⟨⟨rfl, fun e => absurd e he⟩, trivial⟩
theorem lk_num {a b : ByteArray × Int} (h : Lk a b) : Lk (stNum a.1 a.2).1 (stNum b.1 b.2).1 ∧ (stNum a.1 a.2).2 = (stNum b.1 b.2).2 := by
  obtain ⟨a1, a2⟩ := a
  obtain ⟨b1, b2⟩ := b
  obtain ⟨h1, h2⟩ := h
  simp only at h1 h2
  subst h1
  by_cases he : a2 = 0
  · rw [h2 he]
    exact ⟨Lk.refl _, rfl⟩
  · simp only [stNum_err _ he]
    exact ⟨⟨rfl, fun e => absurd e he⟩, trivial⟩
theorem lk_list {a b : ByteArray × Int} (h : Lk a b) : Lk (stList a.1 a.2).1 (stList b.1 b.2).1 ∧ (stList a.1 a.2).2 = (stList b.1 b.2).2 := by
  obtain ⟨a1, a2⟩ := a
  obtain ⟨b1, b2⟩ := b
  obtain ⟨h1, h2⟩ := h
  simp only at h1 h2
  subst h1
  by_cases he : a2 = 0
  · rw [h2 he]
    exact ⟨Lk.refl _, rfl⟩
  · simp only [stList_err _ he]
    exact ⟨⟨rfl, fun e => absurd e he⟩, trivial⟩
theorem lk_done {a b : ByteArray × Int} (h : Lk a b) : stDone a.1 a.2 = stDone b.1 b.2 := by
  obtain ⟨a1, a2⟩ := a
  obtain ⟨b1, b2⟩ := b
  obtain ⟨h1, h2⟩ := h
  simp only at h1 h2
  subst h1
  by_cases he : a2 = 0
  · rw [h2 he]
  · simp only [stDone, he, ne_eq, not_false_eq_true, if_true]
theorem lk_nears : ∀ (k : Nat) (a b : ByteArray × Int) (acc : List KV), Lk a b → Lk (nearFrom k a acc).1 (nearFrom k b acc).1 ∧ (nearFrom k a acc).2 = (nearFrom k b acc).2
  | 0, _, _, _, h => ⟨h, rfl⟩
  | k + 1, a, b, acc, h => by
    have h1 := lk_text h
    have h2 := lk_text h1.1
    simp only [nearFrom]
    rw [h1.2, h2.2]
    exact lk_nears k _ _ _ h2.1
theorem lk_pths : ∀ (k : Nat) (a b : ByteArray × Int) (acc : List (List (List UInt8))), Lk a b → Lk (pathsFrom k a acc).1 (pathsFrom k b acc).1 ∧ (pathsFrom k a acc).2 = (pathsFrom k b acc).2
  | 0, _, _, _, h => ⟨h, rfl⟩
  | k + 1, a, b, acc, h => by
    have h1 := lk_list h
    simp only [pathsFrom]
    rw [h1.2]
    exact lk_pths k _ _ _ h1.1
theorem lk_tail {n1 n2 n3 : Nat} {acc : List KV} {a b : ByteArray × Int} (h : Lk a b) : rdTail n1 n2 n3 acc a.1 a.2 = rdTail n1 n2 n3 acc b.1 b.2 := by
  have h1 := lk_num h
  have h2 := lk_pths (stNum b.1 b.2).2 _ _ [] h1.1
  have h3 := lk_done h2.1
  unfold rdTail
  rw [h1.2, h1.1.1]
  simp only
  rw [h3, h2.2]

/-! ### The boxes -/
structure Core (w : World) (br bx : Nat) (s : ByteArray) (e n1 n2 : Int) (t : Bool) (nv pv : Value) (W : World) : Prop where
  res : Blk W w.heap.size 28 #[.int .i64 0, .int .i64 0, .bool false, .slice none 0 0, .slice none 0 0]
  rd : Blk W br 94 #[.string s, .int .i64 e]
  x : Blk W bx 28 #[.int .i64 n1, .int .i64 n2, .bool t, nv, pv]
  s_ : Since w W
  l1 : w.heap.size < br
  l2 : br < bx
section
variable {w W W' : World} {br bx : Nat} {s s' : ByteArray} {e e' n1 n2 : Int} {t : Bool} {nv pv : Value}
theorem Core.next (h : Core w br bx s e n1 n2 t nv pv W) (k : Below W.heap.size W W') : Core w br bx s e n1 n2 t nv pv W' := ⟨h.res.below k h.res.lt, h.rd.below k h.rd.lt, h.x.below k h.x.lt, since_of (step_below h.s_.below k), h.l1, h.l2⟩
theorem Core.alloc (h : Core w br bx s e n1 n2 t nv pv W) (o : Obj) : Core w br bx s e n1 n2 t nv pv (W.alloc o) := h.next ((Below.refl _ W).alloc (Nat.le_refl _) o)
theorem Core.setR (h : Core w br bx s e n1 n2 t nv pv W) (s' : ByteArray) (e' : Int) : Core w br bx s' e' n1 n2 t nv pv ((W.setCell ⟨br, 0, none⟩ (.string s')).setCell ⟨br, 1, none⟩ (.int .i64 e')) := by
  have h1 := h.l1
  have h2 := h.l2
  exact ⟨(h.res.far (p := ⟨br, 0, none⟩) (by simp only; omega) _).far (p := ⟨br, 1, none⟩) (by simp only; omega) _, (h.rd.set_ 0 _).set_ 1 _, (h.x.far (p := ⟨br, 0, none⟩) (by simp only; omega) _).far (p := ⟨br, 1, none⟩) (by simp only; omega) _, since_put (since_put h.s_ (by simp only; omega) _) (by simp only; omega) _, h1, h2⟩
theorem Core.far (h : Core w br bx s e n1 n2 t nv pv W) {p : Addr} (hp : bx < p.block) (v : Value) : Core w br bx s e n1 n2 t nv pv (W.setCell p v) := by
  have h1 := h.l1
  have h2 := h.l2
  exact ⟨h.res.far (by omega) _, h.rd.far (by omega) _, h.x.far (by omega) _, since_put h.s_ (by omega) _, h1, h2⟩
theorem Core.put3 (h : Core w br bx s e n1 n2 t nv pv W) (v : Value) : Core w br bx s e n1 n2 t v pv (W.setCell ⟨bx, 3, none⟩ v) := by
  have h1 := h.l1
  have h2 := h.l2
  exact ⟨h.res.far (p := ⟨bx, 3, none⟩) (by simp only; omega) _, h.rd.far (p := ⟨bx, 3, none⟩) (by simp only; omega) _, h.x.set_ 3 v, since_put h.s_ (by simp only; omega) _, h1, h2⟩
theorem Core.put4 (h : Core w br bx s e n1 n2 t nv pv W) (v : Value) : Core w br bx s e n1 n2 t nv v (W.setCell ⟨bx, 4, none⟩ v) := by
  have h1 := h.l1
  have h2 := h.l2
  exact ⟨h.res.far (p := ⟨bx, 4, none⟩) (by simp only; omega) _, h.rd.far (p := ⟨bx, 4, none⟩) (by simp only; omega) _, h.x.set_ 4 v, since_put h.s_ (by simp only; omega) _, h1, h2⟩
theorem Core.grown (h : Core w br bx s e n1 n2 t nv pv W) {row : Option Nat} (k : W.grownBy W' row) (hr : ∀ g, row = some g → bx < g) : Core w br bx s e n1 n2 t nv pv W' := by
  have h1 := h.l1
  have h2 := h.l2
  exact ⟨h.res.grown k (fun e => by have := hr _ e.symm; omega), h.rd.grown k (fun e => by have := hr _ e.symm; omega), h.x.grown k (fun e => by have := hr _ e.symm; omega), since_of (h.s_.below.grown k h.s_.2.2.2.1 (fun g hg => by have := hr g hg; omega)), h1, h2⟩
theorem Core.lt (h : Core w br bx s e n1 n2 t nv pv W) : bx < W.heap.size := h.x.lt
theorem Core.r0 (h : Core w br bx s e n1 n2 t nv pv W) : W.cell? ⟨br, 0, none⟩ = some (.string s) := h.rd.c 0 rfl
theorem Core.r1 (h : Core w br bx s e n1 n2 t nv pv W) : W.cell? ⟨br, 1, none⟩ = some (.int .i64 e) := h.rd.c 1 rfl
theorem Core.rf (h : Core w br bx s e n1 n2 t nv pv W) (i : Nat) : W.frozen? ⟨br, i, none⟩ = false := h.rd.frozen i
theorem Core.x3 (h : Core w br bx s e n1 n2 t nv pv W) : W.cell? ⟨bx, 3, none⟩ = some nv := h.x.c 3 rfl
theorem Core.x4 (h : Core w br bx s e n1 n2 t nv pv W) : W.cell? ⟨bx, 4, none⟩ = some pv := h.x.c 4 rfl
theorem Core.xf (h : Core w br bx s e n1 n2 t nv pv W) (i : Nat) : W.frozen? ⟨bx, i, none⟩ = false := h.x.frozen i
/-- where Read ends: the result's block is written -/
theorem core_start {w1 : World} (hs : Since w w1) (hr : Blk w1 w.heap.size 28 #[.int .i64 0, .int .i64 0, .bool false, .slice none 0 0, .slice none 0 0]) : Core w w1.heap.size (w1.heap.size + 1) s e n1 n2 t nv pv ((w1.alloc (.cells #[.string s, .int .i64 e] 94)).alloc (.cells #[.int .i64 n1, .int .i64 n2, .bool t, nv, pv] 28)) := by
  have h1 := Blk.new w1 94 #[.string s, .int .i64 e]
  have b1 : Below w1.heap.size w1 (w1.alloc (.cells #[.string s, .int .i64 e] 94)) := (Below.refl _ w1).alloc (Nat.le_refl _) _
  have e1 : (w1.alloc (.cells #[.string s, .int .i64 e] 94)).heap.size = w1.heap.size + 1 := by simp
  have hr1 := hr.alloc (.cells #[.string s, .int .i64 e] 94)
  have hlt := hr.lt
  generalize w1.alloc (.cells #[.string s, .int .i64 e] 94) = W1 at *
  have h2 := Blk.new W1 28 #[.int .i64 n1, .int .i64 n2, .bool t, nv, pv]
  rw [e1] at h2
  exact ⟨hr1.alloc _, h1.alloc _, h2, since_of (step_below hs.below (b1.alloc b1.size _)), hlt, Nat.lt_succ_self _⟩
end

/-- within a round of the loop over neighbours: the pair's box at block g -/
structure Mid (w : World) (br bx B g : Nat) (s : ByteArray) (e n1 n2 : Int) (t : Bool) (nv : Value) (k : Nat) (acc : List KV) (x y : ByteArray) (W : World) : Prop where
  core : Core w br bx s e n1 n2 t nv (.slice none 0 0) W
  row : W.ownsRow B 32 2 nv k (prVals acc)
  p : Blk W g 32 #[.string x, .string y]
  lt : bx < B
  bg : B ≤ g
  off : ∀ j, nv.ownBlock = some j → j < g
section
variable {w W W' : World} {br bx B g k : Nat} {s s' : ByteArray} {e e' n1 n2 : Int} {t : Bool} {nv : Value} {acc : List KV} {x y : ByteArray}
theorem mid_row (h : Mid w br bx B g s e n1 n2 t nv k acc x y W) {b i : Nat} (hb : b < B ∨ b = g) (v : Value) : (W.setCell ⟨b, i, none⟩ v).ownsRow B 32 2 nv k (prVals acc) := by
  refine h.row.kept (row := some b) ⟨rfl, rfl, rfl, by simp [World.setCell], fun k _ hk => Below.heap_setCell _ _ _ _ (fun e => hk (by simp [e]))⟩ (.inr fun e => ?_)
  have h1 := h.row.lt b e
  have h2 := h.off b e
  omega
theorem Mid.next (h : Mid w br bx B g s e n1 n2 t nv k acc x y W) (b : Below W.heap.size W W') : Mid w br bx B g s e n1 n2 t nv k acc x y W' := ⟨h.core.next b, own_kept h.row b, h.p.below b h.p.lt, h.lt, h.bg, h.off⟩
theorem Mid.alloc (h : Mid w br bx B g s e n1 n2 t nv k acc x y W) (o : Obj) : Mid w br bx B g s e n1 n2 t nv k acc x y (W.alloc o) := h.next ((Below.refl _ W).alloc (Nat.le_refl _) o)
theorem Mid.setR (h : Mid w br bx B g s e n1 n2 t nv k acc x y W) (s' : ByteArray) (e' : Int) : Mid w br bx B g s' e' n1 n2 t nv k acc x y ((W.setCell ⟨br, 0, none⟩ (.string s')).setCell ⟨br, 1, none⟩ (.int .i64 e')) := by
  have h1 := h.core.l2
  have h2 := h.lt
  have h3 := h.bg
  have r1 := mid_row h (b := br) (i := 0) (.inl (by omega)) (.string s')
  refine ⟨h.core.setR s' e', r1.kept (row := some br) ⟨rfl, rfl, rfl, by simp [World.setCell], fun k _ hk => Below.heap_setCell _ _ _ _ (fun e => hk (by simp [e]))⟩ (.inr fun e => by have := (h.row.lt br e).1; omega), (h.p.far (p := ⟨br, 0, none⟩) (by simp only; omega) _).far (p := ⟨br, 1, none⟩) (by simp only; omega) _, h2, h3, h.off⟩
theorem Mid.setX (h : Mid w br bx B g s e n1 n2 t nv k acc x y W) (z : ByteArray) : Mid w br bx B g s e n1 n2 t nv k acc z y (W.setCell ⟨g, 0, none⟩ (.string z)) :=
  ⟨h.core.far (p := ⟨g, 0, none⟩) (by have := h.lt; have := h.bg; simp only; omega) _, mid_row h (.inr rfl) _, h.p.set_ 0 _, h.lt, h.bg, h.off⟩
theorem Mid.setY (h : Mid w br bx B g s e n1 n2 t nv k acc x y W) (z : ByteArray) : Mid w br bx B g s e n1 n2 t nv k acc x z (W.setCell ⟨g, 1, none⟩ (.string z)) :=
  ⟨h.core.far (p := ⟨g, 1, none⟩) (by have := h.lt; have := h.bg; simp only; omega) _, mid_row h (.inr rfl) _, h.p.set_ 1 _, h.lt, h.bg, h.off⟩
theorem Mid.p0 (h : Mid w br bx B g s e n1 n2 t nv k acc x y W) : W.cell? ⟨g, 0, none⟩ = some (.string x) := h.p.c 0 rfl
theorem Mid.p1 (h : Mid w br bx B g s e n1 n2 t nv k acc x y W) : W.cell? ⟨g, 1, none⟩ = some (.string y) := h.p.c 1 rfl
theorem Mid.pf (h : Mid w br bx B g s e n1 n2 t nv k acc x y W) (i : Nat) : W.frozen? ⟨g, i, none⟩ = false := h.p.frozen i
end

/-! ### One more -/
theorem own_form1 {w : World} {B k n : Nat} {e : TypeId} {v : Value} {xs : List Value} (h : w.ownsRow B e k v (n + 1) xs) : ∃ g cap, v = .slice (some ⟨g, 0, none⟩) (n + 1) cap := by
  rcases h.2 with ⟨_, h0⟩ | ⟨g, cap, cur, rfl, _⟩
  · cases h0
  · exact ⟨g, cap, rfl⟩
/-- 'l = append(l, u)' of lists -/
theorem wpList_append_pth {ops : Array Oper} {rest : List Oper} {o : Oper} {a : Act} {Q : Exit → Act → World → Prop} (hgd : o.guard = none) (s x : Operand)
    (ho : o.op = .call { callee := .builtin .append, args := #[s, x], argTypes := #[26, 26] }) (B k : Nat) (v u : Value) (us : List Value) (hs : a.eval s = v) (Y : World) (b : Nat) (hzb : Y.heap.size = b) (hx : a.eval x = .slice (some ⟨b, 0, none⟩) 1 1)
    (hown : Y.ownsRow B 34 1 v k us) (hB : B ≤ Y.heap.size) (hu : u.oneCell' = true) (hk : k ≤ 1000000)
    (h : ∀ gg cap w', w'.ownsRow B 34 1 (.slice (some ⟨gg, 0, none⟩) (k + 1) cap) (k + 1) (us ++ [u]) → (Y.alloc (.cells #[u] 34)).grownBy w' v.ownBlock → (v.ownBlock = some gg ∨ gg = Y.heap.size + 1) → wpList Tryd.prog ops Q rest (a.put o.dst (.slice (some ⟨gg, 0, none⟩) (k + 1) cap)) w') : wpList Tryd.prog ops Q (o :: rest) a (Y.alloc (.cells #[u] 34)) := by
  subst hzb
  obtain ⟨i0, hi, hz0, hz1, hz2⟩ := info_parts infoSl
  refine wpList_plain hgd fun K hK => ?_
  obtain ⟨v', w', hr, h2, h3, _, h5⟩ := run_append_own_at (P := Tryd.prog) (Y.alloc (.cells #[u] 34)) B 26 o.type 34 i0 (.slice none 0 0) 1 24 Tryd.underlying26 hi hz0 hz1 hz2 rfl (by decide) v k us (own_kept hown ((Below.refl _ Y).alloc (Nat.le_refl _) _)) ⟨Y.heap.size, 0, none⟩ 1 1 [u] rfl (fun j z hj => by
    match j, hj with
    | 0, hj => simp at hj; subst hj; simp [Addr.add]
    | (j + 1), hj => simp at hj) (fun z hz => by rw [List.mem_singleton] at hz; rw [hz]; exact hu) (by unfold maxLen; omega) (by omega) (by simp; omega)
  simp [Oper.wp, Oper.upon, execOp, ho, resolve, invoke, builtin, hs, hx, hr, Result.andThen]
  obtain ⟨gg, cap, rfl⟩ := own_form1 h2
  refine hK _ _ (h gg cap w' h2 h3 ?_)
  rcases h5 with h5 | h5
  · exact .inl h5.symm
  · right
    have e : gg = (Y.alloc (.cells #[u] 34)).heap.size := by simpa [Value.ownBlock] using h5
    rw [e]
    simp
theorem Lk.symm {a b : ByteArray × Int} (h : Lk a b) : Lk b a := ⟨h.1.symm, fun e => (h.2 (h.1.trans e)).symm⟩

theorem txs_mid {w5 : World} {br : Nat} {s5 : ByteArray} {e5 : Int} {u : Value} {la : List ByteArray} (hT : Txs w5 w5.heap.size u la) (hu : ∀ g, u.ownBlock = some g → br < g ∧ g < w5.heap.size) :
    Txs (((w5.alloc (.cells #[.string s5, .int .i64 e5] 94)).setCell ⟨br, 0, none⟩ (.string s5)).setCell ⟨br, 1, none⟩ (.int .i64 e5)) (((w5.alloc (.cells #[.string s5, .int .i64 e5] 94)).setCell ⟨br, 0, none⟩ (.string s5)).setCell ⟨br, 1, none⟩ (.int .i64 e5)).heap.size u la := by
  refine (hT.moved fun g hg => ?_).more (by simp [World.setCell])
  have h1 := hu g hg
  exact (Below.heap_setCell _ ⟨br, 1, none⟩ _ g (by simp only; omega)).trans ((Below.heap_setCell _ ⟨br, 0, none⟩ _ g (by simp only; omega)).trans (((Below.refl w5.heap.size w5).alloc (Nat.le_refl _) (.cells #[.string s5, .int .i64 e5] 94)).block g h1.2))
end Go.Proofs.YtkinnlfjcmhcoaaDoor.W
