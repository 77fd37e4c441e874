/-
  The reference's Build: what it keeps while it walks over the neighbours.
-/
import Derived.Deep.RegionHeld3
import Derived.Test.YtkinnlfjcmhcoaaDoorYXRPath
import Derived.Test.YtkinnlfjcmhcoaaDoorZXOut
import Derived.Test.YtkinnlfjcmhcoaaDoorZ0e
import Derived.Test.YtkinnlfjcmhcoaaDoorZ0f
namespace Go.Proofs.YtkinnlfjcmhcoaaDoor.W
open Go.RowKit

def nearTo (l : List KV) (lo k : Nat) : List KV := (l.drop lo).take k
theorem nearTo_succ {l : List KV} {lo k : Nat} (h : lo + k < l.length) : nearTo l lo (k + 1) = nearTo l lo k ++ [l[lo + k]] := by
  unfold nearTo
  rw [List.take_succ_eq_append_getElem (by rw [List.length_drop]; omega), List.getElem_drop]
theorem nearTo_len {l : List KV} {lo k : Nat} (h : lo + k ≤ l.length) : (nearTo l lo k).length = k := by unfold nearTo; rw [List.length_take, List.length_drop]; omega
theorem nearTo_of {l : List KV} {a : Nat} (h : a ≤ l.length) : nearTo l (lowOf a) (highOf a l.length - lowOf a) = nearOf l a := by
  have := low_high h
  unfold nearTo nearOf
  rw [List.drop_take]
/-- x while the reference's Build walks over the neighbours -/
structure RAt (w : World) (b B n N lo : Nat) (l : List KV) (kn kp : Nat) (nv pv : Value) (us : List Value) (wr : World) : Prop where
  bx : Blk wr b 28 #[.int .i64 n, .int .i64 N, .bool false, nv, pv]
  res : Blk wr w.heap.size 28 #[.int .i64 0, .int .i64 0, .bool false, .slice none 0 0, .slice none 0 0]
  s : Since w wr
  lt : w.heap.size < b
  bB : b < B
  size : B ≤ wr.heap.size
  near : wr.ownsRow B 32 2 nv kn (prVals (nearTo l lo kn))
  ulen : us.length = kp
  row : wr.ownsRow B 34 1 pv kp us
  at_ : ∀ (i : Nat) u q, us[i]? = some u → (pathsOf l lo kp)[i]? = some q → Txs wr wr.heap.size u (bss q) ∧ Roomy u ∧ ∀ g, u.ownBlock = some g → B ≤ g ∧ g < wr.heap.size ∧ some g ≠ pv.ownBlock ∧ some g ≠ nv.ownBlock
  apart : ∀ g, nv.ownBlock = some g → some g ≠ pv.ownBlock
section
variable {w wr W W9 : World} {b B n N lo kn kp : Nat} {l : List KV} {nv pv : Value} {us : List Value}
theorem rat_start (hs : Since w W) (hb : Blk W b 28 #[.int .i64 n, .int .i64 N, .bool false, .slice none 0 0, .slice none 0 0]) (hr : Blk W w.heap.size 28 #[.int .i64 0, .int .i64 0, .bool false, .slice none 0 0, .slice none 0 0]) (hlt : w.heap.size < b) : RAt w b W.heap.size n N lo l 0 0 (.slice none 0 0) (.slice none 0 0) [] W :=
  ⟨hb, hr, hs, hlt, hb.lt, Nat.le_refl _, World.ownsRow_nil _ _ _ _, rfl, World.ownsRow_nil _ _ _ _, fun i u q h => by simp at h, fun g h => by cases h⟩
/-- nothing old has turned -/
theorem RAt.next (h : RAt w b B n N lo l kn kp nv pv us wr) (k : Below wr.heap.size wr W) : RAt w b B n N lo l kn kp nv pv us W := by
  refine ⟨h.bx.below k h.bx.lt, h.res.below k h.res.lt, since_of (step_below h.s.below k), h.lt, h.bB, Nat.le_trans h.size k.size, own_kept h.near k, h.ulen, own_kept h.row k, fun i u q h1 h2 => ?_, h.apart⟩
  obtain ⟨j1, j2, j3⟩ := h.at_ i u q h1 h2
  exact ⟨(j1.below k).more k.size, j2, fun g hg => ⟨(j3 g hg).1, Nat.lt_of_lt_of_le (j3 g hg).2.1 k.size, (j3 g hg).2.2⟩⟩
theorem RAt.x3 (h : RAt w b B n N lo l kn kp nv pv us wr) : wr.cell? ⟨b, 3, none⟩ = some nv := h.bx.c 3 rfl
theorem RAt.x4 (h : RAt w b B n N lo l kn kp nv pv us wr) : wr.cell? ⟨b, 4, none⟩ = some pv := h.bx.c 4 rfl
theorem RAt.xf (h : RAt w b B n N lo l kn kp nv pv us wr) (i : Nat) : wr.frozen? ⟨b, i, none⟩ = false := h.bx.frozen i
theorem RAt.noB (h : RAt w b B n N lo l kn kp nv pv us wr) : nv.ownBlock ≠ some b ∧ pv.ownBlock ≠ some b := by
  have := h.bB
  exact ⟨fun e => by have := (h.near.lt b e).1; omega, fun e => by have := (h.row.lt b e).1; omega⟩
theorem RAt.noR (h : RAt w b B n N lo l kn kp nv pv us wr) : nv.ownBlock ≠ some w.heap.size ∧ pv.ownBlock ≠ some w.heap.size := by
  have := h.bB
  have := h.lt
  exact ⟨fun e => by have := (h.near.lt _ e).1; omega, fun e => by have := (h.row.lt _ e).1; omega⟩
/-- behind an append to x.Near -/
theorem RAt.mid3 (h : RAt w b B n N lo l kn kp nv pv us W) (k : W.grownBy W9 nv.ownBlock) : W9.cell? ⟨b, 3, none⟩ = some nv ∧ W9.frozen? ⟨b, 3, none⟩ = false :=
  have hb := h.bx.grown k (by intro e; exact h.noB.1 e.symm)
  ⟨hb.c 3 rfl, hb.frozen 3⟩
theorem RAt.mid4 (h : RAt w b B n N lo l kn kp nv pv us W) (k : W.grownBy W9 pv.ownBlock) : W9.cell? ⟨b, 4, none⟩ = some pv ∧ W9.frozen? ⟨b, 4, none⟩ = false :=
  have hb := h.bx.grown k (by intro e; exact h.noB.2 e.symm)
  ⟨hb.c 4 rfl, hb.frozen 4⟩
theorem set_grown (W9 : World) (b i : Nat) (v : Value) : W9.grownBy (W9.setCell ⟨b, i, none⟩ v) (some b) :=
  ⟨rfl, rfl, rfl, by simp [World.setCell], fun k _ hk => Below.heap_setCell _ _ _ _ (fun e => hk (by simp [e]))⟩
theorem set_size (W9 : World) (b i : Nat) (v : Value) : (W9.setCell ⟨b, i, none⟩ v).heap.size = W9.heap.size := by simp [World.setCell]
theorem RAt.addNear (h : RAt w b B n N lo l kn kp nv pv us W) {gg cap : Nat} (hl : lo + kn < l.length) (hown : W9.ownsRow B 32 2 (.slice (some ⟨gg, 0, none⟩) (kn + 1) cap) (kn + 1) (prVals (nearTo l lo kn) ++ [.string l[lo + kn].1, .string l[lo + kn].2])) (k : W.grownBy W9 nv.ownBlock) (hat : nv.ownBlock = some gg ∨ W.heap.size ≤ gg) :
    RAt w b B n N lo l (kn + 1) kp (.slice (some ⟨gg, 0, none⟩) (kn + 1) cap) pv us (W9.setCell ⟨b, 3, none⟩ (.slice (some ⟨gg, 0, none⟩) (kn + 1) cap)) := by
  have hbB := h.bB
  have hlt := h.lt
  have hsz := h.size
  have hks := k.size
  have g9 := set_grown W9 b 3 (.slice (some ⟨gg, 0, none⟩) (kn + 1) cap)
  have s9 := set_size W9 b 3 (.slice (some ⟨gg, 0, none⟩) (kn + 1) cap)
  have hrow9 : W9.ownsRow B 34 1 pv kp us := h.row.kept k (by
    cases e : pv.ownBlock with
    | none => exact .inl rfl
    | some g => exact .inr fun e2 => h.apart g e2.symm e.symm)
  have hblk : ∀ g, B ≤ g → g < W.heap.size → some g ≠ nv.ownBlock → (W9.setCell ⟨b, 3, none⟩ (.slice (some ⟨gg, 0, none⟩) (kn + 1) cap)).heap[g]? = W.heap[g]? := fun g h1 h2 h3 => (g9.block g (by omega) (by intro e; injection e with e; omega)).trans (k.block g h2 h3)
  have hgB := (hown.lt gg rfl).1
  refine ⟨(h.bx.grown k (by intro e; exact h.noB.1 e.symm)).set_ 3 _, (h.res.grown k (by intro e; exact h.noR.1 e.symm)).far (p := ⟨b, 3, none⟩) (by simp only; omega) _, since_put (since_of (h.s.below.grown k h.s.2.2.2.1 (fun g hg => by have := (h.near.lt g hg).1; omega))) (by simp only; omega) _, hlt, hbB, by omega, ?_, h.ulen, hrow9.kept g9 (.inr fun e => by have := (hrow9.lt b e).1; omega), fun i u q h1 h2 => ?_, fun g hg => ?_⟩
  · rw [nearTo_succ hl, prVals_append]
    exact hown.kept g9 (.inr fun e => by have := (hown.lt b e).1; omega)
  · obtain ⟨j1, j2, j3⟩ := h.at_ i u q h1 h2
    refine ⟨(j1.moved fun g hg => hblk g (j3 g hg).1 (j3 g hg).2.1 (j3 g hg).2.2.2).more (by omega), j2, fun g hg => ⟨(j3 g hg).1, by have := (j3 g hg).2.1; omega, (j3 g hg).2.2.1, fun e => ?_⟩⟩
    injection e with e
    subst e
    rcases hat with h5 | h5
    · exact (j3 _ hg).2.2.2 h5.symm
    · have := (j3 _ hg).2.1; omega
  · have e : gg = g := by simpa [Value.ownBlock] using hg
    subst e
    intro e
    have h6 := h.row.lt gg e.symm
    rcases hat with h5 | h5
    · exact h.apart gg h5 e
    · omega
theorem RAt.addPath (h : RAt w b B n N lo l kn kp nv pv us W) {gg cap : Nat} {u : Value} (hT : Txs W W.heap.size u (bss (pth l (lo + kp)))) (hR : Roomy u) (hu : ∀ g, u.ownBlock = some g → B ≤ g ∧ g < W.heap.size ∧ some g ≠ pv.ownBlock ∧ some g ≠ nv.ownBlock)
    (hown : W9.ownsRow B 34 1 (.slice (some ⟨gg, 0, none⟩) (kp + 1) cap) (kp + 1) (us ++ [u])) (k : W.grownBy W9 pv.ownBlock) (hat : pv.ownBlock = some gg ∨ gg = W.heap.size) :
    RAt w b B n N lo l kn (kp + 1) nv (.slice (some ⟨gg, 0, none⟩) (kp + 1) cap) (us ++ [u]) (W9.setCell ⟨b, 4, none⟩ (.slice (some ⟨gg, 0, none⟩) (kp + 1) cap)) := by
  have hbB := h.bB
  have hlt := h.lt
  have hsz := h.size
  have hks := k.size
  have g9 := set_grown W9 b 4 (.slice (some ⟨gg, 0, none⟩) (kp + 1) cap)
  have s9 := set_size W9 b 4 (.slice (some ⟨gg, 0, none⟩) (kp + 1) cap)
  have hnear9 : W9.ownsRow B 32 2 nv kn (prVals (nearTo l lo kn)) := h.near.kept k (by
    cases e : nv.ownBlock with
    | none => exact .inl rfl
    | some g => exact .inr fun e2 => h.apart g e e2)
  have hblk : ∀ g, B ≤ g → g < W.heap.size → some g ≠ pv.ownBlock → (W9.setCell ⟨b, 4, none⟩ (.slice (some ⟨gg, 0, none⟩) (kp + 1) cap)).heap[g]? = W.heap[g]? := fun g h1 h2 h3 => (g9.block g (by omega) (by intro e; injection e with e; omega)).trans (k.block g h2 h3)
  have key : ∀ (u : Value) (q : List (List UInt8)), (Txs W W.heap.size u (bss q) ∧ Roomy u ∧ ∀ g, u.ownBlock = some g → B ≤ g ∧ g < W.heap.size ∧ some g ≠ pv.ownBlock ∧ some g ≠ nv.ownBlock) → Txs (W9.setCell ⟨b, 4, none⟩ (.slice (some ⟨gg, 0, none⟩) (kp + 1) cap)) (W9.setCell ⟨b, 4, none⟩ (.slice (some ⟨gg, 0, none⟩) (kp + 1) cap)).heap.size u (bss q) ∧ Roomy u ∧ ∀ g, u.ownBlock = some g → B ≤ g ∧ g < (W9.setCell ⟨b, 4, none⟩ (.slice (some ⟨gg, 0, none⟩) (kp + 1) cap)).heap.size ∧ some g ≠ (Value.slice (some ⟨gg, 0, none⟩) (kp + 1) cap).ownBlock ∧ some g ≠ nv.ownBlock := by
    rintro u q ⟨j1, j2, j3⟩
    refine ⟨(j1.moved fun g hg => hblk g (j3 g hg).1 (j3 g hg).2.1 (j3 g hg).2.2.1).more (by omega), j2, fun g hg => ⟨(j3 g hg).1, by have := (j3 g hg).2.1; omega, fun e => ?_, (j3 g hg).2.2.2⟩⟩
    have e : g = gg := by simpa [Value.ownBlock] using e
    subst e
    rcases hat with h5 | h5
    · exact (j3 _ hg).2.2.1 h5.symm
    · have := (j3 _ hg).2.1; omega
  have hul := h.ulen
  refine ⟨(h.bx.grown k (by intro e; exact h.noB.2 e.symm)).set_ 4 _, (h.res.grown k (by intro e; exact h.noR.2 e.symm)).far (p := ⟨b, 4, none⟩) (by simp only; omega) _, since_put (since_of (h.s.below.grown k h.s.2.2.2.1 (fun g hg => by have := (h.row.lt g hg).1; omega))) (by simp only; omega) _, hlt, hbB, by omega, hnear9.kept g9 (.inr fun e => by have := (hnear9.lt b e).1; omega), by rw [List.length_append, hul]; rfl, hown.kept g9 (.inr fun e => by have := (hown.lt b e).1; omega), fun i u' q' h1 h2 => ?_, fun g hg e => ?_⟩
  · rw [pathsOf_succ] at h2
    by_cases hi : i < us.length
    · rw [List.getElem?_append_left hi] at h1
      rw [List.getElem?_append_left (by rw [pathsOf_len]; omega)] at h2
      exact key u' q' (h.at_ i u' q' h1 h2)
    · rw [List.getElem?_append_right (by omega)] at h1
      rw [List.getElem?_append_right (by rw [pathsOf_len]; omega), pathsOf_len] at h2
      by_cases hz : i - us.length = 0
      · rw [hz] at h1
        rw [show i - kp = 0 by omega] at h2
        simp only [List.getElem?_cons_zero, Option.some.injEq] at h1 h2
        subst h1 h2
        exact key u _ ⟨hT, hR, hu⟩
      · rw [List.getElem?_eq_none (by simp; omega)] at h1
        cases h1
  · have e : g = gg := by simpa [Value.ownBlock] using e
    subst e
    have h6 := h.near.lt g hg
    rcases hat with h5 | h5
    · exact h.apart g hg h5.symm
    · omega
theorem RAt.paths (h : RAt w b B n N lo l kn kp nv pv us W) : OwnPths B pv (pathsOf l lo kp) W := by
  refine ⟨us, by rw [h.ulen, pathsOf_len], by rw [pathsOf_len]; exact h.row, h.size, fun i u q h1 h2 => ?_⟩
  obtain ⟨j1, j2, j3⟩ := h.at_ i u q h1 h2
  exact ⟨j1, j2, fun g hg => ⟨(j3 g hg).1, (j3 g hg).2.1, (j3 g hg).2.2.1⟩⟩
/-- where Build ends -/
theorem RAt.done {m : Nat} {A1 Ap : Option Addr} {c1 cp : Nat} (h : RAt w b B n N lo l m m (.slice A1 m c1) (.slice Ap m cp) us W) (hm : lo + m ≤ l.length) {v0 v1 v2 v3 v4 : Value} :
    ∃ v, Ending.returned (.agg #[.int .i64 n, .int .i64 N, .bool false, .slice A1 m c1, .slice Ap m cp]) = .returned v ∧ Prf (((((W.setCell ⟨w.heap.size, 0, none⟩ v0).setCell ⟨w.heap.size, 1, none⟩ v1).setCell ⟨w.heap.size, 2, none⟩ v2).setCell ⟨w.heap.size, 3, none⟩ v3).setCell ⟨w.heap.size, 4, none⟩ v4) v ⟨n, N, false, nearTo l lo m, pathsOf l lo m⟩ ∧
      Since w (((((W.setCell ⟨w.heap.size, 0, none⟩ v0).setCell ⟨w.heap.size, 1, none⟩ v1).setCell ⟨w.heap.size, 2, none⟩ v2).setCell ⟨w.heap.size, 3, none⟩ v3).setCell ⟨w.heap.size, 4, none⟩ v4) := by
  have h1 := h.lt
  have h2 := h.bB
  have hn := nearTo_len hm
  have hnear := h.near
  rw [show W.ownsRow B 32 2 (.slice A1 m c1) m (prVals (nearTo l lo m)) = W.ownsRow B 32 2 (.slice A1 m c1) (nearTo l lo m).length (prVals (nearTo l lo m)) by rw [hn]] at hnear
  refine ⟨_, rfl, ⟨_, _, rfl, (Prs.of_own hnear).moved fun g hg => heap_put5 W (by have := (hnear.lt g hg).1; omega) v0 v1 v2 v3 v4, ?_⟩, since_put5 h.s (by omega) _ _ _ _ _⟩
  exact (((((h.paths.set_ ⟨w.heap.size, 0, none⟩ (by simp only; omega) v0).set_ ⟨w.heap.size, 1, none⟩ (by simp only; omega) v1).set_ ⟨w.heap.size, 2, none⟩ (by simp only; omega) v2).set_ ⟨w.heap.size, 3, none⟩ (by simp only; omega) v3).set_ ⟨w.heap.size, 4, none⟩ (by simp only; omega) v4).pths
end
end Go.Proofs.YtkinnlfjcmhcoaaDoor.W
