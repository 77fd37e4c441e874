/-
  Two journals and a slice of lists beside them.
-/
import Derived.Test.YtpjndgcliegloaaJPlay
namespace Go.Proofs.Ytpjndgcliegloaa.W
open Go.RowKit

/-- the slice lv holds the values xs, which read as the lists Ls -/
structure Cn (w : World) (lv : Value) (xs : List Value) (Ls : List (List KV)) : Prop where
  vls : Vls w lv xs
  len : xs.length = Ls.length
  prs : ∀ i (h : i < xs.length) (k : i < Ls.length), Prs w xs[i] Ls[i]
/-- none of them lies in S -/
structure Offs (S : Nat → Prop) (w : World) (lv : Value) (xs : List Value) : Prop where
  lv : Off S w lv
  xs : ∀ x ∈ xs, Off S w x
section
variable {S S' T : Nat → Prop} {w w' : World} {lv : Value} {xs : List Value} {Ls : List (List KV)}
theorem Cn.keep (h : Cn w lv xs Ls) (o : Offs S w lv xs) (k : KeepS S w w') : Cn w' lv xs Ls := ⟨h.vls.moved (o.lv.block k), h.len, fun i hi hk => (h.prs i hi hk).moved ((o.xs _ (List.getElem_mem hi)).block k)⟩
theorem Cn.below (h : Cn w lv xs Ls) (hb : Below w.heap.size w w') : Cn w' lv xs Ls := ⟨h.vls.below hb, h.len, fun i hi hk => (h.prs i hi hk).below hb⟩
theorem Offs.keep (o : Offs S w lv xs) (k : KeepS S w w') (g : Grows S S' w) : Offs S' w' lv xs := ⟨o.lv.keep k g, fun x hx => (o.xs x hx).keep k g⟩
theorem Off.size {v : Value} (o : Off T w v) (h : w.heap.size ≤ w'.heap.size) : Off T w' v := fun g hg => ⟨Nat.lt_of_lt_of_le (o g hg).1 h, (o g hg).2⟩
theorem Offs.size (o : Offs T w lv xs) (h : w.heap.size ≤ w'.heap.size) : Offs T w' lv xs := ⟨o.lv.size h, fun x hx => (o.xs x hx).size h⟩
theorem LV.open (h : LV S w lv Ls) : ∃ xs, Cn w lv xs Ls ∧ Offs S w lv xs := by
  obtain ⟨xs, h1, h2, h3⟩ := h
  refine ⟨xs, ⟨h1, h3.1, fun i hi hk => (h3.2 i hi hk).1⟩, h2, fun x hx => ?_⟩
  obtain ⟨i, hi, rfl⟩ := List.mem_iff_getElem.1 hx
  exact (h3.2 i hi (by rw [← h3.1]; exact hi)).2
/-- new blocks are none of them -/
theorem Offs.fresh (o : Offs S w lv xs) (hb : w.heap.size ≤ w'.heap.size) (hT : ∀ i, T i → w.heap.size ≤ i) : Offs T w' lv xs :=
  ⟨fun g hg => ⟨Nat.lt_of_lt_of_le (o.lv g hg).1 hb, fun h => by have := hT g h; have := (o.lv g hg).1; omega⟩, fun x hx g hg => ⟨Nat.lt_of_lt_of_le (o.xs x hx g hg).1 hb, fun h => by have := hT g h; have := (o.xs x hx g hg).1; omega⟩⟩
theorem Cn.form {n : Nat} (h : Cn w lv xs Ls) (hn : Ls.length = n + 1) : ∃ b off cap, lv = .slice (some ⟨b, off, none⟩) (n + 1) cap ∧ ∀ w', Cn w' lv xs Ls → ∀ i (hi : i < xs.length), w'.cell? ⟨b, off + i, none⟩ = some xs[i] := by
  have hv := h.vls
  obtain ⟨A, cap, rfl, _, hc⟩ := hv
  have hpos : 0 < xs.length := by rw [h.len]; omega
  obtain ⟨b, off, rfl, _⟩ := hc 0 hpos
  refine ⟨b, off, cap, by rw [h.len, hn], fun w' h' i hi => ?_⟩
  obtain ⟨A', cap', e, _, hc'⟩ := h'.vls
  cases e
  obtain ⟨b', off', e, h1⟩ := hc' i hi
  cases e
  exact h1
end
/-- while the one journal goes on, the other one and the lists stay -/
structure Two (w : World) (j k q m : Nat) (lv : Value) (xs : List Value) (Lv : List (List KV)) (L : List KV) (S T : Nat → Prop) (w' : World) : Prop where
  one : ∃ Mv M, Jr w' S j Mv M q
  two : Jr w' T k Lv L m
  cn : Cn w' lv xs (Lv ++ [L])
  offS : Offs S w' lv xs
  offT : Offs T w' lv xs
  apart : ∀ i, T i → ¬ S i
  lowS : ∀ i, S i → w.heap.size ≤ i
  lowT : ∀ i, T i → w.heap.size ≤ i
  bel : Below w.heap.size w w'
theorem doTwo {w w1 : World} {j k q m : Nat} {lv : Value} {xs : List Value} {Lv : List (List KV)} {L : List KV} {S T : Nat → Prop} (kd : Int) (key v : ByteArray) (h : Two w j k q m lv xs Lv L S T w1) (hq : q + 2 ≤ 1000000000) :
    Calls Try.prog 9 #[.pointer (some ⟨j, 0, none⟩), .agg #[.int .i64 kd, .string key, .string v]] w1 fun e w' => ∃ n S', e = .returned (.int .i64 n) ∧ Two w j k (q + 2) m lv xs Lv L S' T w' := by
  obtain ⟨Mv, M, hJ⟩ := h.one
  refine (doJ key v kd hJ hq).mono ?_
  rintro e w' ⟨he, kp, S', g, hj⟩
  exact ⟨_, S', he, ⟨_, _, hj⟩, h.two.other hJ kp h.apart, h.cn.keep h.offS kp, h.offS.keep kp g, h.offT.size kp.size, fun i hi hs => (g i hs).elim (h.apart i hi) (fun h2 => by have := h.two.bound i hi; omega), fun i hi => (g i hi).elim (h.lowS i) (fun h2 => Nat.le_trans h.bel.size h2), h.lowT, h.bel.trans (kp.below h.bel.size h.lowS)⟩
/-- the copy alone: p levels are left -/
structure Cp (w : World) (k m : Nat) (lv : Value) (xs : List Value) (Ls : List (List KV)) (Lv : List (List KV)) (L : List KV) (T : Nat → Prop) (w' : World) : Prop where
  jr : Jr w' T k Lv L m
  cn : Cn w' lv xs Ls
  off : Offs T w' lv xs
  low : ∀ i, T i → w.heap.size ≤ i
  bel : Below w.heap.size w w'
section
variable {w w1 w2 : World} {k m : Nat} {lv : Value} {xs : List Value} {Ls Lv : List (List KV)} {L x : List KV} {T : Nat → Prop}
theorem Cp.below (h : Cp w k m lv xs Ls Lv L T w1) (hb : Below w1.heap.size w1 w2) : Cp w k m lv xs Ls Lv L T w2 := ⟨h.jr.below hb, h.cn.below hb, h.off.size hb.size, h.low, step_below h.bel hb⟩
theorem rollP (h : Cp w k m lv xs Ls (Lv ++ [x]) L T w1) (hm : m + 2 ≤ 1000000000) : Calls Try.prog 16 #[.pointer (some ⟨k, 0, none⟩)] w1 fun e w' => e = .returned (.int .i64 0) ∧ ∃ T', Cp w k m lv xs Ls Lv x T' w' := by
  refine (jRoll h.jr hm).mono ?_
  rintro e w' ⟨he, kp, T', g, hj⟩
  exact ⟨he, T', hj, h.cn.keep h.off kp, h.off.keep kp g, fun i hi => (g i hi).elim (h.low i) (fun h2 => Nat.le_trans h.bel.size h2), h.bel.trans (kp.below h.bel.size h.low)⟩
theorem listC (h : Cp w k m lv xs Ls Lv L T w1) (hm : m ≤ 1000000000) : ∀ W, Since w1 W → Calls Try.prog 12 #[.pointer (some ⟨k, 0, none⟩)] W fun e w' => ∃ u, e = .returned u ∧ Prs w' u L ∧ Since w1 w' := fun _ hW =>
  (jList (h.jr.below hW.below) hm).mono fun _ _ ⟨u, he, ho, hb⟩ => ⟨u, he, Prs.of_own ho, since_of (step_below hW.below hb)⟩
theorem sameC (h : Cp w k m lv xs Ls Lv L T w1) (hm : m ≤ 1000000000) {i : Nat} (hi : i < xs.length) (he : Ls[i]? = some L) : ∀ W, Since w1 W → ∀ u, Prs W u L → Calls Try.prog 11 #[u, xs[i]] W fun e w' => e = .returned (.bool true) ∧ Since w1 w' := fun W hW u hu => by
  obtain ⟨hk, he⟩ := List.getElem?_eq_some_iff.1 he
  exact (sameYes u xs[i] L W hu (by have := (h.cn.prs i hi hk).below hW.below; rwa [he] at this) (Nat.le_trans h.jr.len.1 hm)).mono fun _ _ ⟨he, hb⟩ => ⟨he, since_of (step_below hW.below hb)⟩
theorem depthC1 (h : Cp w k m lv xs Ls Lv L T w1) {n : Nat} (hn : n = Lv.length) : ∀ W, Since w1 W → Calls Try.prog 10 #[.pointer (some ⟨k, 0, none⟩)] W fun e w' => e = .returned (.int .i64 n) ∧ Since w1 w' := fun _ hW =>
  (jDepth (h.jr.below hW.below)).mono fun _ _ ⟨he, hw⟩ => ⟨by rw [he, hn], by rw [hw]; exact hW⟩
end
end Go.Proofs.Ytpjndgcliegloaa.W
