/-
  What a round of the law holds: a journal, and the levels that it should have.
-/
import Derived.Test.YtpjndgcliegloaaJDeeds
namespace Go.Proofs.Ytpjndgcliegloaa.W
open Go.RowKit

section
variable {S S' : Nat → Prop} {w w' : World} {n b off cap : Nat} {Lv : List (List KV)} {L : List KV} {ys : List Value} {y : Value}
theorem Given.keep (h : Given S w n b off cap Lv L ys y) (k : KeepS S w w') (g : Grows S S' w) : Given S' w' n b off cap Lv L ys y :=
  ⟨h.hn, h.vls.moved (h.off.block k), h.off.keep k g, h.rds.keep k g, h.prs.moved (h.offy.block k), h.offy.keep k g⟩
theorem Given.below (h : Given S w n b off cap Lv L ys y) (hb : Below w.heap.size w w') : Given S w' n b off cap Lv L ys y :=
  ⟨h.hn, h.vls.below hb, h.off.below hb, h.rds.below hb, h.prs.below hb, h.offy.below hb⟩
theorem Given.last (h : Given S w n b off cap Lv L ys y) : w.cell? ⟨b, off + n, none⟩ = some y := by
  obtain ⟨A0, cap0, e, _, hc⟩ := h.vls
  obtain ⟨b', off', e2, h1⟩ := hc n (by simp [h.hn])
  injection e with ea
  rw [← ea] at e2
  cases e2
  rw [h1]
  simp [← h.hn]
theorem Given.to (h : Given S w n b off cap Lv L ys y) : LV S w (.slice (some ⟨b, off, none⟩) (n + 1) cap) (Lv ++ [L]) := h.lv (Below.refl _ _)
end
/-- the journal j and the levels' slice, since w -/
structure Pl (w : World) (j m n b off cap : Nat) (Lv : List (List KV)) (L : List KV) (ys : List Value) (y : Value) (S : Nat → Prop) (w' : World) : Prop where
  jr : Jr w' S j Lv L m
  giv : Given S w' n b off cap Lv L ys y
  bel : Below w.heap.size w w'
  low : ∀ i, S i → w.heap.size ≤ i
section
variable {w w1 w2 : World} {j m m' n b off cap : Nat} {Lv Lv' : List (List KV)} {L L' : List KV} {ys : List Value} {y : Value} {S : Nat → Prop}
theorem Pl.below (h : Pl w j m n b off cap Lv L ys y S w1) (hb : Below w1.heap.size w1 w2) : Pl w j m n b off cap Lv L ys y S w2 := ⟨h.jr.below hb, h.giv.below hb, step_below h.bel hb, h.low⟩
end
/-- a round's 'do', where the levels have moved already -/
theorem doP {w w1 : World} {j m n b off cap : Nat} {Lv Lv' : List (List KV)} {L L' : List KV} {ys : List Value} {y : Value} {S : Nat → Prop} {ev : Int} (kd : Int) (k v : ByteArray) (hJ : Jr w1 S j Lv L m) (hG : Given S w1 n b off cap Lv' L' ys y) (hB : Below w.heap.size w w1) (hT : ∀ i, S i → w.heap.size ≤ i) (hr : act Lv L kd k v = (Lv', L', ev)) (hm : m + 2 ≤ 1000000000) :
    Calls Try.prog 9 #[.pointer (some ⟨j, 0, none⟩), .agg #[.int .i64 kd, .string k, .string v]] w1 fun e w' => e = .returned (.int .i64 ev) ∧ ∃ S', Pl w j (m + 2) n b off cap Lv' L' ys y S' w' := by
  have h := doJ k v kd hJ hm
  rw [hr] at h
  refine h.mono ?_
  rintro e w' ⟨he, kp, S', g, hj⟩
  exact ⟨he, S', hj, hG.keep kp g, hB.trans (kp.below hB.size hT), fun i hi => (g i hi).elim (hT i) (fun h2 => Nat.le_trans hB.size h2)⟩
theorem act_up {Lv : List (List KV)} {L : List KV} {w : World} {S : Nat → Prop} {j m : Nat} (h : Jr w S j Lv L m) : Up L := h.up
theorem listP {w w1 : World} {j m n b off cap : Nat} {Lv : List (List KV)} {L : List KV} {ys : List Value} {y : Value} {S : Nat → Prop} (h : Pl w j m n b off cap Lv L ys y S w1) (hm : m ≤ 1000000000) : ∀ W, Since w1 W → Calls Try.prog 12 #[.pointer (some ⟨j, 0, none⟩)] W fun e w' => ∃ u, e = .returned u ∧ Prs w' u L ∧ Since w1 w' := fun _ hW =>
  (jList (h.jr.below hW.below) hm).mono fun _ _ ⟨u, he, ho, hb⟩ => ⟨u, he, Prs.of_own ho, since_of (step_below hW.below hb)⟩
theorem sameP {w w1 : World} {j m n b off cap : Nat} {Lv : List (List KV)} {L : List KV} {ys : List Value} {y : Value} {S : Nat → Prop} (h : Pl w j m n b off cap Lv L ys y S w1) (hm : m ≤ 1000000000) : ∀ W, Since w1 W → ∀ u, Prs W u L → Calls Try.prog 11 #[u, y] W fun e w' => e = .returned (.bool true) ∧ Since w1 w' := fun W hW u hu =>
  (sameYes u y L W hu (h.giv.prs.below hW.below) (Nat.le_trans h.jr.len.1 hm)).mono fun _ _ ⟨he, hb⟩ => ⟨he, since_of (step_below hW.below hb)⟩
theorem depthP {w w1 : World} {j m n b off cap : Nat} {Lv : List (List KV)} {L : List KV} {ys : List Value} {y : Value} {S : Nat → Prop} (h : Pl w j m n b off cap Lv L ys y S w1) (hn : n = Lv.length) : ∀ W, Since w1 W → Calls Try.prog 10 #[.pointer (some ⟨j, 0, none⟩)] W fun e w' => e = .returned (.int .i64 n) ∧ Since w1 w' := fun _ hW =>
  (jDepth (h.jr.below hW.below)).mono fun _ _ ⟨he, hw⟩ => ⟨by rw [he, hn], by rw [hw]; exact hW⟩
end Go.Proofs.Ytpjndgcliegloaa.W
