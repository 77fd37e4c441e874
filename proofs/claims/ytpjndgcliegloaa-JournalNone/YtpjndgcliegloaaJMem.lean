/-
  Package journal: a journal in memory.
-/
import Derived.Test.YtpjndgcliegloaaTStore
import Derived.Test.YtpjndgcliegloaaTPrs
import Derived.Test.YtpjndgcliegloaaJMath
import Derived.Deep.AppendLies
import Derived.Deep.RegionHeld3
namespace Go.Proofs.Ytpjndgcliegloaa.W
open Go.RowKit

/-! ### A row of one's own -/
section
variable {w w' : World} {base : Nat} {e : TypeId} {size : Nat} {v : Value} {n : Nat} {xs : List Value}
theorem own_tag (h : w.ownsRow base e size v n xs) {g : Nat} (hg : v.ownBlock = some g) : ∃ cs, Blk w g e cs := by
  rcases h.2 with ⟨rfl, _⟩ | ⟨g', cap, cur, rfl, _, hb, _⟩
  · cases hg
  · cases hg; exact ⟨cur, hb⟩
theorem own_keep (h : w.ownsRow base e size v n xs) (hb : ∀ g, v.ownBlock = some g → w'.heap[g]? = w.heap[g]?) : w'.ownsRow base e size v n xs := by
  rcases h with ⟨h1, ⟨rfl, h2⟩ | ⟨g, cap, cur, rfl, h2, h3, h4⟩⟩
  · exact ⟨h1, .inl ⟨rfl, h2⟩⟩
  · exact ⟨h1, .inr ⟨g, cap, cur, rfl, h2, (hb g rfl).trans h3, h4⟩⟩
theorem own_slice (h : w.ownsRow base e size v n xs) : ∃ A cap, v = .slice A n cap ∧ n ≤ cap := by
  rcases h.2 with ⟨rfl, rfl⟩ | ⟨g, cap, cur, rfl, _, _, hc, _⟩
  · exact ⟨none, 0, rfl, Nat.le_refl _⟩
  · exact ⟨_, cap, rfl, hc⟩
theorem own_base (h : w.ownsRow base e size v n xs) {b' : Nat} (hb : b' ≤ base) : w.ownsRow b' e size v n xs := by
  rcases h with ⟨h1, ⟨rfl, h2⟩ | ⟨g, cap, cur, rfl, h2, h3⟩⟩
  · exact ⟨h1, .inl ⟨rfl, h2⟩⟩
  · exact ⟨h1, .inr ⟨g, cap, cur, rfl, by omega, h3⟩⟩
/-- the first k of them -/
theorem own_take (h : w.ownsRow base e 1 v n xs) {k : Nat} (hk : k ≤ n) (h0 : 0 < n) : ∃ g cap, v = .slice (some ⟨g, 0, none⟩) n cap ∧ w.ownsRow base e 1 (.slice (some ⟨g, 0, none⟩) k cap) k (xs.take k) ∧ n ≤ cap := by
  rcases h with ⟨h1, ⟨rfl, h2⟩ | ⟨g, cap, cur, rfl, h2, h3, h4, h5, h6, h7⟩⟩
  · omega
  · refine ⟨g, cap, rfl, ⟨by rw [List.length_take]; omega, .inr ⟨g, cap, cur, rfl, h2, h3, by omega, h5, h6, ?_⟩⟩, h4⟩
    rw [← h7, Nat.mul_one, Nat.mul_one, List.take_take, Nat.min_eq_left hk]
end

def undoV (u : Undo) : Value := .func (.func 44) #[.agg #[.string u.k, .string u.v, .bool u.p]] #[]
def undoVals (us : List Undo) : List Value := us.map undoV
def intVals (ns : List Nat) : List Value := ns.map fun n : Nat => Value.int .i64 (n : Int)

/-- the journal at block j: its store at block b, its changes u, its levels' beginnings s -/
structure JAt (w : World) (j b : Nat) (u s : Value) (L : List KV) (us : List Undo) (ns : List Nat) : Prop where
  blk : Blk w j 61 #[.pointer (some ⟨b, 0, none⟩), u, s]
  store : IsStore w b L
  undos : w.ownsRow 0 64 1 u us.length (undoVals us)
  starts : w.ownsRow 0 3 1 s ns.length (intVals ns)
/-- the blocks that a journal has for its own -/
def jset (j b : Nat) (u s : Value) : Nat → Prop := fun i => i = j ∨ i = b ∨ u.ownBlock = some i ∨ s.ownBlock = some i
section
variable {w w' : World} {j b : Nat} {u s u' s' : Value} {L : List KV} {us : List Undo} {ns : List Nat}
theorem JAt.tag (h : JAt w j b u s L us ns) {i : Nat} (hi : jset j b u s i) : ∃ t cs, Blk w i t cs ∧ t ≠ 86 := by
  rcases hi with rfl | rfl | hi | hi
  · exact ⟨_, _, h.blk, by decide⟩
  · obtain ⟨cs, hc⟩ := h.store.a
    exact ⟨_, cs, hc, by decide⟩
  · obtain ⟨cs, hc⟩ := own_tag h.undos hi
    exact ⟨_, cs, hc, by decide⟩
  · obtain ⟨cs, hc⟩ := own_tag h.starts hi
    exact ⟨_, cs, hc, by decide⟩
theorem JAt.bound (h : JAt w j b u s L us ns) {i : Nat} (hi : jset j b u s i) : i < w.heap.size := by
  obtain ⟨t, cs, hb, _⟩ := h.tag hi
  exact hb.lt
/-- no node of a tree turns -/
theorem JAt.kept (h : JAt w j b u s L us ns) (k : KeepS (jset j b u s) w w') : Kept w w' := fun g cs hg => by
  refine k.blk hg fun hi => ?_
  obtain ⟨t, ds, hb, hne⟩ := h.tag hi
  exact hne (blk_type hb hg)
theorem JAt.moved (h : JAt w j b u s L us ns) (hk : Kept w w') (hb : ∀ i, jset j b u s i → w'.heap[i]? = w.heap[i]?) : JAt w' j b u s L us ns := by
  refine ⟨(hb j (.inl rfl)).trans h.blk, ?_, own_keep h.undos (fun g hg => hb g (.inr (.inr (.inl hg)))), own_keep h.starts (fun g hg => hb g (.inr (.inr (.inr hg))))⟩
  obtain ⟨p, t, h1, h2, h3⟩ := h.store
  exact ⟨p, t, (hb b (.inr (.inl rfl))).trans h1, h2.kept hk, h3⟩
theorem JAt.below (h : JAt w j b u s L us ns) (hb : Below w.heap.size w w') : JAt w' j b u s L us ns :=
  h.moved (fun _ _ hg => hg.below hb hg.lt) (fun i hi => hb.block i (h.bound hi))
theorem JAt.nj (h : JAt w j b u s L us ns) : j ≠ b ∧ u.ownBlock ≠ some j ∧ s.ownBlock ≠ some j ∧ u.ownBlock ≠ some b ∧ s.ownBlock ≠ some b := by
  obtain ⟨cs, hc⟩ := h.store.a
  refine ⟨fun e => ?_, fun e => ?_, fun e => ?_, fun e => ?_, fun e => ?_⟩
  · subst e; have := blk_type h.blk hc; revert this; decide
  · obtain ⟨ds, hd⟩ := own_tag h.undos e; have := blk_type h.blk hd; revert this; decide
  · obtain ⟨ds, hd⟩ := own_tag h.starts e; have := blk_type h.blk hd; revert this; decide
  · obtain ⟨ds, hd⟩ := own_tag h.undos e; have := blk_type hc hd; revert this; decide
  · obtain ⟨ds, hd⟩ := own_tag h.starts e; have := blk_type hc hd; revert this; decide
theorem JAt.apart (h : JAt w j b u s L us ns) {g : Nat} (h1 : u.ownBlock = some g) (h2 : s.ownBlock = some g) : False := by
  obtain ⟨cs, hc⟩ := own_tag h.undos h1
  obtain ⟨ds, hd⟩ := own_tag h.starts h2
  have := blk_type hc hd
  revert this
  decide
end
/-- a step of a journal: only its own blocks have turned -/
def JStep (w : World) (j b : Nat) (u s : Value) (L : List KV) (us : List Undo) (ns : List Nat) (w' : World) : Prop :=
  ∃ u' s', JAt w' j b u' s' L us ns ∧ KeepS (jset j b u s) w w' ∧ Grows (jset j b u s) (jset j b u' s') w
section
variable {w w1 w2 : World} {j b : Nat} {u s u' s' : Value} {L L' : List KV} {us us' : List Undo} {ns ns' : List Nat}
theorem JStep.same (h : JAt w j b u s L us ns) : JStep w j b u s L us ns w := ⟨u, s, h, KeepS.refl _ _, Grows.refl _ _⟩
/-- the store alone has turned -/
theorem JAt.stored (h : JAt w j b u s L us ns) (hs : IsStore w1 b L') (hg : w.grownBy w1 (some b)) : JStep w j b u s L' us ns w1 := by
  obtain ⟨n1, n2, n3, n4, n5⟩ := h.nj
  refine ⟨u, s, ⟨h.blk.grown hg (fun e => n1 (by cases e; rfl)), hs, own_keep h.undos (fun g e => ?_), own_keep h.starts (fun g e => ?_)⟩, KeepS.of_grown hg (fun r e => by cases e; exact .inl (.inr (.inl rfl))), Grows.refl _ _⟩
  · exact hg.block g (h.bound (.inr (.inr (.inl e)))) (fun e2 => n4 (by rw [e, e2]))
  · exact hg.block g (h.bound (.inr (.inr (.inr e)))) (fun e2 => n5 (by rw [e, e2]))
theorem JStep.next (h : KeepS (jset j b u s) w w1) (g : Grows (jset j b u s) (jset j b u' s') w) (k : JStep w1 j b u' s' L us ns w2) : JStep w j b u s L us ns w2 := by
  obtain ⟨u2, s2, a, k2, g2⟩ := k
  exact ⟨u2, s2, a, h.trans g k2, g.trans g2 h.size⟩
end
end Go.Proofs.Ytpjndgcliegloaa.W
