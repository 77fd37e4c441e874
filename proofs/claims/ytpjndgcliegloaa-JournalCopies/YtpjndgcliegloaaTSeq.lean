/-
  An iterator over pairs that may itself range over another one: its contract, and the rule for a loop over it.
-/
import Derived.Test.YtpjndgcliegloaaCBlk
import Derived.Test.YtpjndgcliegloaaTMath
import Derived.RangeFuncNested
import Derived.RangeFuncBound
import Derived.RangeFuncCalls
import Derived.RangeFuncLeaves
namespace Go.Proofs.Ytpjndgcliegloaa.W
open Go.RowKit

/-- what lay has not turned, but for the blocks S -/
structure KeepS (S : Nat → Prop) (W W' : World) : Prop where
  os : W'.os = W.os
  tape : W'.tape = W.tape
  output : W'.output = W.output
  size : W.heap.size ≤ W'.heap.size
  block : ∀ i, i < W.heap.size → ¬ S i → W'.heap[i]? = W.heap[i]?
/-- S' is S and perhaps blocks that are new since W -/
def Grows (S S' : Nat → Prop) (W : World) : Prop := ∀ i, S' i → S i ∨ W.heap.size ≤ i
section
variable {S S' S'' : Nat → Prop} {A B C : World}
theorem KeepS.refl (S : Nat → Prop) (W : World) : KeepS S W W := ⟨rfl, rfl, rfl, Nat.le_refl _, fun _ _ _ => rfl⟩
theorem Grows.refl (S : Nat → Prop) (W : World) : Grows S S W := fun _ h => .inl h
theorem Grows.trans (h : Grows S S' A) (k : Grows S' S'' B) (hs : A.heap.size ≤ B.heap.size) : Grows S S'' A := fun i hi => (k i hi).elim (h i) (fun h2 => .inr (by omega))
theorem Grows.not (h : Grows S S' A) {i : Nat} (hi : i < A.heap.size) (hn : ¬ S i) : ¬ S' i := fun h2 => (h i h2).elim hn (fun h3 => by omega)
theorem KeepS.trans (h : KeepS S A B) (hg : Grows S S' A) (k : KeepS S' B C) : KeepS S A C :=
  ⟨k.os.trans h.os, k.tape.trans h.tape, k.output.trans h.output, Nat.le_trans h.size k.size, fun i hi hn => (k.block i (Nat.lt_of_lt_of_le hi h.size) (hg.not hi hn)).trans (h.block i hi hn)⟩
theorem KeepS.step (h : KeepS S A B) (k : KeepS S B C) : KeepS S A C := h.trans (Grows.refl S A) k
theorem KeepS.of_below (S : Nat → Prop) (h : Below A.heap.size A B) : KeepS S A B := ⟨h.os, h.tape, h.output, h.size, fun i hi _ => h.block i hi⟩
theorem KeepS.of_grown {row : Option Nat} (h : A.grownBy B row) (hr : ∀ r, row = some r → S r ∨ A.heap.size ≤ r) : KeepS S A B :=
  ⟨h.os, h.tape, h.output, h.size, fun i hi hn => h.block i hi (fun e => (hr i e.symm).elim hn (fun h => by omega))⟩
theorem KeepS.cell (h : KeepS S A B) {p : Addr} {v : Value} (hc : A.cell? p = some v) (hn : ¬ S p.block) : B.cell? p = some v := (World.cell?_of_block (h.block _ (World.block_lt_of_cell? A _ hc) hn)).trans hc
theorem KeepS.blk (h : KeepS S A B) {g : Nat} {t : TypeId} {cs : Array Value} (hb : Blk A g t cs) (hn : ¬ S g) : Blk B g t cs := (h.block _ hb.lt hn).trans hb
theorem KeepS.below {n : Nat} (h : KeepS S A B) (hn : n ≤ A.heap.size) (hS : ∀ i, S i → n ≤ i) : Below n A B := ⟨h.os, h.tape, h.output, h.size, fun i hi => h.block i (by omega) (fun e => by have := hS i e; omega)⟩
theorem KeepS.more (h : KeepS S A B) (hS : ∀ i, i < A.heap.size → S i → S' i) : KeepS S' A B := ⟨h.os, h.tape, h.output, h.size, fun i hi hn => h.block i hi (fun e => hn (hS i hi e))⟩
end

/-- the first beginning at which a round says 'no more', where pre has come and ys are still to come -/
def stopAt (go : List KV → Bool) : List KV → List KV → Option (List KV)
  | _, [] => none
  | pre, y :: ys => if go (pre ++ [y]) then stopAt go (pre ++ [y]) ys else some (pre ++ [y])
theorem stopAt_append (go : List KV → Bool) : ∀ (a pre b : List KV), stopAt go pre (a ++ b) = (stopAt go pre a).or (stopAt go (pre ++ a) b)
  | [], pre, b => by simp [stopAt]
  | y :: a, pre, b => by
    simp only [List.cons_append, stopAt]
    split
    · rw [stopAt_append go a]; simp
    · rfl
theorem stopAt_never {go : List KV → Bool} (h : ∀ q, go q = true) : ∀ (ys pre : List KV), stopAt go pre ys = none
  | [], _ => rfl
  | y :: ys, pre => by rw [stopAt, if_pos (h _), stopAt_never h ys]
/-- an invariant of a loop: what has come, the blocks that the rounds hold for their own -/
abbrev Inv := List KV → (Nat → Prop) → World → Prop
/-- it speaks of the blocks below B and of its own -/
def AbidesS (B : Nat) (J : Inv) : Prop := ∀ pre S W W' row, J pre S W → W.grownBy W' row → (∀ r, row = some r → B ≤ r ∧ ¬ S r) → J pre S W'
def Bounded (J : Inv) : Prop := ∀ pre S W, J pre S W → ∀ i, S i → i < W.heap.size
theorem AbidesS.mono {B B' : Nat} {J : Inv} (h : AbidesS B J) (hB : B ≤ B') : AbidesS B' J := fun pre S W W' row hs hg hr => h pre S W W' row hs hg (fun r e => ⟨by have := (hr r e).1; omega, (hr r e).2⟩)
theorem AbidesS.alloc {B : Nat} {J : Inv} (h : AbidesS B J) {pre : List KV} {S : Nat → Prop} {W : World} (hs : J pre S W) (ob : Obj) : J pre S (W.alloc ob) := h pre S W _ none hs (World.grownBy_alloc W ob none) (fun r e => by cases e)
theorem AbidesS.drew {B : Nat} {J : Inv} (h : AbidesS B J) {pre : List KV} {S : Nat → Prop} {W : World} (hs : J pre S W) : J pre S W.drew := h pre S W _ none hs ⟨rfl, rfl, rfl, Nat.le_refl _, fun _ _ _ => rfl⟩ (fun r e => by cases e)
theorem AbidesS.below {B : Nat} {J : Inv} (h : AbidesS B J) {pre : List KV} {S : Nat → Prop} {W W' : World} (hs : J pre S W) (hb : Below W.heap.size W W') : J pre S W' := h pre S W W' none hs ⟨hb.os, hb.tape, hb.output, hb.size, fun k hk _ => hb.block k hk⟩ (fun r e => by cases e)
/-- what holds behind an iterator -/
def After (go : List KV → Bool) (J Jx : Inv) (pre ys : List KV) (S : Nat → Prop) (W : World) : Prop := match stopAt go pre ys with
  | none => J (pre ++ ys) S W
  | some q => Jx q S W
section
variable {go : List KV → Bool} {J Jx : Inv} {pre ys q : List KV} {S : Nat → Prop} {W : World}
theorem After.all (h : After go J Jx pre ys S W) (hs : stopAt go pre ys = none) : J (pre ++ ys) S W := by unfold After at h; rw [hs] at h; exact h
theorem After.stop (h : After go J Jx pre ys S W) (hs : stopAt go pre ys = some q) : Jx q S W := by unfold After at h; rw [hs] at h; exact h
theorem after_all (hs : stopAt go pre ys = none) (h : J (pre ++ ys) S W) : After go J Jx pre ys S W := by unfold After; rw [hs]; exact h
theorem after_stop (hs : stopAt go pre ys = some q) (h : Jx q S W) : After go J Jx pre ys S W := by unfold After; rw [hs]; exact h
end
/-- what a round owes -/
def Round (go : List KV → Bool) (J Jx : Inv) (q : List KV) (S : Nat → Prop) (W1 : World) (e : Ending) (W' : World) : Prop :=
  e = .returned (.bool (go q)) ∧ KeepS S W1 W' ∧ ∃ S', Grows S S' W1 ∧ (go q = true → J q S' W') ∧ (go q = false → Jx q S' W')
/-- the function value (g, lb), made in w, goes over xs: the rounds may hold the blocks o of w, and no other one of w, for their own -/
def SeqOf (P : Program) (g : Nat) (lb : Array Value) (xs : List KV) (o : Nat → Prop) (w : World) : Prop :=
  ∀ (n l : Nat) (go : List KV → Bool) (J Jx : Inv) (S : Nat → Prop) (W : World), Below w.heap.size w W → AbidesS W.heap.size J → AbidesS W.heap.size Jx → Bounded J →
    (∀ k pre x S W1, J pre S W1 → (pre ++ [x]) <+: xs → YieldAt Fence.wide k P l #[.string x.1, .string x.2] W1 (Round go J Jx (pre ++ [x]) S W1)) →
    J [] S W → (∀ i, i < w.heap.size → S i → o i) →
    CallsIn Fence.wide n P g (#[.func (.yield l) #[] #[]] ++ lb) W fun e W' => (∃ v, e = .returned v) ∧ KeepS S W W' ∧ ∃ S', Grows S S' W ∧ After go J Jx [] xs S' W'
theorem SeqOf.later {P : Program} {g : Nat} {lb : Array Value} {xs : List KV} {o : Nat → Prop} {w w' : World} (h : SeqOf P g lb xs o w) (hb : Below w.heap.size w w') : SeqOf P g lb xs o w' :=
  fun n l go J Jx S W hW h1 h2 h3 h4 h5 h6 => h n l go J Jx S W (hb.trans (hW.mono hb.size)) h1 h2 h3 h4 h5 (fun i hi => h6 i (Nat.lt_of_lt_of_le hi hb.size))
/-- how the body of a round may be left -/
def bodyS (go : List KV → Bool) (I : Inv) (Ix : Code → Inv) (q : List KV) (S : Nat → Prop) (W : World) : Exit → Act → World → Prop
  | .normal, _, W' => go q = true ∧ KeepS S W W' ∧ ∃ S', Grows S S' W ∧ I q S' W'
  | .ret, _, W' => go q = false ∧ KeepS S W W' ∧ ∃ S', Grows S S' W ∧ Ix .ret q S' W'
  | .exit id, _, W' => go q = false ∧ KeepS S W W' ∧ ∃ S', Grows S S' W ∧ Ix (.exit id) q S' W'
  | .goto t, _, W' => go q = false ∧ KeepS S W W' ∧ ∃ S', Grows S S' W ∧ Ix (.goto t) q S' W'
  | .panic _, _, _ => False
  | .outgrown, _, _ => False

/-- the two blocks that a loop lays: the calls put off in its rounds at D, its record behind them -/
structure Books (R : LoopState → Option Code → Loop) (D : Nat) (st : LoopState) (pe : Option Code) (W : World) : Prop where
  loop : W.heap[D + 1]? = some (.loop (R st pe))
  off : W.heap[D]? = some (.deferred (some []))
section
variable {R : LoopState → Option Code → Loop} {D : Nat} {st : LoopState} {pe : Option Code} {W W' : World}
theorem Books.lt (h : Books R D st pe W) : D + 1 < W.heap.size := (Array.getElem?_eq_some_iff.1 h.loop).1
theorem Books.keep {S : Nat → Prop} (h : Books R D st pe W) (k : KeepS S W W') (h0 : ¬ S D) (h1 : ¬ S (D + 1)) : Books R D st pe W' := ⟨(k.block _ h.lt h1).trans h.loop, (k.block _ (by have := h.lt; omega) h0).trans h.off⟩
theorem Books.turn (h : Books R D st pe W) (st' : LoopState) (pe' : Option Code) : Books R D st' pe' (W.putObj (D + 1) (.loop (R st' pe'))) :=
  ⟨World.putObj_heap_same h.lt, (World.putObj_heap_other (by omega)).trans h.off⟩
theorem Books.grown {row : Option Nat} (h : Books R D st pe W) (hg : W.grownBy W' row) (hr : ∀ r, row = some r → D + 1 < r) : Books R D st pe W' := by
  have h1 := h.lt
  exact ⟨(hg.block _ h1 (fun e => by have := hr _ e.symm; omega)).trans h.loop, (hg.block _ (by omega) (fun e => by have := hr _ e.symm; omega)).trans h.off⟩
end
/-- the rounds' own blocks, as the iterator sees them: the body's own and the loop's two -/
def plus (S : Nat → Prop) (D : Nat) : Nat → Prop := fun i => S i ∨ i = D ∨ i = D + 1
/-- the loop's invariant, as the iterator sees it -/
def seen (R : LoopState → Option Code → Loop) (D : Nat) (I : Inv) (st : LoopState) (pe : Option Code) : Inv := fun pre S W => ∃ S₁, S = plus S₁ D ∧ ¬ S₁ D ∧ ¬ S₁ (D + 1) ∧ I pre S₁ W ∧ Books R D st pe W
theorem seen_abides {R : LoopState → Option Code → Loop} {D B : Nat} {I : Inv} (hI : AbidesS D I) (hB : D + 1 < B) (st : LoopState) (pe : Option Code) : AbidesS B (seen R D I st pe) := fun pre S W W' row hs hg hr => by
  obtain ⟨S₁, rfl, n0, n1, hi, hk⟩ := hs
  exact ⟨S₁, rfl, n0, n1, hI _ _ _ _ _ hi hg (fun r e => ⟨by have := (hr r e).1; omega, fun h => (hr r e).2 (.inl h)⟩), hk.grown hg (fun r e => by have := (hr r e).1; omega)⟩

section
variable {P : Program} {n : Nat}
/-- a loop over such an iterator -/
theorem range_seq {g : Operand} {ps : Array Tmp} {assign body : Code} {Q : Exit → Act → World → Prop} {a : Act} {w w0 : World} {gf : Nat} {lb : Array Value} {xs : List KV} {o : Nat → Prop}
    (hg : a.eval g = .func (.func gf) #[] lb) (eg : ∀ args w, (callFunc gf args).run P w = .ok (.enter gf args) w)
    (hseq : SeqOf P gf lb xs o w0) (hb0 : Below w0.heap.size w0 w) (hps : ps.size = 2)
    (go : List KV → Bool) (I : Inv) (Ix : Code → Inv) (hI : AbidesS w.heap.size I) (hIx : ∀ c, AbidesS w.heap.size (Ix c)) (hIb : Bounded I) (S : Nat → Prop) (h0 : I [] S w) (hS : ∀ i, i < w0.heap.size → S i → o i) (a₁ : KV → Act)
    (hassign : ∀ (l k : Nat) (x : KV) (W : World) (K : Act → World → Prop), K (a₁ x) W →
      assign.wpIn (Fence.wide.inRound l) k P (Exit.then K (fun _ _ _ => False)) { tmps := (ps.zip #[.string x.1, .string x.2]).foldl (fun t (p, v) => t.setIfInBounds p v) a.tmps, defers := [] } W)
    (hbody : ∀ (l k : Nat) (pre : List KV) (x : KV) (S : Nat → Prop) (W : World), I pre S W → (pre ++ [x]) <+: xs → body.wpIn (Fence.wide.inRound l) k P (bodyS go I Ix (pre ++ [x]) S W) (a₁ x) W)
    (hdone : ∀ (D : Nat) (S' : Nat → Prop) (W : World), w.heap.size ≤ D → stopAt go [] xs = none → KeepS S w W → Grows S S' w → ¬ S' D → I xs S' W → W.heap[D]? = some (.deferred (some [])) → Q .normal { a with defers := { target := .collected D, args := #[] } :: a.defers } W)
    (hstop : ∀ (D : Nat) (c : Code) (q : List KV) (S' : Nat → Prop) (W : World), w.heap.size ≤ D → stopAt go [] xs = some q → KeepS S w W → Grows S S' w → ¬ S' D → Ix c q S' W → W.heap[D]? = some (.deferred (some [])) → c.wpIn Fence.wide n P Q { a with defers := { target := .collected D, args := #[] } :: a.defers } W) :
    (Code.rangeFunc g ps assign body).wpIn Fence.wide n P Q a w := by
  refine wpIn_rangeFunc fun fn hfn => ?_
  obtain ⟨R, hR⟩ : ∃ R : LoopState → Option Code → Loop, R = fun st pe => { state := st, pending := pe, fn, tmps := a.tmps, params := ps, assign, body, defers := w.heap.size } := ⟨_, rfl⟩
  obtain ⟨W1, hW1⟩ : ∃ W1, W1 = (w.alloc (.deferred (some []))).alloc (.loop (R .ready none)) := ⟨_, rfl⟩
  have hz : W1.heap.size = w.heap.size + 1 + 1 := by rw [hW1]; simp
  have hbel : Below w.heap.size w W1 := by rw [hW1]; exact ((Below.refl _ w).alloc (Nat.le_refl _) _).alloc (by simp) _
  have books1 : Books R w.heap.size .ready none W1 := by
    rw [hW1]
    refine ⟨?_, (Below.heap_alloc _ _ _ (by simp)).trans (World.alloc_heap_new w _)⟩
    have := World.alloc_heap_new (w.alloc (.deferred (some []))) (.loop (R .ready none))
    rwa [World.size_alloc] at this
  have hI1 : I [] S W1 := hI.below h0 hbel
  have nS : ∀ i, w.heap.size ≤ i → ¬ S i := fun i hi h => by have := hIb _ _ _ h0 i h; omega
  refine ⟨w.heap.size + 1, [{ target := .collected w.heap.size, args := #[] }], W1, { target := .fn (.func gf) lb, args := #[.func (.yield (w.heap.size + 1)) #[] #[]] }, W1, gf,
    #[.func (.yield (w.heap.size + 1)) #[] #[]] ++ lb, W1, ?_, ?_, fun _ _ => trivial, ?_, fun hd => (by cases hd), ?_⟩
  · rw [hW1, hR]; exact run_enterLoop_outer _ _ _ _ _
  · simp only [resolve, hg]
    simp [go_sem]
  · simp [invoke, go_sem, eg]
  refine (hseq (n - 1) (w.heap.size + 1) go (seen R w.heap.size I .ready none) (fun q S W => ∃ c, seen R w.heap.size (Ix c) .done (some c) q S W) (plus S w.heap.size) W1
    (hb0.trans (hbel.mono hb0.size)) (seen_abides hI (by omega) _ _)
    (fun pre S W W' row hs hg hr => by obtain ⟨c, hc⟩ := hs; exact ⟨c, seen_abides (hIx c) (by omega) _ _ pre S W W' row hc hg hr⟩)
    (fun pre S W hs i hi => by
      obtain ⟨S₁, rfl, _, _, h1, hk⟩ := hs
      have := hk.lt
      rcases hi with hi | rfl | rfl
      · exact hIb _ _ _ h1 i hi
      · omega
      · omega)
    ?_ ⟨S, rfl, nS _ (Nat.le_refl _), nS _ (by omega), hI1, books1⟩
    (fun i hi hs => by
      have := hb0.size
      rcases hs with hs | rfl | rfl
      · exact hS i hi hs
      · omega
      · omega)).mono ?_
  · rintro k pre x _ W ⟨S₁, rfl, n0, n1, hi, hk⟩ hpre
    have hy := run_yield (P := P) (args := #[.string x.1, .string x.2]) hk.loop (by rw [hR]; simp [hps])
    have hbeg := run_beginRound (P := P) hk.loop (by rw [hR])
    rw [show ({ R .ready none with state := .busy } : Loop) = R .busy none by rw [hR]] at hbeg
    have hk2 := hk.turn .busy none
    have hi2 : I pre S₁ (W.putObj (w.heap.size + 1) (.loop (R .busy none))) := hI _ _ _ _ _ hi (grownBy_putObj' W _ _) (fun r e => by cases e; exact ⟨by omega, n1⟩)
    have keepPut : ∀ (U : World) (ob : Obj), KeepS (plus S₁ w.heap.size) U (U.putObj (w.heap.size + 1) ob) := fun U ob => KeepS.of_grown (grownBy_putObj' _ _ _) (fun r e => by cases e; exact .inl (.inr (.inr rfl)))
    have hlt := hk.lt
    rw [hR] at hy
    refine ⟨fn, _, assign, body, hy, roundIn_of_wpIn hfn (hassign _ _ x W _ ⟨_, hbeg, ?_⟩)⟩
    refine wpIn_mono (hbody _ _ pre x S₁ _ hi2 hpre) ?_
    have fin : ∀ (jump : Option Code) (W3 : World) (S₂ : Nat → Prop), KeepS S₁ (W.putObj (w.heap.size + 1) (.loop (R .busy none))) W3 → Grows S₁ S₂ (W.putObj (w.heap.size + 1) (.loop (R .busy none))) →
        (Instr.endRound (w.heap.size + 1) jump).run P W3 = .ok (.bool jump.isNone) (W3.putObj (w.heap.size + 1) (.loop (R (if jump.isNone then .ready else .done) jump))) ∧ Books R w.heap.size .busy none W3 ∧
        KeepS (plus S₁ w.heap.size) W (W3.putObj (w.heap.size + 1) (.loop (R (if jump.isNone then .ready else .done) jump))) ∧ Grows (plus S₁ w.heap.size) (plus S₂ w.heap.size) W ∧ ¬ S₂ w.heap.size ∧ ¬ S₂ (w.heap.size + 1) := fun jump W3 S₂ hk3 hg3 => by
      have hb3 := hk2.keep hk3 n0 n1
      have he := run_endRound (P := P) jump hb3.loop
      rw [show ({ R .busy none with state := if jump.isNone then .ready else .done, pending := jump } : Loop) = R (if jump.isNone then .ready else .done) jump by rw [hR]] at he
      have g2 : Grows S₁ S₂ W := by intro i hi; have := hg3 i hi; simpa using this
      exact ⟨he, hb3, ((keepPut _ _).step (hk3.more (fun _ _ h => .inl h))).step (keepPut _ _), fun i hi => hi.elim (fun h => (g2 i h).elim (fun h => .inl (.inl h)) .inr) (fun h => .inl (.inr h)), g2.not (by omega) n0, g2.not (by omega) n1⟩
    have leave : ∀ (c : Code) (W3 : World), (go (pre ++ [x]) = false ∧ KeepS S₁ (W.putObj (w.heap.size + 1) (.loop (R .busy none))) W3 ∧ ∃ S₂, Grows S₁ S₂ (W.putObj (w.heap.size + 1) (.loop (R .busy none))) ∧ Ix c (pre ++ [x]) S₂ W3) →
        ∃ v w', (Instr.endRound (w.heap.size + 1) (some c)).run P W3 = .ok v w' ∧ Round go (seen R w.heap.size I .ready none) (fun q S W => ∃ c, seen R w.heap.size (Ix c) .done (some c) q S W) (pre ++ [x]) (plus S₁ w.heap.size) W (.returned v) w' := fun c W3 h => by
      obtain ⟨hgo, hk3, S₂, hg3, hi3⟩ := h
      obtain ⟨hr, hb3, hf, hg4, m0, m1⟩ := fin (some c) W3 S₂ hk3 hg3
      exact ⟨_, _, hr, by rw [hgo]; rfl, hf, _, hg4, (fun h => by rw [hgo] at h; cases h), fun _ => ⟨c, S₂, rfl, m0, m1, hIx c _ _ _ _ _ hi3 (grownBy_putObj' W3 _ _) (fun r e => by cases e; exact ⟨by omega, m1⟩), hb3.turn _ _⟩⟩
    rintro e a3 W3 hp
    cases e with
    | normal =>
      obtain ⟨hgo, hk3, S₂, hg3, hi3⟩ := hp
      obtain ⟨hr, hb3, hf, hg4, m0, m1⟩ := fin none W3 S₂ hk3 hg3
      exact ⟨_, _, hr, by rw [hgo]; rfl, hf, _, hg4, (fun _ => ⟨S₂, rfl, m0, m1, hI _ _ _ _ _ hi3 (grownBy_putObj' W3 _ _) (fun r e => by cases e; exact ⟨by omega, m1⟩), hb3.turn _ _⟩), fun h => by rw [hgo] at h; cases h⟩
    | ret => exact leave _ _ hp
    | exit id => exact leave _ _ hp
    | goto t => exact leave _ _ hp
    | panic ch => exact hp.elim
    | outgrown => exact hp.elim
  · rintro e W2 ⟨⟨v, rfl⟩, hkeep, S', hg', ha⟩
    have kp : ∀ {ob : Obj}, KeepS S w (W2.putObj (w.heap.size + 1) ob) := fun {ob} => by
      refine (KeepS.of_below S hbel).trans (S' := plus S w.heap.size) (fun i hi => hi.elim .inl (fun h => .inr (by omega))) (hkeep.trans hg' (KeepS.of_grown (grownBy_putObj' W2 _ _) (fun r e => ?_)))
      cases e
      cases hs : stopAt go [] xs with
      | none => obtain ⟨S₁, rfl, _⟩ := ha.all hs; exact .inl (.inr (.inr rfl))
      | some q => obtain ⟨c, S₁, rfl, _⟩ := ha.stop hs; exact .inl (.inr (.inr rfl))
    have gr : ∀ S₁, S' = plus S₁ w.heap.size → Grows S S₁ w := fun S₁ e i hi => by
      have := hg' i (by rw [e]; exact .inl hi)
      rcases this with (h | h | h) | h
      · exact .inl h
      · exact .inr (by omega)
      · exact .inr (by omega)
      · exact .inr (by omega)
    cases hs : stopAt go [] xs with
    | none =>
      obtain ⟨S₁, e1, m0, m1, hi, hk⟩ := ha.all hs
      have he := run_endLoop (P := P) hk.loop (by rw [hR]; simp)
      exact ⟨_, _, he, by
        simp only [show (R .ready none).pending = none by rw [hR]]
        exact hdone _ S₁ _ (Nat.le_refl _) hs kp (gr S₁ e1) m0 (hI _ _ _ _ _ hi (grownBy_putObj' W2 _ _) (fun r e => by cases e; exact ⟨by omega, m1⟩)) ((World.putObj_heap_other (by omega)).trans hk.off)⟩
    | some q =>
      obtain ⟨c, S₁, e1, m0, m1, hi, hk⟩ := ha.stop hs
      have he := run_endLoop (P := P) hk.loop (by rw [hR]; simp)
      exact ⟨_, _, he, by
        simp only [show (R .done (some c)).pending = some c by rw [hR]]
        exact hstop _ c q S₁ _ (Nat.le_refl _) hs kp (gr S₁ e1) m0 (hIx c _ _ _ _ _ hi (grownBy_putObj' W2 _ _) (fun r e => by cases e; exact ⟨by omega, m1⟩)) ((World.putObj_heap_other (by omega)).trans hk.off)⟩
end
end Go.Proofs.Ytpjndgcliegloaa.W
