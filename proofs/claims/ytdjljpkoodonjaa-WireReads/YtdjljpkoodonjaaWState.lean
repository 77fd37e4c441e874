/-
  What a reader's state becomes, and a block of memory that is known whole. No program is named here but for the number of a type.
-/
import Derived.Test.YtdjljpkoodonjaaWDec
namespace Go.Proofs.Ytdjljpkoodonjaa.W
open Go.RowKit

/-- block g is just the cells cs of element type t, none frozen -/
def Blk (w : World) (g : Nat) (t : TypeId) (cs : Array Value) : Prop := w.heap[g]? = some (.cells cs t (0, 0))
section
variable {w w' : World} {g : Nat} {t : TypeId} {cs : Array Value}
theorem Blk.lt (h : Blk w g t cs) : g < w.heap.size := by
  rcases Nat.lt_or_ge g w.heap.size with hlt | hge
  · exact hlt
  · unfold Blk at h; rw [Array.getElem?_eq_none hge] at h; cases h
theorem Blk.cell (h : Blk w g t cs) (i : Nat) : w.cell? ⟨g, i, none⟩ = cs[i]? := cell_of_row w g i cs t (0, 0) h
theorem Blk.frozen (h : Blk w g t cs) (i : Nat) : w.frozen? ⟨g, i, none⟩ = false := by
  unfold Blk at h
  simp [World.frozen?, h]
theorem Blk.new (w : World) (t : TypeId) (cs : Array Value) : Blk (w.alloc (.cells cs t)) w.heap.size t cs := heap_alloc_new w _
theorem Blk.alloc (h : Blk w g t cs) (o : Obj) : Blk (w.alloc o) g t cs := (Below.heap_alloc w o g h.lt).trans h
theorem Blk.set_ (h : Blk w g t cs) (i : Nat) (u : Value) : Blk (w.setCell ⟨g, i, none⟩ u) g t (cs.setIfInBounds i u) := by
  unfold Blk at h ⊢
  simp [World.setCell, Array.getElem?_modify, h]
theorem Blk.far (h : Blk w g t cs) {p : Addr} (hp : g ≠ p.block) (u : Value) : Blk (w.setCell p u) g t cs := (Below.heap_setCell w p u g hp).trans h
theorem Blk.below {B : Nat} (h : Blk w g t cs) (hb : Below B w w') (hg : g < B) : Blk w' g t cs := (hb.block g hg).trans h
theorem Blk.grown {row : Option Nat} (h : Blk w g t cs) (hb : w.grownBy w' row) (hg : some g ≠ row) : Blk w' g t cs := (hb.block g h.lt hg).trans h
end

/-- only block g, and what is new, has turned -/
theorem only_refl (w : World) (r : Option Nat) : w.grownBy w r := ⟨rfl, rfl, rfl, Nat.le_refl _, fun _ _ _ => rfl⟩
theorem only_trans {a b c : World} {r : Option Nat} (h : a.grownBy b r) (k : b.grownBy c r) : a.grownBy c r :=
  ⟨k.os.trans h.os, k.tape.trans h.tape, k.output.trans h.output, Nat.le_trans h.size k.size, fun i hi hne => (k.block i (Nat.lt_of_lt_of_le hi h.size) hne).trans (h.block i hi hne)⟩
theorem only_of_below {a b c : World} {r : Option Nat} (h : a.grownBy b r) {B : Nat} (k : Below B b c) (hB : a.heap.size ≤ B) : a.grownBy c r :=
  ⟨k.os.trans h.os, k.tape.trans h.tape, k.output.trans h.output, Nat.le_trans h.size k.size, fun i hi hne => (k.block i (by omega)).trans (h.block i hi hne)⟩
theorem only_set {a b : World} {g : Nat} (h : a.grownBy b (some g)) (i : Nat) (u : Value) : a.grownBy (b.setCell ⟨g, i, none⟩ u) (some g) :=
  ⟨h.os, h.tape, h.output, by have := h.size; simpa [World.setCell] using this, fun k hk hne => (Below.heap_setCell b ⟨g, i, none⟩ u k (fun e => hne (by rw [e]))).trans (h.block k hk hne)⟩
theorem below_of_only {a b : World} {g B : Nat} (h : a.grownBy b (some g)) (hg : B ≤ g) (hB : B ≤ a.heap.size) : Below B a b :=
  ⟨h.os, h.tape, h.output, h.size, fun k hk => h.block k (by omega) (fun e => by cases e; omega)⟩

/-- the reader at block b holds the bytes s and the error e -/
def RdAt (w : World) (b : Nat) (s : ByteArray) (e : Int) : Prop := Blk w b 57 #[.string s, .int .i64 e]

/-- a number is read -/
def stNum (s : ByteArray) (e : Int) : (ByteArray × Int) × Nat :=
  if e ≠ 0 then ((s, e), 0) else if (dec s.data.toList).2.2 ≠ 0 then ((s, (dec s.data.toList).2.2), 0) else ((s.extract (dec s.data.toList).2.1 s.size, 0), (dec s.data.toList).1)
/-- a length is read -/
def stLen (s : ByteArray) (e : Int) (most : Nat) : (ByteArray × Int) × Nat :=
  if most < (stNum s e).2 then (((stNum s e).1.1, 4), 0) else stNum s e
def stText (s : ByteArray) (e : Int) : (ByteArray × Int) × ByteArray :=
  let r := stLen s e 65536
  if r.1.2 ≠ 0 then (r.1, .empty) else if r.1.1.size < r.2 then ((r.1.1, 5), .empty) else ((r.1.1.extract r.2 r.1.1.size, 0), r.1.1.extract 0 r.2)
def listFrom : Nat → ByteArray → List ByteArray → (ByteArray × Int) × List ByteArray
  | 0, s, acc => ((s, 0), acc)
  | k + 1, s, acc => if (stText s 0).1.2 ≠ 0 then ((stText s 0).1, []) else listFrom k (stText s 0).1.1 (acc ++ [(stText s 0).2])
def stList (s : ByteArray) (e : Int) : (ByteArray × Int) × List ByteArray :=
  let r := stLen s e 256
  if r.1.2 ≠ 0 then (r.1, []) else listFrom r.2 r.1.1 []
def stDone (s : ByteArray) (e : Int) : Int := if e ≠ 0 then e else if s.size = 0 then 0 else 6

/-- facts on what is decoded -/
theorem dec_facts (l : List UInt8) : (dec l).1 ≤ 9007199254740992 ∧ (dec l).2.1 ≤ l.length ∧ ((dec l).2.2 = 0 ∨ (dec l).2.2 = 3 ∨ (dec l).2.2 = 5 ∨ (dec l).2.2 = 6) := by
  cases l with
  | nil => simp [dec]
  | cons k d =>
    rw [dec]
    by_cases h1 : 7 < k.toNat
    · rw [if_pos h1]; simp
    · rw [if_neg h1]
      by_cases h2 : 0 < k.toNat ∧ d.head? = some 0
      · rw [if_pos h2]; simp
      · rw [if_neg h2]
        by_cases h3 : d.length < k.toNat
        · rw [if_pos h3]; simp
        · rw [if_neg h3]
          by_cases h4 : 9007199254740992 < val (d.take k.toNat)
          · rw [if_pos h4]; simp
          · rw [if_neg h4]
            refine ⟨by simp only; omega, ?_, by simp⟩
            simp only [List.length_cons]
            omega
theorem stNum_facts (s : ByteArray) (e : Int) : (stNum s e).2 ≤ 9007199254740992 ∧ (stNum s e).1.1.size ≤ s.size ∧ ((stNum s e).1.2 ≠ 0 → (stNum s e).2 = 0) := by
  have hf := dec_facts s.data.toList
  unfold stNum
  split
  · simp
  · split
    · simp
    · refine ⟨hf.1, ?_, by simp⟩
      simp only [← size_list, ex_list, List.length_take, List.length_drop]
      omega
theorem stNum_err (s : ByteArray) {e : Int} (h : e ≠ 0) : stNum s e = ((s, e), 0) := by simp [stNum, h]
theorem stLen_err (s : ByteArray) {e : Int} (h : e ≠ 0) (m : Nat) : stLen s e m = ((s, e), 0) := by simp [stLen, stNum_err s h]
theorem stText_err (s : ByteArray) {e : Int} (h : e ≠ 0) : stText s e = ((s, e), .empty) := by simp [stText, stLen_err s h, h]
theorem stList_err (s : ByteArray) {e : Int} (h : e ≠ 0) : stList s e = ((s, e), []) := by simp [stList, stLen_err s h, h]
theorem stLen_facts (s : ByteArray) (e : Int) (m : Nat) : (stLen s e m).2 ≤ m ∧ (stLen s e m).1.1.size ≤ s.size := by
  have hf := stNum_facts s e
  unfold stLen
  split
  · exact ⟨Nat.zero_le _, hf.2.1⟩
  · exact ⟨by omega, hf.2.1⟩
theorem stLen_zero (s : ByteArray) (e : Int) (m : Nat) (h : (stLen s e m).1.2 ≠ 0) : (stLen s e m).2 = 0 := by
  have hf := stNum_facts s e
  unfold stLen at h ⊢
  split
  · rfl
  · next hm => rw [if_neg hm] at h; exact hf.2.2 h
theorem stText_facts (s : ByteArray) (e : Int) : (stText s e).1.1.size ≤ s.size ∧ (stText s e).2.size ≤ 65536 := by
  have hf := stLen_facts s e 65536
  unfold stText
  simp only
  split
  · exact ⟨hf.2, by simp [ByteArray.size]⟩
  · split
    · exact ⟨hf.2, by simp [ByteArray.size]⟩
    · simp only [← size_list, ex_list, List.length_take, List.length_drop]
      rw [size_list]
      have h2 := hf.2
      rw [size_list]
      omega
end Go.Proofs.Ytdjljpkoodonjaa.W
