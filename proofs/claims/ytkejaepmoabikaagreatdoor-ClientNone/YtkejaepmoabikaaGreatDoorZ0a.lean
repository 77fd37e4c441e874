import Derived.Test.YtkejaepmoabikaaGreatDoorProg
import Derived.WalkKit
import Derived.Handy
import Derived.Lib.BitFns
import Derived.Lib.Hide
import Derived.WalkSpells
import Derived.WalkLawsBesides
import Derived.Lib.BufSteps
import Derived.Deep.QuietTactic
import Derived.BigQuiet
import Derived.ScopeJumps
import Derived.Lib.ItoaNum
import Derived.Test.YtkejaepmoabikaaGreatDoorShelf
import Derived.Lib.ItoaMem
import Derived.Lib.SmallJoins
import Derived.Lib.Replace
import Derived.Lib.SplitLaws
import Derived.Lib.Join
import Derived.Lib.ReplaceLaws
import Derived.WideShapes
import Derived.OwnWalk
import Derived.Deep.RegionHeld3
import Derived.Deep.AppendLies
import Derived.StillTactics
import Derived.Lib.AtoiTie
namespace Go.Proofs.YtkejaepmoabikaaGreatDoor.W
def bs (l : List UInt8) : ByteArray := ⟨l.toArray⟩
theorem bs_data (l : List UInt8) : (bs l).data.toList = l := rfl
theorem bs_of (s : ByteArray) : bs s.data.toList = s := by cases s; rfl
theorem bs_inj {a b : List UInt8} (h : bs a = bs b) : a = b := by rw [← bs_data a, ← bs_data b, h]
theorem bs_size (l : List UInt8) : (bs l).size = l.length := by simp [bs, ByteArray.size]
theorem size_list (s : ByteArray) : s.data.toList.length = s.size := by rw [Array.length_toList]; rfl
theorem bs_append (a b : List UInt8) : bs a ++ bs b = bs (a ++ b) := by
 apply ByteArray.ext
 simp [bs, ByteArray.data_append]
theorem snocInd {α : Type} {P : List α → Prop} (h0 : P []) (h1 : ∀ l a, P l → P (l ++ [a])) (l : List α) : P l := by
 have : ∀ r : List α, P r.reverse := by
  intro r
  induction r with
  | nil => exact h0
  | cons a r ih => rw [List.reverse_cons]; exact h1 _ _ ih
 have h := this l.reverse
 rwa [List.reverse_reverse] at h
theorem toNat_ofNat {n : Nat} (h : n < 256) : (UInt8.ofNat n).toNat = n := by
 rw [UInt8.toNat_ofNat']; omega
theorem ofNat_toNat (b : UInt8) : UInt8.ofNat b.toNat = b := by
 apply UInt8.toNat_inj.1
 rw [toNat_ofNat b.toNat_lt]
theorem take_snoc (s : ByteArray) (k : Nat) (h : k < s.size) : s.data.toList.take (k + 1) = s.data.toList.take k ++ [s[k]] := by
 rw [List.take_succ_eq_append_getElem (by simpa using h)]; rfl
theorem head_app {α : Type} {a b : List α} (h : a ≠ []) : (a ++ b).head? = a.head? := by
 cases a with
 | nil => exact absurd rfl h
 | cons x r => rfl
def be (n : Nat) : List UInt8 := if _h : n = 0 then [] else be (n / 256) ++ [UInt8.ofNat (n % 256)]
termination_by n
decreasing_by omega
theorem be_zero : be 0 = [] := by rw [be]; simp
theorem be_pos {n : Nat} (h : n ≠ 0) : be n = be (n / 256) ++ [UInt8.ofNat (n % 256)] := by rw [be]; simp [h]
def val (l : List UInt8) : Nat := l.foldl (fun n b => n * 256 + b.toNat) 0
theorem val_nil : val [] = 0 := rfl
theorem val_snoc (l : List UInt8) (b : UInt8) : val (l ++ [b]) = val l * 256 + b.toNat := by simp [val]
theorem val_lt (l : List UInt8) : val l < 256 ^ l.length := by
 induction l using snocInd with
 | h0 => simp [val]
 | h1 l b ih =>
  rw [val_snoc, List.length_append, List.length_singleton, Nat.pow_succ]
  have := b.toNat_lt
  omega
theorem val_be (n : Nat) : val (be n) = n := by
 induction n using Nat.strongRecOn with
 | _ n ih =>
  by_cases h : n = 0
  ·subst h; rw [be_zero]; rfl
  ·rw [be_pos h, val_snoc, ih (n / 256) (by omega), toNat_ofNat (by omega)]; omega
theorem be_len_le (n k : Nat) (h : n < 256 ^ k) : (be n).length ≤ k := by
 induction k generalizing n with
 | zero => have : n = 0 := by simpa using h
           subst this; rw [be_zero]; simp
 | succ k ih =>
  by_cases hn : n = 0
  ·subst hn; rw [be_zero]; simp
  ·rw [be_pos hn, List.length_append, List.length_singleton]
   have := ih (n / 256) (by rw [Nat.pow_succ] at h; omega)
   omega
theorem be_head (n : Nat) : (be n).head? ≠ some 0 := by
 induction n using Nat.strongRecOn with
 | _ n ih =>
  by_cases h : n = 0
  ·subst h; rw [be_zero]; simp
  ·rw [be_pos h]
   by_cases hq : n / 256 = 0
   ·rw [hq, be_zero]
    simp only [List.nil_append, List.head?_cons, ne_eq, Option.some.injEq]
    intro he
    have := congrArg UInt8.toNat he
    rw [toNat_ofNat (by omega)] at this
    simp at this
    omega
   ·have hne : be (n / 256) ≠ [] := by
     intro he
     have := val_be (n / 256)
     rw [he, val_nil] at this
     omega
    rw [head_app hne]
    exact ih (n / 256) (by omega)
theorem be_val (l : List UInt8) (h : l.head? ≠ some 0) : be (val l) = l := by
 induction l using snocInd with
 | h0 => rw [val_nil, be_zero]
 | h1 l b ih =>
  rw [val_snoc]
  have hb := b.toNat_lt
  by_cases hl : l = []
  ·subst hl
   rw [val_nil]
   have hb0 : b ≠ 0 := by simpa using h
   have hbn : b.toNat ≠ 0 := fun e => hb0 (UInt8.toNat_inj.1 (by simpa using e))
   rw [be_pos (by omega), show (0 * 256 + b.toNat) / 256 = 0 by omega, be_zero, show (0 * 256 + b.toNat) % 256 = b.toNat by omega]
   simp
  ·rw [head_app hl] at h
   have hv : val l ≠ 0 := by
    intro e
    have := ih h
    rw [e, be_zero] at this
    exact hl this.symm
   rw [be_pos (by omega), show (val l * 256 + b.toNat) / 256 = val l by omega, show (val l * 256 + b.toNat) % 256 = b.toNat by omega, ih h]
   simp
def num (n : Nat) : List UInt8 := UInt8.ofNat (be n).length :: be n
def text (s : List UInt8) : List UInt8 := num s.length ++ s
def join (l : List (List UInt8)) : List UInt8 := num l.length ++ (l.map text).flatten
theorem be_at (n i : Nat) (h : i < (be n).length) : (be n)[(be n).length - 1 - i]'(by omega) = UInt8.ofNat (n / 256 ^ i % 256) := by
 induction i generalizing n with
 | zero =>
  have h0 : n ≠ 0 := by intro e; subst e; rw [be_zero] at h; simp at h
  have e := be_pos h0
  simp only [e, List.length_append, List.length_singleton, Nat.add_sub_cancel, Nat.sub_zero, Nat.pow_zero, Nat.div_one]
  simp
 | succ i ih =>
  have h0 : n ≠ 0 := by intro e; subst e; rw [be_zero] at h; simp at h
  have e := be_pos h0
  have hl : i < (be (n / 256)).length := by rw [e] at h; simp at h; omega
  have h2 := ih (n / 256) hl
  have hd : n / 256 / 256 ^ i = n / 256 ^ (i + 1) := by rw [Nat.div_div_eq_div_mul, Nat.pow_succ, Nat.mul_comm]
  rw [hd] at h2
  rw [← h2]
  simp only [e, List.length_append, List.length_singleton]
  rw [List.getElem_append_left (by omega)]
  congr 1
  omega
theorem be_take (n j : Nat) (h : j < (be n).length) : (be n).take (j + 1) = (be n).take j ++ [UInt8.ofNat (n / 256 ^ ((be n).length - 1 - j) % 256)] := by
 rw [List.take_succ_eq_append_getElem h, ← be_at n ((be n).length - 1 - j) (by omega)]
 congr 2
 congr 1
 omega
theorem num_len (n : Nat) : (num n).length = (be n).length + 1 := rfl
end Go.Proofs.YtkejaepmoabikaaGreatDoor.W
namespace Go.Proofs.YtkejaepmoabikaaGreatDoor.W
open Go.RowKit
open Lib renaming hid → qH
open _root_.Go.Proofs.Tryz renaming prog → qP
set_option maxHeartbeats 4000000
set_option maxRecDepth 100000
theorem tab_at (y c : Int) (h0 : 0 ≤ y) (h1 : y ≤ 255) (hc0 : 0 ≤ c) (hc1 : c ≤ 56) (h : y.toNat < Lib.len8tab.size) :
  wrap64 (c + wrap64 (Lib.len8tab[y.toNat].toNat : Int)) = c + (Lib.bitLen y.toNat : Int) := by
 have e := Lib.len8_of y h0 h1
 have l := Lib.bitLen_le8' y h0 h1
 have hb : (Lib.len8tab[y.toNat].toNat : Int) = (Lib.bitLen y.toNat : Int) := by
  rw [← e]
  unfold Lib.len8
  rw [ByteArray.getElem?_lt' _ _ h]
  rfl
 rw [hb]
 simp only [wrap64]
 omega
theorem tab_at0 (y : Int) (h0 : 0 ≤ y) (h1 : y ≤ 255) (h : y.toNat < Lib.len8tab.size) :
  wrap64 (wrap64 (Lib.len8tab[y.toNat].toNat : Int)) = (Lib.bitLen y.toNat : Int) := by
 have e := tab_at y 0 h0 h1 (by omega) (by omega) h
 rwa [Int.zero_add, Int.zero_add] at e
theorem len64 (x : Int) (w : World) (h0 : 0 ≤ x) (h1 : x ≤ 18446744073709551615) :
  Calls qP 157 #[.int .u64 x] w fun e w' => e = .returned (.int .i64 (Lib.bitLen x.toNat)) ∧ w = w' := by
 have hsz := Lib.len8tab_size
 go_enter Tryz.func157, Tryz.ntmps157
 go_wp2
 all_goals (go_ret; refine ⟨congrArg Ending.returned (congrArg (Value.int IntKind.i64) ?_), rfl⟩)
 ·rw [tab_at _ 56 (by omega) (by omega) (by omega) (by omega)]
  have e : (x / 4294967296 / 65536 / 256).toNat = x.toNat / 72057594037927936 := by omega
  have s := Lib.bitLen_shift56 x.toNat (by omega) (by omega)
  rw [e]; omega
 ·rw [tab_at _ 48 (by omega) (by omega) (by omega) (by omega)]
  have e : (x / 4294967296 / 65536).toNat = x.toNat / 281474976710656 := by omega
  have s := Lib.bitLen_shift48 x.toNat (by omega) (by omega)
  rw [e]; omega
 ·rw [tab_at _ 40 (by omega) (by omega) (by omega) (by omega)]
  have e : (x / 4294967296 / 256).toNat = x.toNat / 1099511627776 := by omega
  have s := Lib.bitLen_shift40 x.toNat (by omega) (by omega)
  rw [e]; omega
 ·rw [tab_at _ 32 (by omega) (by omega) (by omega) (by omega)]
  have e : (x / 4294967296).toNat = x.toNat / 4294967296 := by omega
  have s := Lib.bitLen_shift32 x.toNat (by omega) (by omega)
  rw [e]; omega
 ·rw [tab_at _ 24 (by omega) (by omega) (by omega) (by omega)]
  have e : (x / 65536 / 256).toNat = x.toNat / 16777216 := by omega
  have s := Lib.bitLen_shift24 x.toNat (by omega) (by omega)
  rw [e]; omega
 ·rw [tab_at _ 16 (by omega) (by omega) (by omega) (by omega)]
  have e : (x / 65536).toNat = x.toNat / 65536 := by omega
  have s := Lib.bitLen_shift16 x.toNat (by omega) (by omega)
  rw [e]; omega
 ·rw [tab_at _ 8 (by omega) (by omega) (by omega) (by omega)]
  have e : (x / 256).toNat = x.toNat / 256 := by omega
  have s := Lib.bitLen_shift8 x.toNat (by omega) (by omega)
  rw [e]; omega
 ·rw [tab_at0 _ (by omega) (by omega)]
theorem bitLen_zero : Lib.bitLen 0 = 0 := by decide +kernel
theorem bitLen_small (n : Nat) (h0 : n ≠ 0) (h : n < 256) : (Lib.bitLen n + 7) / 8 = 1 := by
 have := Lib.bitLen_le8 ⟨n, h⟩
 have h2 := Lib.bitLen_half n h0 (by omega)
 simp only at this
 omega
theorem be_len (n : Nat) (h : n < 18446744073709551616) : (be n).length = (Lib.bitLen n + 7) / 8 := by
 induction n using Nat.strongRecOn with
 | _ n ih =>
  by_cases h0 : n = 0
  ·subst h0; rw [be_zero, bitLen_zero]; rfl
  ·rw [be_pos h0, List.length_append, List.length_singleton]
   by_cases hs : n < 256
   ·rw [show n / 256 = 0 by omega, be_zero, bitLen_small n h0 hs]; rfl
   ·rw [ih (n / 256) (by omega) (by omega), Lib.bitLen_shift8 n (by omega) h]; omega
theorem step_below {w a b : World} (h : Below w.heap.size w a) (k : Below a.heap.size a b) : Below w.heap.size w b := h.trans (k.mono h.size)
theorem step_only {w a b : World} {g : Nat} (h : Below w.heap.size w a) (k : a.grownBy b (some g)) (hg : w.heap.size ≤ g) : Below w.heap.size w b := h.trans ⟨k.os, k.tape, k.output, k.size, fun i hi => k.block i (Nat.lt_of_lt_of_le hi h.size) (by intro e; injection e with e; omega)⟩
theorem Below.drewN {B : Nat} {a w : World} (h : Below B a w) (n : Nat) : Below B a (w.drewN n) := ⟨h.os, h.tape, h.output, h.size, h.block⟩
theorem quiet_below (w : World) (n : Nat) : Below w.heap.size w (w.drewN n) := ⟨rfl, rfl, rfl, Nat.le_refl _, fun _ _ => rfl⟩
def Blk (w : World) (g : Nat) (t : TypeId) (cs : Array Value) : Prop := w.heap[g]? = some (.cells cs t (0, 0))
section
variable {w w' : World} {g : Nat} {t : TypeId} {cs : Array Value}
theorem Blk.lt (h : Blk w g t cs) : g < w.heap.size := by
 rcases Nat.lt_or_ge g w.heap.size with hlt | hge
 ·exact hlt
 ·unfold Blk at h; rw [Array.getElem?_eq_none hge] at h; cases h
theorem Blk.cell (h : Blk w g t cs) (i : Nat) : w.cell? ⟨g, i, none⟩ = cs[i]? := cell_of_row w g i cs t (0, 0) h
theorem Blk.frozen (h : Blk w g t cs) (i : Nat) : w.frozen? ⟨g, i, none⟩ = false := by
 unfold Blk at h
 simp [World.frozen?, h]
theorem Blk.new (w : World) (t : TypeId) (cs : Array Value) : Blk (w.alloc (.cells cs t)) w.heap.size t cs := heap_alloc_new w _
theorem Blk.alloc (h : Blk w g t cs) (o : Obj) : Blk (w.alloc o) g t cs := (Below.heap_alloc w o g h.lt).trans h
theorem Blk.set_ (h : Blk w g t cs) (i : Nat) (u : Value) : Blk (w.setCell ⟨g, i, none⟩ u) g t (cs.setIfInBounds i u) := by
 unfold Blk at h ⊢
 simp [World.setCell, Array.getElem?_modify, h]
theorem Blk.far (h : Blk w g t cs) {p : Addr} (hp : g ≠ p.block) (u : Value) : Blk (w.setCell p u) g t cs := (Below.heap_setCell w p u g hp).trans h
theorem Blk.below {B : Nat} (h : Blk w g t cs) (hb : Below B w w') (hg : g < B) : Blk w' g t cs := (hb.block g hg).trans h
theorem Blk.grown {row : Option Nat} (h : Blk w g t cs) (hb : w.grownBy w' row) (hg : some g ≠ row) : Blk w' g t cs := (hb.block g h.lt hg).trans h
end
theorem only_refl (w : World) (r : Option Nat) : w.grownBy w r := ⟨rfl, rfl, rfl, Nat.le_refl _, fun _ _ _ => rfl⟩
theorem only_trans {a b c : World} {r : Option Nat} (h : a.grownBy b r) (k : b.grownBy c r) : a.grownBy c r :=
 ⟨k.os.trans h.os, k.tape.trans h.tape, k.output.trans h.output, Nat.le_trans h.size k.size, fun i hi hne => (k.block i (Nat.lt_of_lt_of_le hi h.size) hne).trans (h.block i hi hne)⟩
theorem only_of_below {a b c : World} {r : Option Nat} (h : a.grownBy b r) {B : Nat} (k : Below B b c) (hB : a.heap.size ≤ B) : a.grownBy c r :=
 ⟨k.os.trans h.os, k.tape.trans h.tape, k.output.trans h.output, Nat.le_trans h.size k.size, fun i hi hne => (k.block i (by omega)).trans (h.block i hi hne)⟩
theorem only_set {a b : World} {g : Nat} (h : a.grownBy b (some g)) (i : Nat) (u : Value) : a.grownBy (b.setCell ⟨g, i, none⟩ u) (some g) :=
 ⟨h.os, h.tape, h.output, by have := h.size; simpa [World.setCell] using this, fun k hk hne => (Below.heap_setCell b ⟨g, i, none⟩ u k (fun e => hne (by rw [e]))).trans (h.block k hk hne)⟩
def Since (w0 W : World) : Prop := W.os = w0.os ∧ W.tape = w0.tape ∧ W.output = w0.output ∧ w0.heap.size ≤ W.heap.size ∧ ∀ i, i < w0.heap.size → W.heap[i]? = w0.heap[i]?
theorem Since.refl (w : World) : Since w w := ⟨rfl, rfl, rfl, Nat.le_refl _, fun _ _ => rfl⟩
theorem Since.below {w0 W : World} (h : Since w0 W) : Below w0.heap.size w0 W := ⟨h.1, h.2.1, h.2.2.1, h.2.2.2.1, h.2.2.2.2⟩
theorem since_of {w0 W : World} (h : Below w0.heap.size w0 W) : Since w0 W := ⟨h.os, h.tape, h.output, h.size, h.block⟩
theorem Since.cell {w0 W : World} (h : Since w0 W) {p : Addr} {v : Value} (hc : w0.cell? p = some v) : W.cell? p = some v := (h.below.cell (World.block_lt_of_cell? w0 _ hc)).trans hc
theorem Since.after {a b c : World} (h : Since b c) (k : Since a b) : Below a.heap.size a c := step_below k.below h.below
theorem calls_since {P : Program} {f : FuncId} {args : Array Value} {w0 W : World} {x : Ending} (h : Calls P f args W fun e w' => e = x ∧ Below W.heap.size W w') (hs : Since w0 W) :
  Calls P f args W fun e w' => e = x ∧ Since w0 w' :=
 h.mono fun _ _ ⟨he, hb⟩ => ⟨he, since_of (step_below hs.below hb)⟩
theorem infoU8 : (qP.info? 5).map (fun i => (i.zero, i.size, i.bytes)) = some (some (.int .u8 0), 1, 1) := by kernel_rfl
def cells (l : List UInt8) : List Value := l.map fun b => Value.int .u8 b.toNat
theorem cells_append (a b : List UInt8) : cells (a ++ b) = cells a ++ cells b := by simp [cells]
theorem cells_len (a : List UInt8) : (cells a).length = a.length := by simp [cells]
theorem strCells_eq (s : ByteArray) : Lib.strCells s = cells s.data.toList := rfl
theorem OwnBuf_nil (w : World) (e : TypeId) : Lib.OwnBuf w.heap.size e (.slice none 0 0) 0 [] w w :=
 ⟨World.ownsRowF_nil _ _ _ _, Below.refl _ _, Nat.le_refl _⟩
theorem run_string (B : Nat) (v : Value) (l : List UInt8) (W0 w : World) (h : Lib.OwnBuf B 5 v l.length (cells l) W0 w) :
  (convert 121 9 v).run qP w = .ok (.string (bs l)) w := by
 rcases h.1.2 with ⟨rfl, hn⟩ | ⟨g, cap, cur, fz, rfl, _⟩
 ·have hl : l = [] := List.eq_nil_of_length_eq_zero hn
  subst hl
  exact run_convert_bytes_nil w 121 5 Tryz.underlying121 Tryz.underlying5 0 0 9 Tryz.underlying9
 ·refine run_convert_bytes_back w 121 9 5 ⟨g, 0, none⟩ cap l Tryz.underlying121 Tryz.underlying5 Tryz.underlying9 ?_
  intro j hj
  exact h.1.cells (g := g) rfl j _ (by simp [cells, hj])
theorem wpList_append_two {P : Program} {ops : Array Oper} {rest : List Oper} {o : Oper} {a : Act} {Q : Exit → Act → World → Prop} (hgd : o.guard = none) (s x : Operand) (t : TypeId)
  (ho : o.op = .call { callee := .builtin .append, args := #[s, x], argTypes := #[t, t] })
  (B : Nat) (e : TypeId) (i : TypeInfo) (ht : P.underlying t = some (.slice e)) (hi : P.info? e = some i) (hz : i.zero = some (.int .u8 0)) (hsize : i.size = 1) (hby : i.bytes = 1)
  (v : Value) (n : Nat) (xs : List Value) (hs : a.eval s = v) (W0 w0 : World) (c d : Int) (hb : Lib.OwnBuf B e v n xs W0 w0)
  (hx : a.eval x = .slice (some ⟨w0.heap.size, 0, none⟩) 2 2) (hlen : n + 2 ≤ 140737488355328)
  (h : ∀ v' w', Lib.OwnBuf B e v' (n + 2) (xs ++ [.int .u8 c, .int .u8 d]) W0 w' → wpList P ops Q rest (a.put o.dst v') w') : wpList P ops Q (o :: rest) a (w0.alloc (.cells #[.int .u8 c, .int .u8 d] e)) := by
 have hb' := hb.alloc (.cells #[.int .u8 c, .int .u8 d] e)
 refine wpList_append_ownF _ hgd s x t ho B e i (.int .u8 0) 1 1 ht hi hz hsize hby rfl (by decide) v n xs hs hb'.1 ⟨w0.heap.size, 0, none⟩ 2 2 [.int .u8 c, .int .u8 d] hx rfl ?_ ?_ (by unfold maxLen; omega) (by omega) hb'.2.2 ?_
 ·intro j u hj
  match j, hj with
  | 0, hj => simp at hj; subst hj; simp [Addr.add]
  | 1, hj => simp at hj; subst hj; simp [Addr.add]
  | (j + 2), hj => simp at hj
 ·intro u hu
  simp at hu
  rcases hu with rfl | rfl <;> rfl
 ·intro v' w' ho' hg _
  exact h v' w' (hb'.grown ho' hg)
theorem run_make0 (n : Nat) (h : n ≤ 140737488355328) (w : World) : (Instr.makeSlice 121 (.int .i64 0) (.int .i64 n)).run qP w = .ok (.slice (some ⟨w.heap.size, 0, none⟩) 0 n) (w.alloc (.cells (madeCells (Value.int .u8 0).cells n) 5)) := by
 obtain ⟨i0, hi, hz0, hz1, hz2⟩ := info_parts infoU8
 have hr := run_make (P := qP) w 121 5 i0 _ Tryz.underlying121 hi hz0 .i64 .i64 0 n (by omega) (by omega) (by rw [hz2]; omega) (by omega)
 rw [hz1] at hr
 simpa using hr
theorem OwnBuf_made (n : Nat) (h : n ≤ maxLen) (w : World) : Lib.OwnBuf w.heap.size 5 (.slice (some ⟨w.heap.size, 0, none⟩) 0 n) 0 [] w (w.alloc (.cells (madeCells (Value.int .u8 0).cells n) 5)) := by
 exact ⟨World.ownsRowF_of (World.ownsRow_made w _ n (Nat.le_refl _) h (by rw [size_madeCells, Nat.mul_one])), (Below.refl _ _).alloc (Nat.le_refl _) _, by simp⟩
theorem len64_bytes (n : Nat) (w : World) (hn : n ≤ 9007199254740992) :
  Calls qP 157 #[.int .u64 n] w fun e w' => ∃ m : Nat, e = .returned (.int .i64 m) ∧ ((m : Int) + 7) / 8 = ((be n).length : Nat) ∧ m ≤ 64 ∧ w = w' := by
 refine (len64 n w (by omega) (by omega)).mono ?_
 rintro e w' ⟨rfl, rfl⟩
 have hL := be_len n (by omega)
 refine ⟨Lib.bitLen n, by rw [Int.toNat_natCast], by rw [hL]; omega, ?_, rfl⟩
 exact Lib.bitLen_le n 64 (by omega) (by omega)
def part (n c j : Nat) : List Value := cells (UInt8.ofNat c :: (be n).take j)
theorem part_step {n c j B k : Nat} {xs : List Value} {v : Value} {W0 w : World} {T : TypeId} (hc : (be n).length = c) (hj : j < c)
  (h : Lib.OwnBuf B T v (k + 1 + j + 1) (xs ++ (part n c j ++ [Value.int .u8 ((n : Int) / 2 ^ (8 * (c - 1 - j)) % 256)])) W0 w) : Lib.OwnBuf B T v (k + 1 + (j + 1)) (xs ++ part n c (j + 1)) W0 w := by
 have e : part n c (j + 1) = part n c j ++ [Value.int .u8 ((n : Int) / 2 ^ (8 * (c - 1 - j)) % 256)] := by
  unfold part
  rw [be_take n j (by omega), ← List.cons_append, cells_append, hc]
  congr 1
  simp only [cells, List.map_cons, List.map_nil]
  rw [W.toNat_ofNat (Nat.mod_lt _ (by decide))]
  have hp : (256 : Nat) ^ (c - 1 - j) = 2 ^ (8 * (c - 1 - j)) := by rw [Nat.pow_mul]
  rw [hp]
  congr 2
 rw [e]
 exact h
theorem part_end {n j B k : Nat} {xs : List Value} {v : Value} {W0 w : World} {T : TypeId} (hc : (be n).length = j)
  (h : Lib.OwnBuf B T v (k + 1 + j) (xs ++ part n j j) W0 w) : Lib.OwnBuf B T v (k + (num n).length) (xs ++ cells (num n)) W0 w := by
 have e1 : k + (num n).length = k + 1 + j := by rw [num_len, hc]; omega
 have e2 : cells (num n) = part n j j := by
  unfold part num
  rw [hc, List.take_of_length_le (by omega)]
 rw [e1, e2]
 exact h
theorem appendNum (B : Nat) (v : Value) (k : Nat) (xs : List Value) (n : Nat) (W0 w : World) (h : Lib.OwnBuf B 5 v k xs W0 w) (hk : k ≤ 70368744177664) (hn : n ≤ 9007199254740992) :
  Calls qP 114 #[v, .int .i64 n] w fun e w' => ∃ v', e = .returned v' ∧ Lib.OwnBuf B 5 v' (k + (num n).length) (xs ++ cells (num n)) W0 w' := by
 obtain ⟨i0, hi, hz0, hz1, hz2⟩ := info_parts infoU8
 have hle := be_len_le n 7 (by omega)
 have hc := len64_bytes n w hn
 obtain ⟨c, hcc⟩ : ∃ c, (be n).length = c := ⟨_, rfl⟩
 rw [hcc] at hc hle
 have HC := qH hcc
 have HL := qH hc
 clear hc hcc
 go_enter Tryz.func114, Tryz.ntmps114
 go_wp2_with fail
 refine HL.out.mono ?_
 rintro e w' ⟨m, rfl, hm, hm64, rfl⟩
 go_wp2_with (at_builtin; refine Lib.wpList_append_byte rfl _ _ 121 rfl B 5 i0 Tryz.underlying121 hi hz0 hz1 hz2 v k xs rfl W0 w _ h rfl (by omega) ?_)
 intro v1 w1 h1
 go_wp2
 go_loopw [0, 6] (fun v i wr => ∃ j : Nat, j ≤ c ∧ i = .int .i64 ((c : Int) - 1 - j) ∧ Lib.OwnBuf B 5 v (k + 1 + j) (xs ++ part n c j) W0 wr) (fun _ i _ => (intOf i + 1).toNat)
 case atStart => exact ⟨0, Nat.zero_le _, by simp, by simpa [part, cells, W.toNat_ofNat (show c < 256 by omega)] using h1⟩
 case round =>
  obtain ⟨j, hj, rfl, hown⟩ := hrel
  by_cases hlt : j < c
  ·go_wp2_with (at_builtin; go_must (refine Lib.wpList_append_byte rfl _ _ 121 rfl B 5 i0 Tryz.underlying121 hi hz0 hz1 hz2 u0 (k + 1 + j) _ rfl W0 wr _ hown rfl (by omega) ?_))
   intro v2 w2 h2
   have R := part_step (n := n) (c := c) (j := j) HC.out hlt h2
   clear h2 hown
   go_wp2
   go_roundw
   case rel => exact ⟨j + 1, by omega, by go_num, R⟩
   case measure => simp [intOf]; omega
  ·obtain rfl : j = c := by omega
   have R := part_end HC.out hown
   clear hown
   go_wp2
   go_ret
   exact ⟨_, rfl, R⟩
theorem appendText (B : Nat) (v : Value) (k : Nat) (xs : List Value) (s : ByteArray) (W0 w : World) (h : Lib.OwnBuf B 5 v k xs W0 w) (hk : k ≤ 70000000000000) (hs : s.size ≤ 65536) :
  Calls qP 111 #[v, .string s] w fun e w' => ∃ v', e = .returned v' ∧ Lib.OwnBuf B 5 v' (k + (text s.data.toList).length) (xs ++ cells (text s.data.toList)) W0 w' := by
 obtain ⟨i0, hi, hz0, hz1, hz2⟩ := info_parts infoU8
 have HA := qH (appendNum B v k xs s.size W0 w h (by omega) (by omega))
 have hle := be_len_le s.size 7 (by omega)
 go_enter Tryz.func111, Tryz.ntmps111
 go_wp2_with fail
 refine HA.out.mono ?_
 rintro e w1 ⟨v1, rfl, h1⟩
 have hln := num_len s.size
 go_wp2_with (at_builtin; go_must (refine Lib.wpList_append_text rfl _ _ 121 9 rfl B 5 i0 Tryz.underlying121 Tryz.underlying9 hi hz0 hz1 hz2 v1 _ _ rfl W0 h1 s rfl (by omega) ?_))
 intro v2 w2 h2
 have R : Lib.OwnBuf B 5 v2 (k + (text s.data.toList).length) (xs ++ cells (text s.data.toList)) W0 w2 := by
  unfold text
  rw [cells_append, ← List.append_assoc, List.length_append, size_list, ← Nat.add_assoc]
  simpa [strCells_eq, num_len] using h2
 clear h2 h1
 go_wp2
 go_ret
 exact ⟨_, rfl, R⟩
def retSE (p : List UInt8 × Int) : Value := .tuple #[.string (bs p.1), .int .i64 p.2]
def encNum (n : Int) : List UInt8 × Int := if 0 ≤ n ∧ n ≤ 9007199254740992 then (num n.toNat, 0) else ([], 3)
def encText (s : ByteArray) : List UInt8 × Int := if s.size ≤ 65536 then (text s.data.toList, 0) else ([], 4)
def encJoin (l : List ByteArray) : List UInt8 × Int := if l.length ≤ 256 ∧ ∀ s ∈ l, s.size ≤ 65536 then (join (l.map fun s => s.data.toList), 0) else ([], 4)
theorem wNum (n : Int) (w : World) :
  Calls qP 65 #[.int .i64 n] w fun e w' => e = .returned (retSE (encNum n)) ∧ Below w.heap.size w w' := by
 by_cases h0 : 0 ≤ n
 ·by_cases h1 : n ≤ 9007199254740992
  ·obtain ⟨m, rfl⟩ := Int.eq_ofNat_of_zero_le h0
   have HE := qH (show encNum m = (num m, 0) by simp [encNum, h1])
   have HA := qH (appendNum w.heap.size (.slice none 0 0) 0 [] m w w (OwnBuf_nil w _) (by omega) (by omega))
   go_enter Tryz.func65, Tryz.ntmps65
   go_wp2_with fail
   refine HA.out.mono ?_
   rintro e w1 ⟨v1, rfl, h2⟩
   have hs := run_string w.heap.size v1 (num m) w w1 (by simpa using h2)
   go_wp2
   go_ret2
   exact ⟨by rw [HE.out]; rfl, h2.2.1⟩
  ·have HE := qH (show encNum n = ([], 3) by simp [encNum, h1])
   go_enter Tryz.func65, Tryz.ntmps65
   go_wp2
   go_ret2
   exact ⟨by rw [HE.out]; rfl, Below.refl _ _⟩
 ·have HE := qH (show encNum n = ([], 3) by simp [encNum, h0])
  go_enter Tryz.func65, Tryz.ntmps65
  go_wp2
  go_ret2
  exact ⟨by rw [HE.out]; rfl, Below.refl _ _⟩
theorem wText (s : ByteArray) (w : World) :
  Calls qP 62 #[.string s] w fun e w' => e = .returned (retSE (encText s)) ∧ Below w.heap.size w w' := by
 by_cases h1 : s.size ≤ 65536
 ·have HE := qH (show encText s = (text s.data.toList, 0) by simp [encText, h1])
  have HA := qH (appendText w.heap.size (.slice none 0 0) 0 [] s w w (OwnBuf_nil w _) (by omega) (by omega))
  go_enter Tryz.func62, Tryz.ntmps62
  go_wp2_with fail
  refine HA.out.mono ?_
  rintro e w1 ⟨v1, rfl, h2⟩
  have hs := run_string w.heap.size v1 (text s.data.toList) w w1 (by simpa using h2)
  go_wp2
  go_ret2
  exact ⟨by rw [HE.out]; rfl, h2.2.1⟩
 ·have HE := qH (show encText s = ([], 4) by simp [encText, h1])
  go_enter Tryz.func62, Tryz.ntmps62
  go_wp2
  go_ret2
  exact ⟨by rw [HE.out]; rfl, Below.refl _ _⟩
end Go.Proofs.YtkejaepmoabikaaGreatDoor.W
namespace Go.Proofs.YtkejaepmoabikaaGreatDoor.W
open List renaming set_cons_zero → qE
def radd (s p : List UInt8 × Int) : List UInt8 × Int := if s.2 ≠ 0 then ([], s.2) else if p.2 ≠ 0 then ([], p.2) else (s.1 ++ p.1, 0)
def kadd (s p : List UInt8 × Int) : List UInt8 × Int := if s.2 ≠ 0 then s else (s.1 ++ p.1, p.2)
def fin (s : List UInt8 × Int) : List UInt8 × Int := if s.2 ≠ 0 then ([], s.2) else s
theorem fin_kadd (s p : List UInt8 × Int) : fin (kadd s p) = radd (fin s) p := by
 unfold fin kadd radd
 by_cases h : s.2 = 0
 ·simp only [h, ne_eq, not_true_eq_false, if_false]
  by_cases h2 : p.2 = 0 <;> simp [h2]
 ·simp [h]
theorem fin_fold (l : List (List UInt8 × Int)) : ∀ s, fin (l.foldl kadd s) = l.foldl radd (fin s) := by
 induction l with
 | nil => intro s; rfl
 | cons p l ih => intro s; rw [List.foldl_cons, List.foldl_cons, ih, fin_kadd]
theorem radd_bad {s p : List UInt8 × Int} (h : s.2 ≠ 0) : radd s p = ([], s.2) := by unfold radd; rw [if_pos h]
theorem fold_bad (l : List (List UInt8 × Int)) {e : Int} (h : e ≠ 0) : l.foldl radd ([], e) = ([], e) := by
 induction l with
 | nil => rfl
 | cons p l ih => rw [List.foldl_cons, radd_bad h, ih]
theorem radd_norm {s p : List UInt8 × Int} (h : (radd s p).2 ≠ 0) : (radd s p).1 = [] := by
 unfold radd at h ⊢
 split
 ·rfl
 ·split
  ·rfl
  ·rename_i h1 h2
   rw [if_neg h1, if_neg h2] at h
   simp at h
theorem fold_ok : ∀ (l : List (List UInt8 × Int)) (a : List UInt8), (∀ p ∈ l, p.2 = 0) → l.foldl radd (a, 0) = (a ++ (l.map Prod.fst).flatten, 0)
 | [], a, _ => by simp
 | p :: l, a, h => by
  rw [List.foldl_cons]
  have h1 : radd (a, 0) p = (a ++ p.1, 0) := by unfold radd; simp [h p (by simp)]
  rw [h1, fold_ok l _ (fun q hq => h q (by simp [hq]))]
  simp
theorem radd_len (s p : List UInt8 × Int) : (radd s p).1.length ≤ s.1.length + p.1.length := by
 unfold radd
 split
 ·simp
 ·split
  ·simp
  ·simp
theorem radd_ok {s p : List UInt8 × Int} (h : (radd s p).2 = 0) : s.2 = 0 ∧ p.2 = 0 ∧ radd s p = (s.1 ++ p.1, 0) := by
 unfold radd at h ⊢
 by_cases h1 : s.2 = 0
 ·by_cases h2 : p.2 = 0
  ·simp [h1, h2]
  ·rw [if_neg (by simp [h1]), if_pos h2] at h
   exact absurd h h2
 ·rw [if_pos h1] at h
  exact absurd h h1
theorem encNum_len (n : Int) : (encNum n).1.length ≤ 8 := by
 unfold encNum
 split
 ·rename_i h
  have := be_len_le n.toNat 7 (by omega)
  show (num n.toNat).length ≤ 8
  rw [num_len]
  omega
 ·exact Nat.zero_le _
theorem encText_len (s : ByteArray) : (encText s).1.length ≤ 65544 := by
 unfold encText
 split
 ·rename_i h
  have := be_len_le s.data.toList.length 7 (by rw [size_list]; omega)
  show (num s.data.toList.length ++ s.data.toList).length ≤ 65544
  rw [List.length_append, num_len, size_list] at *
  omega
 ·exact Nat.zero_le _
def wadd (a b : Nat) : Nat := (a + b) % 4294967296
def wxor (a b : Nat) : Nat := (a ^^^ b) % 4294967296
def wand (a b : Nat) : Nat := (a &&& b) % 4294967296
def wor (a b : Nat) : Nat := (a ||| b) % 4294967296
def wnot (a : Nat) : Nat := (4294967295 ^^^ a) % 4294967296
def wshl (a n : Nat) : Nat := (a * 2 ^ n) % 4294967296
def wshr (a n : Nat) : Nat := a / 2 ^ n
def rotr (a n : Nat) : Nat := wor (wshl a (32 - n)) (wshr a n)
def sg0 (x : Nat) : Nat := wxor (wxor (rotr x 7) (rotr x 18)) (wshr x 3)
def sg1 (x : Nat) : Nat := wxor (wxor (rotr x 17) (rotr x 19)) (wshr x 10)
def SG1 (e : Nat) : Nat := wxor (wxor (rotr e 6) (rotr e 11)) (rotr e 25)
def SG0 (a : Nat) : Nat := wxor (wxor (rotr a 2) (rotr a 13)) (rotr a 22)
def ch (e f g : Nat) : Nat := wxor (wand e f) (wand (wnot e) g)
def maj (a b c : Nat) : Nat := wxor (wxor (wand a b) (wand a c)) (wand b c)
theorem wshl_lt (a n : Nat) : wshl a n < 4294967296 := Nat.mod_lt _ (by decide)
theorem wadd_comm (a b : Nat) : wadd a b = wadd b a := by unfold wadd; rw [Nat.add_comm]
theorem wor_comm (a b : Nat) : wor a b = wor b a := by unfold wor; rw [Nat.or_comm]
theorem wor_zero (a : Nat) (h : a < 4294967296) : wor a 0 = a := by unfold wor; rw [Nat.or_zero]; exact Nat.mod_eq_of_lt h
theorem wadd4 (a b c d : Nat) : wadd (wadd (wadd d b) c) a = wadd (wadd (wadd a b) c) d := by unfold wadd; omega
def nth (l : List Nat) (i : Nat) : Nat := l.getD i 0
theorem nth_lt (l : List Nat) (i : Nat) (h : i < l.length) : l[i]? = some (nth l i) := by
 unfold nth
 rw [List.getD_eq_getElem?_getD, List.getElem?_eq_getElem h, Option.getD_some]
theorem nth_set_same (l : List Nat) (i v : Nat) (h : i < l.length) : nth (l.set i v) i = v := by
 unfold nth
 rw [List.getD_eq_getElem?_getD, List.getElem?_set_self h, Option.getD_some]
theorem nth_set_other (l : List Nat) (i j v : Nat) (h : i ≠ j) : nth (l.set i v) j = nth l j := by
 unfold nth
 rw [List.getD_eq_getElem?_getD, List.getD_eq_getElem?_getD, List.getElem?_set_ne h]
theorem nth_ext {a b : List Nat} (hl : a.length = b.length) (h : ∀ i, i < a.length → nth a i = nth b i) : a = b := by
 apply List.ext_getElem?
 intro i
 by_cases hi : i < a.length
 ·rw [nth_lt a i hi, nth_lt b i (by omega), h i hi]
 ·rw [List.getElem?_eq_none (by omega), List.getElem?_eq_none (by omega)]
def byteAt (l : List UInt8) (i : Nat) : Nat := (l.getD i 0).toNat
theorem byteAt_in (s : ByteArray) (i : Nat) (h : i < s.size) : byteAt s.data.toList i = (s[i]).toNat := by
 unfold byteAt
 rw [List.getD_eq_getElem?_getD, List.getElem?_eq_getElem (by simpa using h), Option.getD_some]
 rfl
theorem byteAt_out (s : ByteArray) (i : Nat) (h : s.size ≤ i) : byteAt s.data.toList i = 0 := by
 unfold byteAt
 rw [List.getD_eq_getElem?_getD, List.getElem?_eq_none (by simpa using h), Option.getD_none]
 rfl
def wordTo (l : List UInt8) (p : Nat) : Nat → Nat
 | 0 => 0
 | k + 1 => wor (wshl (wordTo l p k) 8) (byteAt l (p + k))
def nextW (ws : List Nat) (t : Nat) : Nat := wadd (wadd (wadd (sg1 (nth ws (t - 2))) (nth ws (t - 7))) (sg0 (nth ws (t - 15)))) (nth ws (t - 16))
def wordNo (l : List UInt8) (ws : List Nat) (t : Nat) : Nat := if t < 16 then wordTo l (4 * t) 4 else nextW ws t
def arr (l : List UInt8) : Nat → List Nat
 | 0 => List.replicate 64 0
 | t + 1 => (arr l t).set t (wordNo l (arr l t) t)
theorem arr_len (l : List UInt8) (t : Nat) : (arr l t).length = 64 := by
 induction t with
 | zero => simp [arr]
 | succ t ih => simp [arr, ih]
def Small (l : List Nat) : Prop := ∀ i, nth l i < 4294967296
theorem Small.set {l : List Nat} (h : Small l) (i v : Nat) (hv : v < 4294967296) : Small (l.set i v) := by
 intro j
 by_cases e : i = j
 ·subst e
  by_cases hi : i < l.length
  ·rw [nth_set_same l i v hi]; exact hv
  ·rw [List.set_eq_of_length_le (by omega)]; exact h i
 ·rw [nth_set_other l i j v e]; exact h j
structure Reg where
 (a b c d e f g h : Nat)
deriving DecidableEq
def Reg.list (r : Reg) : List Nat := [r.a, r.b, r.c, r.d, r.e, r.f, r.g, r.h]
def regOf (l : List Nat) : Reg := ⟨nth l 0, nth l 1, nth l 2, nth l 3, nth l 4, nth l 5, nth l 6, nth l 7⟩
theorem list_regOf {l : List Nat} (h : l.length = 8) : (regOf l).list = l := by
 match l, h with
 | [a, b, c, d, e, f, g, i], _ => rfl
def kk : List Nat := [
 0x428a2f98, 0x71374491, 0xb5c0fbcf, 0xe9b5dba5, 0x3956c25b, 0x59f111f1, 0x923f82a4, 0xab1c5ed5,
 0xd807aa98, 0x12835b01, 0x243185be, 0x550c7dc3, 0x72be5d74, 0x80deb1fe, 0x9bdc06a7, 0xc19bf174,
 0xe49b69c1, 0xefbe4786, 0x0fc19dc6, 0x240ca1cc, 0x2de92c6f, 0x4a7484aa, 0x5cb0a9dc, 0x76f988da,
 0x983e5152, 0xa831c66d, 0xb00327c8, 0xbf597fc7, 0xc6e00bf3, 0xd5a79147, 0x06ca6351, 0x14292967,
 0x27b70a85, 0x2e1b2138, 0x4d2c6dfc, 0x53380d13, 0x650a7354, 0x766a0abb, 0x81c2c92e, 0x92722c85,
 0xa2bfe8a1, 0xa81a664b, 0xc24b8b70, 0xc76c51a3, 0xd192e819, 0xd6990624, 0xf40e3585, 0x106aa070,
 0x19a4c116, 0x1e376c08, 0x2748774c, 0x34b0bcb5, 0x391c0cb3, 0x4ed8aa4a, 0x5b9cca4f, 0x682e6ff3,
 0x748f82ee, 0x78a5636f, 0x84c87814, 0x8cc70208, 0x90befffa, 0xa4506ceb, 0xbef9a3f7, 0xc67178f2]
def up (k w : Nat) (r : Reg) : Nat := wadd (wadd (wadd (wadd r.h (SG1 r.e)) (ch r.e r.f r.g)) k) w
def down (r : Reg) : Nat := wadd (SG0 r.a) (maj r.a r.b r.c)
def rnd (k w : Nat) (r : Reg) : Reg := ⟨wadd (up k w r) (down r), r.a, r.b, r.c, wadd r.d (up k w r), r.e, r.f, r.g⟩
def rds (ws : List Nat) (r : Reg) : Nat → Reg
 | 0 => r
 | t + 1 => rnd (nth kk t) (nth ws t) (rds ws r t)
def addTo (h v : List Nat) : Nat → List Nat
 | 0 => h
 | i + 1 => (addTo h v i).set i (wadd (nth (addTo h v i) i) (nth v i))
theorem addTo_len (h v : List Nat) (i : Nat) : (addTo h v i).length = h.length := by
 induction i with
 | zero => rfl
 | succ i ih => simp [addTo, ih]
theorem addTo_at (h v : List Nat) (i j : Nat) (hj : j < h.length) : nth (addTo h v i) j = if j < i then wadd (nth h j) (nth v j) else nth h j := by
 induction i with
 | zero => simp [addTo]
 | succ i ih =>
  show nth ((addTo h v i).set i (wadd (nth (addTo h v i) i) (nth v i))) j = _
  by_cases e : i = j
  ·subst e
   rw [nth_set_same _ _ _ (by rw [addTo_len]; exact hj), ih, if_neg (by omega), if_pos (by omega)]
  ·rw [nth_set_other _ _ _ _ e, ih]
   by_cases hlt : j < i
   ·rw [if_pos hlt, if_pos (by omega)]
   ·rw [if_neg hlt, if_neg (by omega)]
theorem addTo_swap (h v : List Nat) (hh : h.length = 8) (hv : v.length = 8) : addTo v h 8 = addTo h v 8 := by
 refine nth_ext (by rw [addTo_len, addTo_len, hh, hv]) fun i hi => ?_
 rw [addTo_len, hv] at hi
 rw [addTo_at v h 8 i (by omega), addTo_at h v 8 i (by omega), if_pos hi, if_pos hi, wadd_comm]
def blk (h : List Nat) (l : List UInt8) : List Nat := addTo h (rds (arr l 64) (regOf h) 64).list 8
theorem blk_len (h : List Nat) (l : List UInt8) (hh : h.length = 8) : (blk h l).length = 8 := by unfold blk; rw [addTo_len, hh]
def zs (n : Nat) : Nat := (119 - n % 64) % 64
def by8 (m : Nat) : Nat → List UInt8
 | 0 => []
 | i + 1 => by8 m i ++ [UInt8.ofNat (m / 2 ^ (56 - 8 * i) % 256)]
theorem by8_len (m i : Nat) : (by8 m i).length = i := by
 induction i with
 | zero => rfl
 | succ i ih => simp [by8, ih]
def padOf (n : Nat) : List UInt8 := 128 :: List.replicate (zs n) 0 ++ by8 (n * 8 % 18446744073709551616) 8
theorem padOf_len (n : Nat) : (padOf n).length = 9 + zs n := by simp [padOf, by8_len]; omega
theorem zs_lt (n : Nat) : zs n < 64 := Nat.mod_lt _ (by decide)
theorem padOf_whole (n : Nat) : (n + (padOf n).length) % 64 = 0 := by rw [padOf_len]; unfold zs; omega
def regs0 : List Nat := [0x6a09e667, 0xbb67ae85, 0x3c6ef372, 0xa54ff53a, 0x510e527f, 0x9b05688c, 0x1f83d9ab, 0x5be0cd19]
def blks (p : List UInt8) : Nat → List Nat
 | 0 => regs0
 | k + 1 => blk (blks p k) ((p.drop (64 * k)).take 64)
theorem blks_len (p : List UInt8) (k : Nat) : (blks p k).length = 8 := by
 induction k with
 | zero => rfl
 | succ k ih => exact blk_len _ _ ih
def by4 (x : Nat) : List UInt8 := [UInt8.ofNat (x / 16777216 % 256), UInt8.ofNat (x / 65536 % 256), UInt8.ofNat (x / 256 % 256), UInt8.ofNat (x % 256)]
def outTo (h : List Nat) : Nat → List UInt8
 | 0 => []
 | i + 1 => outTo h i ++ by4 (nth h i)
theorem outTo_len (h : List Nat) (i : Nat) : (outTo h i).length = 4 * i := by
 induction i with
 | zero => rfl
 | succ i ih => simp [outTo, by4, ih]; omega
def padded (l : List UInt8) : List UInt8 := l ++ padOf l.length
theorem padded_len (l : List UInt8) : (padded l).length = 64 * ((padded l).length / 64) := by
 have h := padOf_whole l.length
 have e : (padded l).length = l.length + (padOf l.length).length := by simp [padded]
 omega
def shaOf (l : List UInt8) : List UInt8 := outTo (blks (padded l) ((padded l).length / 64)) 8
theorem shaOf_len (l : List UInt8) : (shaOf l).length = 32 := outTo_len _ _
def keyOf (k : List UInt8) : List UInt8 := if 64 < k.length then shaOf k else k
def fill (k : List UInt8) : List UInt8 := k ++ List.replicate (64 - k.length) 0
def mix (x : UInt8) (l : List UInt8) : List UInt8 := l.map fun c => c ^^^ x
def macOf (k s : List UInt8) : List UInt8 := shaOf (mix 92 (fill (keyOf k)) ++ shaOf (mix 54 (fill (keyOf k)) ++ s))
theorem keyOf_len (k : List UInt8) : (keyOf k).length ≤ 64 := by
 unfold keyOf
 split
 ·rw [shaOf_len]; omega
 ·omega
theorem keyOf_long (k : List UInt8) (h : 64 < k.length) : keyOf k = shaOf k := by unfold keyOf; rw [if_pos h]
theorem keyOf_short (k : List UInt8) (h : k.length ≤ 64) : keyOf k = k := by unfold keyOf; rw [if_neg (by omega)]
theorem fill_len (k : List UInt8) (h : k.length ≤ 64) : (fill k).length = 64 := by simp [fill]; omega
theorem mix_len (x : UInt8) (l : List UInt8) : (mix x l).length = l.length := by simp [mix]
theorem macOf_len (k s : List UInt8) : (macOf k s).length = 32 := shaOf_len _
theorem fill_in (k : List UInt8) (i : Nat) (h : i < k.length) : (fill k)[i]? = some k[i] := by
 unfold fill
 rw [List.getElem?_append_left h, List.getElem?_eq_getElem h]
theorem fill_out (k : List UInt8) (i : Nat) (h : k.length ≤ i) (hi : i < 64) : (fill k)[i]? = some 0 := by
 unfold fill
 rw [List.getElem?_append_right h, List.getElem?_replicate, if_pos (by omega)]
def mhalf (f : List UInt8) (x : UInt8) (i : Nat) : List UInt8 := mix x (f.take i) ++ f.drop i
theorem half_zero (f : List UInt8) (x : UInt8) : mhalf f x 0 = f := by simp [mhalf, mix]
theorem half_all (f : List UInt8) (x : UInt8) (i : Nat) (h : f.length ≤ i) : mhalf f x i = mix x f := by
 unfold mhalf
 rw [List.take_of_length_le h, List.drop_eq_nil_of_le h, List.append_nil]
theorem half_at (f : List UInt8) (x : UInt8) (i : Nat) (h : i < f.length) : (mhalf f x i)[i]? = some f[i] := by
 unfold mhalf
 rw [List.getElem?_append_right (by simp [mix]; omega), mix_len, List.length_take, Nat.min_eq_left (by omega), List.getElem?_drop, Nat.sub_self, Nat.add_zero, List.getElem?_eq_getElem h]
theorem half_step (f : List UInt8) (x : UInt8) (i : Nat) (h : i < f.length) : (mhalf f x i).set i (f[i] ^^^ x) = mhalf f x (i + 1) := by
 have e : (mix x (f.take i)).length = i := by rw [mix_len, List.length_take]; omega
 unfold mhalf
 rw [List.set_append_right _ _ (by omega), e, Nat.sub_self, List.drop_eq_getElem_cons h, qE, List.take_succ_eq_append_getElem h]
 unfold mix
 rw [List.map_append, List.append_assoc]
 rfl
theorem mix_step (f : List UInt8) (x : UInt8) (i : Nat) (h : i < f.length) : mix x (f.take (i + 1)) = mix x (f.take i) ++ [f[i] ^^^ x] := by
 rw [List.take_succ_eq_append_getElem h]
 unfold mix
 rw [List.map_append]
 rfl
end Go.Proofs.YtkejaepmoabikaaGreatDoor.W
namespace Go.Proofs.YtkejaepmoabikaaGreatDoor.W
open Go.RowKit
open Lib renaming hid → qH
open _root_.Go.Proofs.Tryz renaming prog → qP
set_option maxHeartbeats 2000000
set_option maxRecDepth 1000000
theorem or_i64 (a b : Nat) (ha : a < 4611686018427387904) (hb : b < 4611686018427387904) : bits .or .i64 (a : Int) (b : Int) = ((a ||| b : Nat) : Int) := by
 have hx : a ||| b < 2 ^ 62 := Nat.or_lt_two_pow (by omega) (by omega)
 have h1 : (BitVec.ofInt 64 (a : Int)).toNat = a := by
  rw [BitVec.ofInt_natCast, BitVec.toNat_ofNat]; exact Nat.mod_eq_of_lt (by omega)
 have h2 : (BitVec.ofInt 64 (b : Int)).toNat = b := by
  rw [BitVec.ofInt_natCast, BitVec.toNat_ofNat]; exact Nat.mod_eq_of_lt (by omega)
 show IntKind.i64.wrap ((BitVec.ofInt 64 (a : Int) ||| BitVec.ofInt 64 (b : Int)).toNat : Int) = _
 rw [BitVec.toNat_or, h1, h2, IntKind.wrap_i64]
 omega
theorem or_byte (m : Nat) (b : UInt8) (hm : m < 281474976710656) : bits .or .i64 ((m : Int) * 256) (wrap64 (b.toNat : Int)) = ((m * 256 + b.toNat : Nat) : Int) := by
 have hb := b.toNat_lt
 rw [show (m : Int) * 256 = ((m * 256 : Nat) : Int) by omega, show wrap64 (b.toNat : Int) = (b.toNat : Int) by simp only [wrap64]; omega,
  or_i64 _ _ (by omega) (by omega), nat_join8 _ _ (by omega) (by omega)]
theorem or_byte0 (b : UInt8) : bits .or .i64 0 (wrap64 (b.toNat : Int)) = ((b.toNat : Nat) : Int) := by
 have h := or_byte 0 b (by omega)
 simpa using h
theorem val_take (d : ByteArray) (k : Nat) (h : k < d.size) : val (d.data.toList.take (k + 1)) = val (d.data.toList.take k) * 256 + d[k].toNat := by
 rw [List.take_succ_eq_append_getElem (by rw [size_list]; exact h), val_snoc]
 rfl
theorem val_bound (d : ByteArray) (k : Nat) (hk : k < 7) : val (d.data.toList.take k) < 281474976710656 := by
 refine Nat.lt_of_lt_of_le (val_lt _) ?_
 have : (d.data.toList.take k).length ≤ 6 := by rw [List.length_take]; omega
 exact Nat.le_trans (Nat.pow_le_pow_right (by decide) this) (by decide)
theorem bigEndian (d : ByteArray) (w : World) (hd : d.size ≤ 7) :
  Calls qP 136 #[.string d] w fun e w' => e = .returned (.int .i64 (val d.data.toList)) ∧ w = w' := by
 go_enter Tryz.func136, Tryz.ntmps136
 go_wp2
 refine wp_scope_jumps 0 (fun a' w' => w' = w ∧ ∃ (k : Nat) (u5 u6 u7 u8 u9 u10 u11 u12 u13 u14 u15 u16 u17 u18 : Value), a' = { tmps := #[.string d, undef, .int .i64 0, .int .i64 (val (d.data.toList.take k)), .int .i64 k, u5, u6, u7, u8, u9, u10, u11, u12, u13, u14, u15, u16, u17, u18], defers := [] } ∧ k ≤ d.size) (fun a' _ => d.size - (intOf (a'.tmps.getD 4 undef)).toNat) rfl ?_ ?_
 ·by_cases h0 : 0 < d.size
  ·have hv := val_take d 0 h0
   rw [List.take_zero, val_nil, Nat.zero_mul, Nat.zero_add] at hv
   rw [Nat.zero_add] at hv
   have HV := qH hv
   clear hv
   go_wp2
   go_step3
   go_wp2
   go_step3
   rw [or_byte0 d[0], ← HV.out]
   exact ⟨rfl, rfl, 1, _, _, _, _, _, _, _, _, _, _, _, _, _, _, rfl, by omega⟩
  ·go_wp2
   go_step3
   go_wp2
   simp only [Exit.jump]
   go_ret
   refine ⟨?_, rfl⟩
   have e : d.data.toList = [] := List.eq_nil_of_length_eq_zero (by rw [size_list]; omega)
   rw [e]
   rfl
 ·rintro a' w' ⟨rfl, k, u5, u6, u7, u8, u9, u10, u11, u12, u13, u14, u15, u16, u17, u18, rfl, hk⟩
  by_cases hlt : k < d.size
  ·have hv := val_bound d k (by omega)
   have HV := qH (val_take d k hlt)
   generalize val (d.data.toList.take k) = m at *
   go_wp2
   go_step3
   rw [or_byte m d[k] hv, ← HV.out]
   refine ⟨rfl, ⟨rfl, k + 1, _, _, _, _, _, _, _, _, _, _, _, _, _, _, rfl, by omega⟩, ?_⟩
   simp [intOf]
   omega
  ·obtain rfl : k = d.size := by omega
   rw [show d.data.toList.take d.size = d.data.toList from List.take_of_length_le (by rw [size_list]; omega)]
   go_wp2
   simp only [Exit.jump]
   go_ret
   exact ⟨rfl, rfl⟩
def dec : List UInt8 → Nat × Nat × Int
 | [] => (0, 0, 5)
 | k :: d =>
  if 7 < k.toNat then (0, 0, 6) else if 0 < k.toNat ∧ d.head? = some 0 then (0, 0, 6) else if d.length < k.toNat then (0, 0, 5)
  else if 9007199254740992 < val (d.take k.toNat) then (0, 0, 3) else (val (d.take k.toNat), 1 + k.toNat, 0)
def retDec (p : Nat × Nat × Int) : Value := .tuple #[.int .i64 p.1, .int .i64 p.2.1, .int .i64 p.2.2]
theorem empty_of (s : ByteArray) (h : s.size = 0) : s.toList.isEmpty = true := by
 rw [ByteArray.toList_eq, List.isEmpty_iff]
 exact List.eq_nil_of_length_eq_zero (by rw [size_list]; exact h)
theorem nonempty_of (s : ByteArray) (h : 0 < s.size) : s.toList.isEmpty = false := by
 rw [ByteArray.toList_eq, Bool.eq_false_iff]
 intro e
 rw [List.isEmpty_iff] at e
 have := size_list s
 rw [e] at this
 simp at this
 omega
theorem ex_list (s : ByteArray) (a b : Nat) : (s.extract a b).data.toList = (s.data.toList.drop a).take (b - a) := by
 have h := ByteArray.extract_mk s.data.toList a b
 have e : s = ByteArray.mk s.data.toList.toArray := by cases s; simp
 conv => lhs; rw [e]
 rw [h]
theorem ex_size (s : ByteArray) : (s.extract 1 s.size).size = s.size - 1 := by
 rw [← size_list, ex_list, List.length_take, List.length_drop, size_list]; omega
theorem cons_of (s : ByteArray) (h : 0 < s.size) : s.data.toList = s[0] :: (s.extract 1 s.size).data.toList := by
 rw [ex_list, List.take_of_length_le (by rw [List.length_drop, size_list]; omega), List.drop_one]
 have hne : s.data.toList ≠ [] := by intro e; have := size_list s; rw [e] at this; simp at this; omega
 have e : s[0] = s.data.toList.head hne := by rw [List.head_eq_getElem]; rfl
 rw [e, List.cons_head_tail]
theorem head_of (d : ByteArray) (h : 0 < d.size) : d.data.toList.head? = some d[0] := by rw [cons_of d h]; rfl
theorem take_of (d : ByteArray) (k : Nat) : (d.extract 0 k).data.toList = d.data.toList.take k := by rw [ex_list]; simp
section
variable {s : ByteArray} (h0 : 0 < s.size)
include h0
theorem dec_big (h : 7 < s[0].toNat) : dec s.data.toList = (0, 0, 6) := by
 rw [cons_of s h0, dec, if_pos h]
theorem dec_form (h : ¬ 7 < s[0].toNat) (h1 : 0 < s[0].toNat) (h2 : 0 < (s.extract 1 s.size).size) (h3 : (s.extract 1 s.size)[0].toNat = 0) : dec s.data.toList = (0, 0, 6) := by
 rw [cons_of s h0, dec, if_neg h, if_pos]
 refine ⟨h1, ?_⟩
 rw [head_of _ h2]
 exact congrArg some (UInt8.toNat_inj.1 (by simpa using h3))
theorem dec_tail (h : ¬ 7 < s[0].toNat) (h1 : 0 < s[0].toNat → ∀ h2 : 0 < (s.extract 1 s.size).size, (s.extract 1 s.size)[0].toNat ≠ 0) :
  dec s.data.toList = if s.size - 1 < s[0].toNat then (0, 0, (5 : Int)) else if 9007199254740992 < val ((s.extract 1 s.size).extract 0 s[0].toNat).data.toList then (0, 0, (3 : Int)) else (val ((s.extract 1 s.size).extract 0 s[0].toNat).data.toList, 1 + s[0].toNat, (0 : Int)) := by
 rw [cons_of s h0, dec, if_neg h, if_neg, size_list, ex_size, take_of]
 rintro ⟨h2, h3⟩
 by_cases hp : 0 < (s.extract 1 s.size).size
 ·rw [head_of _ hp] at h3
  refine h1 h2 hp ?_
  rw [Option.some.inj h3]
  rfl
 ·rw [List.eq_nil_of_length_eq_zero (show (s.extract 1 s.size).data.toList.length = 0 by rw [size_list]; omega)] at h3
  cases h3
end
theorem ret_dec {a : Nat × Nat × Int} {b : Nat × Nat × Int} (h : a = b) : Ending.returned (retDec b) = Ending.returned (retDec a) := by rw [h]
theorem decodeNum_tail (s : ByteArray) (w : World) (hm : s.size ≤ 9223372036854775807) (h0 : 0 < s.size) (h7 : ¬ 7 < s[0].toNat)
  (h1 : 0 < s[0].toNat → ∀ h2 : 0 < (s.extract 1 s.size).size, (s.extract 1 s.size)[0].toNat ≠ 0) :
  Calls qP 88 #[.string s] w fun e w' => e = .returned (retDec (dec s.data.toList)) ∧ Below w.heap.size w w' := by
 have hE := nonempty_of s h0
 have hk := s[0].toNat_lt
 have HX := qH (ex_size s)
 have HD := qH (dec_tail h0 h7 h1)
 by_cases hc : s.size - 1 < s[0].toNat
 ·have HD2 := qH (show dec s.data.toList = (0, 0, (5 : Int)) by rw [HD.out, if_pos hc])
  clear HD
  by_cases hp : 0 < (s.extract 1 s.size).size
  ·have hne := nonempty_of _ hp
   have hne2 : ¬ (s.extract 1 s.size).toList = [] := by intro e; rw [e] at hne; cases hne
   have hz : ((((s.extract 1 s.size)[0]'hp).toNat : Int) == 0) = false := beq_eq_false_iff_ne.2 (by have := h1 (by omega) hp; omega)
   have hs1 : 0 < s.size - 1 := by have := HX.out; omega
   clear h1
   go_enter Tryz.func88, Tryz.ntmps88
   go_wp2
   go_quiet (fail)
   go_wp2
   go_ret3
   exact ⟨ret_dec HD2.out, quiet_below _ _⟩
  ·have hne := empty_of (s.extract 1 s.size) (by omega)
   have hne2 : (s.extract 1 s.size).toList = [] := by rwa [List.isEmpty_iff] at hne
   clear h1
   go_enter Tryz.func88, Tryz.ntmps88
   go_wp2
   go_quiet (fail)
   go_wp2
   go_ret3
   exact ⟨ret_dec HD2.out, quiet_below _ _⟩
 ·have HD2 := qH (HD.out.trans (if_neg hc))
  clear HD
  have hsz : ((s.extract 1 s.size).extract 0 s[0].toNat).size ≤ 7 := by
   rw [← size_list, take_of, List.length_take]; omega
  have HB := qH (fun W => bigEndian ((s.extract 1 s.size).extract 0 s[0].toNat) W hsz)
  by_cases hz0 : 0 < s[0].toNat
  ·have hp : 0 < (s.extract 1 s.size).size := by have := HX.out; omega
   have hne := nonempty_of _ hp
   have hne2 : ¬ (s.extract 1 s.size).toList = [] := by intro e; rw [e] at hne; cases hne
   have hz : ((((s.extract 1 s.size)[0]'hp).toNat : Int) == 0) = false := beq_eq_false_iff_ne.2 (by have := h1 (by omega) hp; omega)
   have hs1 : 0 < s.size - 1 := by have := HX.out; omega
   clear h1 hsz
   go_enter Tryz.func88, Tryz.ntmps88
   go_wp2
   go_quiet (fail)
   go_wp2_with fail
   refine (HB.out _).mono ?_
   rintro e w' ⟨rfl, rfl⟩
   generalize val ((s.extract 1 s.size).extract 0 s[0].toNat).data.toList = m at *
   by_cases hr : 9007199254740992 < m
   ·go_wp2
    go_ret3
    exact ⟨ret_dec (HD2.out.trans (if_pos hr)), quiet_below _ _⟩
   ·go_wp2
    go_ret3
    exact ⟨ret_dec (HD2.out.trans (if_neg hr)), quiet_below _ _⟩
  ·clear h1 hsz
   go_enter Tryz.func88, Tryz.ntmps88
   go_wp2
   go_quiet (fail)
   go_wp2_with fail
   refine (HB.out _).mono ?_
   rintro e w' ⟨rfl, rfl⟩
   generalize val ((s.extract 1 s.size).extract 0 s[0].toNat).data.toList = m at *
   by_cases hr : 9007199254740992 < m
   ·go_wp2
    go_ret3
    exact ⟨ret_dec (HD2.out.trans (if_pos hr)), quiet_below _ _⟩
   ·go_wp2
    go_ret3
    exact ⟨ret_dec (HD2.out.trans (if_neg hr)), quiet_below _ _⟩
theorem decodeNum (s : ByteArray) (w : World) (hm : s.size ≤ 9223372036854775807) :
  Calls qP 88 #[.string s] w fun e w' => e = .returned (retDec (dec s.data.toList)) ∧ Below w.heap.size w w' := by
 by_cases h0 : 0 < s.size
 ·have hE := nonempty_of s h0
  have hk := s[0].toNat_lt
  have hxs := ex_size s
  by_cases h7 : 7 < s[0].toNat
  ·have HD := qH (dec_big h0 h7)
   clear hxs
   go_enter Tryz.func88, Tryz.ntmps88
   go_wp2
   go_quiet (fail)
   go_wp2
   go_ret3
   exact ⟨ret_dec HD.out, quiet_below _ _⟩
  ·by_cases hf : 0 < s[0].toNat ∧ ∃ h2 : 0 < (s.extract 1 s.size).size, (s.extract 1 s.size)[0].toNat = 0
   ·obtain ⟨hz0, hp, hz⟩ := hf
    have HD := qH (dec_form h0 h7 hz0 hp hz)
    have hne := nonempty_of _ hp
    have hne2 : ¬ (s.extract 1 s.size).toList = [] := by intro e; rw [e] at hne; cases hne
    have hz2 : ((((s.extract 1 s.size)[0]'hp).toNat : Int) == 0) = true := beq_iff_eq.2 (by omega)
    have hs1 : 0 < s.size - 1 := by omega
    clear hz hxs
    go_enter Tryz.func88, Tryz.ntmps88
    go_wp2
    go_quiet (fail)
    go_wp2
    go_ret3
    exact ⟨ret_dec HD.out, quiet_below _ _⟩
   ·exact decodeNum_tail s w hm h0 h7 (fun a b c => hf ⟨a, b, c⟩)
 ·have hE := empty_of s (by omega)
  have HD := qH (show dec s.data.toList = (0, 0, 5) by rw [List.eq_nil_of_length_eq_zero (show s.data.toList.length = 0 by rw [size_list]; omega)]; rfl)
  go_enter Tryz.func88, Tryz.ntmps88
  go_wp2
  go_ret3
  exact ⟨by rw [HD.out]; rfl, Below.refl _ _⟩
def Txs (w : World) (B : Nat) (v : Value) (ss : List ByteArray) : Prop :=
 ∃ A cap, v = .slice A ss.length cap ∧ ∀ i (h : i < ss.length), ∃ b off, A = some ⟨b, off, none⟩ ∧ b < B ∧ w.cell? ⟨b, off + i, none⟩ = some (.string ss[i])
theorem Txs.below {w w' : World} {B : Nat} {v : Value} {ss : List ByteArray} (h : Txs w B v ss) (hb : Below B w w') : Txs w' B v ss := by
 obtain ⟨A, cap, rfl, hc⟩ := h
 refine ⟨A, cap, rfl, fun i hi => ?_⟩
 obtain ⟨b, off, ha, hlt, hcell⟩ := hc i hi
 exact ⟨b, off, ha, hlt, (hb.cell (p := ⟨b, off + i, none⟩) hlt).trans hcell⟩
theorem Txs.moved {w w' : World} {B : Nat} {v : Value} {ss : List ByteArray} (h : Txs w B v ss) (hb : ∀ g, v.ownBlock = some g → w'.heap[g]? = w.heap[g]?) : Txs w' B v ss := by
 obtain ⟨A, cap, rfl, hc⟩ := h
 refine ⟨A, cap, rfl, fun i hi => ?_⟩
 obtain ⟨b, off, rfl, hlt, hcell⟩ := hc i hi
 exact ⟨b, off, rfl, hlt, (World.cell?_of_block (w := w) (hb b rfl)).trans hcell⟩
theorem Txs.more {w : World} {B B' : Nat} {v : Value} {ss : List ByteArray} (h : Txs w B v ss) (hb : B ≤ B') : Txs w B' v ss := by
 obtain ⟨A, cap, rfl, hc⟩ := h
 refine ⟨A, cap, rfl, fun i hi => ?_⟩
 obtain ⟨b, off, ha, hlt, hcell⟩ := hc i hi
 exact ⟨b, off, ha, by omega, hcell⟩
theorem Txs.nil (w : World) (B cap : Nat) (A : Option Addr) : Txs w B (.slice A 0 cap) [] := ⟨A, cap, rfl, fun i h => absurd h (by simp)⟩
def RdAt (w : World) (b : Nat) (s : ByteArray) (e : Int) : Prop := Blk w b 149 #[.string s, .int .i64 e]
def stNum (s : ByteArray) (e : Int) : (ByteArray × Int) × Nat :=
 if e ≠ 0 then ((s, e), 0) else if (dec s.data.toList).2.2 ≠ 0 then ((s, (dec s.data.toList).2.2), 0) else ((s.extract (dec s.data.toList).2.1 s.size, 0), (dec s.data.toList).1)
def stLen (s : ByteArray) (e : Int) (most : Nat) : (ByteArray × Int) × Nat :=
 if most < (stNum s e).2 then (((stNum s e).1.1, 4), 0) else stNum s e
def stText (s : ByteArray) (e : Int) : (ByteArray × Int) × ByteArray :=
 let r := stLen s e 65536
 if r.1.2 ≠ 0 then (r.1, .empty) else if r.1.1.size < r.2 then ((r.1.1, 5), .empty) else ((r.1.1.extract r.2 r.1.1.size, 0), r.1.1.extract 0 r.2)
def listFrom : Nat → ByteArray → List ByteArray → (ByteArray × Int) × List ByteArray
 | 0, s, acc => ((s, 0), acc)
 | k + 1, s, acc => if (stText s 0).1.2 ≠ 0 then ((stText s 0).1, []) else listFrom k (stText s 0).1.1 (acc ++ [(stText s 0).2])
def stList (s : ByteArray) (e : Int) : (ByteArray × Int) × List ByteArray :=
 let r := stLen s e 256
 if r.1.2 ≠ 0 then (r.1, []) else listFrom r.2 r.1.1 []
def stDone (s : ByteArray) (e : Int) : Int := if e ≠ 0 then e else if s.size = 0 then 0 else 6
theorem dec_facts (l : List UInt8) : (dec l).1 ≤ 9007199254740992 ∧ (dec l).2.1 ≤ l.length ∧ ((dec l).2.2 = 0 ∨ (dec l).2.2 = 3 ∨ (dec l).2.2 = 5 ∨ (dec l).2.2 = 6) := by
 cases l with
 | nil => simp [dec]
 | cons k d =>
  rw [dec]
  by_cases h1 : 7 < k.toNat
  ·rw [if_pos h1]; simp
  ·rw [if_neg h1]
   by_cases h2 : 0 < k.toNat ∧ d.head? = some 0
   ·rw [if_pos h2]; simp
   ·rw [if_neg h2]
    by_cases h3 : d.length < k.toNat
    ·rw [if_pos h3]; simp
    ·rw [if_neg h3]
     by_cases h4 : 9007199254740992 < val (d.take k.toNat)
     ·rw [if_pos h4]; simp
     ·rw [if_neg h4]
      refine ⟨by simp only; omega, ?_, by simp⟩
      simp only [List.length_cons]
      omega
theorem stNum_facts (s : ByteArray) (e : Int) : (stNum s e).2 ≤ 9007199254740992 ∧ (stNum s e).1.1.size ≤ s.size ∧ ((stNum s e).1.2 ≠ 0 → (stNum s e).2 = 0) := by
 have hf := dec_facts s.data.toList
 unfold stNum
 split
 ·simp
 ·split
  ·simp
  ·refine ⟨hf.1, ?_, by simp⟩
   simp only [← size_list, ex_list, List.length_take, List.length_drop]
   omega
theorem stNum_err (s : ByteArray) {e : Int} (h : e ≠ 0) : stNum s e = ((s, e), 0) := by simp [stNum, h]
theorem stLen_err (s : ByteArray) {e : Int} (h : e ≠ 0) (m : Nat) : stLen s e m = ((s, e), 0) := by simp [stLen, stNum_err s h]
theorem stText_err (s : ByteArray) {e : Int} (h : e ≠ 0) : stText s e = ((s, e), .empty) := by simp [stText, stLen_err s h, h]
theorem stLen_facts (s : ByteArray) (e : Int) (m : Nat) : (stLen s e m).2 ≤ m ∧ (stLen s e m).1.1.size ≤ s.size := by
 have hf := stNum_facts s e
 unfold stLen
 split
 ·exact ⟨Nat.zero_le _, hf.2.1⟩
 ·exact ⟨by omega, hf.2.1⟩
theorem stLen_zero (s : ByteArray) (e : Int) (m : Nat) (h : (stLen s e m).1.2 ≠ 0) : (stLen s e m).2 = 0 := by
 have hf := stNum_facts s e
 unfold stLen at h ⊢
 split
 ·rfl
 ·next hm => rw [if_neg hm] at h; exact hf.2.2 h
theorem stText_facts (s : ByteArray) (e : Int) : (stText s e).1.1.size ≤ s.size ∧ (stText s e).2.size ≤ 65536 := by
 have hf := stLen_facts s e 65536
 unfold stText
 simp only
 split
 ·exact ⟨hf.2, by simp [ByteArray.size]⟩
 ·split
  ·exact ⟨hf.2, by simp [ByteArray.size]⟩
  ·simp only [← size_list, ex_list, List.length_take, List.length_drop]
   rw [size_list]
   have h2 := hf.2
   rw [size_list]
   omega
end Go.Proofs.YtkejaepmoabikaaGreatDoor.W
namespace Go.Proofs.YtkejaepmoabikaaGreatDoor.W
theorem dec_num (n : Nat) (hn : n ≤ 9007199254740992) (t : List UInt8) : dec (num n ++ t) = (n, (num n).length, 0) := by
 have hl := be_len_le n 7 (by omega)
 have hk : (UInt8.ofNat (be n).length).toNat = (be n).length := toNat_ofNat (by omega)
 show dec (UInt8.ofNat (be n).length :: (be n ++ t)) = _
 rw [dec, hk, if_neg (by omega), if_neg, if_neg (by rw [List.length_append]; omega), List.take_left, val_be, if_neg (by omega), num_len, Nat.add_comm]
 rintro ⟨hp, hh⟩
 have hne : be n ≠ [] := by intro e; rw [e] at hp; simp at hp
 rw [head_app hne] at hh
 exact be_head n hh
theorem num_of_dec (l : List UInt8) (h : (dec l).2.2 = 0) : l = num (dec l).1 ++ l.drop (dec l).2.1 ∧ (dec l).1 ≤ 9007199254740992 ∧ (dec l).2.1 = (num (dec l).1).length := by
 cases l with
 | nil => simp [dec] at h
 | cons k d =>
  rw [dec] at h ⊢
  by_cases h1 : 7 < k.toNat
  ·rw [if_pos h1] at h; simp at h
  ·rw [if_neg h1] at h ⊢
   by_cases h2 : 0 < k.toNat ∧ d.head? = some 0
   ·rw [if_pos h2] at h; simp at h
   ·rw [if_neg h2] at h ⊢
    by_cases h3 : d.length < k.toNat
    ·rw [if_pos h3] at h; simp at h
    ·rw [if_neg h3] at h ⊢
     by_cases h4 : 9007199254740992 < val (d.take k.toNat)
     ·rw [if_pos h4] at h; simp at h
     ·rw [if_neg h4]
      simp only
      have hh : (d.take k.toNat).head? ≠ some 0 := by
       intro e
       apply h2
       cases d with
       | nil => simp at e
       | cons x r =>
        cases hk : k.toNat with
        | zero => rw [hk] at e; simp at e
        | succ j => rw [hk] at e; exact ⟨by omega, by simpa using e⟩
      have hb := be_val _ hh
      have hlen : (d.take k.toNat).length = k.toNat := by rw [List.length_take]; omega
      refine ⟨?_, by omega, ?_⟩
      ·unfold num
       rw [hb, hlen, UInt8.ofNat_toNat, show 1 + k.toNat = k.toNat + 1 by omega, List.drop_succ_cons, List.cons_append, List.take_append_drop]
      ·rw [num_len, hb, hlen]; omega
theorem drop_all (s : ByteArray) (k : Nat) : (s.extract k s.size).data.toList = s.data.toList.drop k := by
 rw [ex_list, List.take_of_length_le (by rw [List.length_drop, size_list]; omega)]
theorem stNum_back (n : Nat) (hn : n ≤ 9007199254740992) (t : List UInt8) : stNum (bs (num n ++ t)) 0 = ((bs t, 0), n) := by
 have hd := dec_num n hn t
 have e : (bs (num n ++ t)).extract (num n).length (bs (num n ++ t)).size = bs t := by
  rw [← bs_of ((bs (num n ++ t)).extract _ _), drop_all, bs_data, List.drop_left]
 simp [stNum, bs_data, hd, e]
theorem num_of_st (s : ByteArray) (h : (stNum s 0).1.2 = 0) : s.data.toList = num (stNum s 0).2 ++ (stNum s 0).1.1.data.toList ∧ (stNum s 0).2 ≤ 9007199254740992 := by
 unfold stNum at h ⊢
 simp only [ne_eq, not_true_eq_false, if_false] at h ⊢
 by_cases hd : (dec s.data.toList).2.2 = 0
 ·simp only [hd, not_true_eq_false, if_false] at h ⊢
  obtain ⟨h1, h2, _⟩ := num_of_dec s.data.toList hd
  rw [drop_all]
  exact ⟨h1, h2⟩
 ·simp only [hd, not_false_eq_true, if_true] at h
theorem stText_back (x : List UInt8) (hx : x.length ≤ 65536) (t : List UInt8) : stText (bs (text x ++ t)) 0 = ((bs t, 0), bs x) := by
 have hn : stNum (bs (text x ++ t)) 0 = ((bs (x ++ t), 0), x.length) := by
  unfold text
  rw [List.append_assoc]
  exact stNum_back x.length (by omega) (x ++ t)
 have hl : stLen (bs (text x ++ t)) 0 65536 = ((bs (x ++ t), 0), x.length) := by
  unfold stLen
  rw [hn, if_neg (by simp only; omega)]
 have e1 : (bs (x ++ t)).extract x.length (bs (x ++ t)).size = bs t := by
  rw [← bs_of ((bs (x ++ t)).extract _ _), drop_all, bs_data, List.drop_left]
 have e2 : (bs (x ++ t)).extract 0 x.length = bs x := by
  rw [← bs_of ((bs (x ++ t)).extract _ _), take_of, bs_data, List.take_left]
 unfold stText
 simp only [hl, ne_eq, not_true_eq_false, if_false]
 rw [if_neg (by rw [bs_size, List.length_append]; omega), e1, e2]
theorem text_of_st (s : ByteArray) (h : (stText s 0).1.2 = 0) : s.data.toList = text (stText s 0).2.data.toList ++ (stText s 0).1.1.data.toList ∧ (stText s 0).2.size ≤ 65536 := by
 have hf := stText_facts s 0
 refine ⟨?_, hf.2⟩
 unfold stText at h ⊢
 simp only at h ⊢
 by_cases h1 : (stLen s 0 65536).1.2 = 0
 ·simp only [h1, ne_eq, not_true_eq_false, if_false] at h ⊢
  by_cases h2 : (stLen s 0 65536).1.1.size < (stLen s 0 65536).2
  ·rw [if_pos h2] at h; simp at h
  ·rw [if_neg h2]
   simp only
   have hL : stLen s 0 65536 = stNum s 0 := by
    unfold stLen at h1 ⊢
    by_cases hm : 65536 < (stNum s 0).2
    ·rw [if_pos hm] at h1; simp at h1
    ·rw [if_neg hm]
   rw [hL] at h1 h2 ⊢
   obtain ⟨e, hb⟩ := num_of_st s h1
   unfold text
   rw [take_of, drop_all, List.length_take, size_list, Nat.min_eq_left (by omega), List.append_assoc, List.take_append_drop]
   exact e
 ·simp only [h1, ne_eq, not_false_eq_true, if_true] at h
theorem stDone_zero (s : ByteArray) (h : stDone s 0 = 0) : s = bs [] := by
 unfold stDone at h
 simp only [ne_eq, not_true_eq_false, if_false] at h
 by_cases hs : s.size = 0
 ·rw [← bs_of s, List.eq_nil_of_length_eq_zero (show s.data.toList.length = 0 by rw [size_list]; exact hs)]
 ·rw [if_neg hs] at h; simp at h
structure Hdr where
 chain : ByteArray
 height : Int
 time : Int
 root : ByteArray
 mac : ByteArray
deriving DecidableEq
def Hdr.zero : Hdr := ⟨⟨#[]⟩, 0, 0, ⟨#[]⟩, ⟨#[]⟩⟩
def hdV (h : Hdr) : Value := .agg #[.string h.chain, .int .i64 h.height, .int .i64 h.time, .string h.root, .string h.mac]
def bodyOf (h : Hdr) : List UInt8 × Int := radd (radd (radd (radd ([], 0) (encText h.chain)) (encNum h.height)) (encNum h.time)) (encText h.root)
def encHd (h : Hdr) : List UInt8 × Int := radd (bodyOf h) (encText h.mac)
def signOf (key : ByteArray) (h : Hdr) : Hdr × Int := if (bodyOf h).2 ≠ 0 then (Hdr.zero, (bodyOf h).2) else (⟨h.chain, h.height, h.time, h.root, bs (macOf key.data.toList (bodyOf h).1)⟩, 0)
def goodOf (key : ByteArray) (h : Hdr) : Bool := decide ((signOf key h).2 = 0 ∧ (signOf key h).1 = h)
def rdHd (s : ByteArray) : Hdr × Int :=
 let a := stText s 0
 let b := stNum a.1.1 a.1.2
 let c := stNum b.1.1 b.1.2
 let d := stText c.1.1 c.1.2
 let e := stText d.1.1 d.1.2
 if stDone e.1.1 e.1.2 ≠ 0 then (Hdr.zero, stDone e.1.1 e.1.2) else (⟨a.2, b.2, c.2, d.2, e.2⟩, 0)
theorem encText_fst (s : ByteArray) (h : (encText s).2 = 0) : s.size ≤ 65536 ∧ (encText s).1 = text s.data.toList := by
 unfold encText at h ⊢
 split
 ·rename_i h1; exact ⟨h1, rfl⟩
 ·rename_i h1; rw [if_neg h1] at h; simp at h
theorem encNum_fst (n : Int) (h : (encNum n).2 = 0) : 0 ≤ n ∧ n ≤ 9007199254740992 ∧ (encNum n).1 = num n.toNat := by
 unfold encNum at h ⊢
 split
 ·rename_i h1; exact ⟨h1.1, h1.2, rfl⟩
 ·rename_i h1; rw [if_neg h1] at h; simp at h
theorem rd_hd (h : Hdr) (he : (encHd h).2 = 0) (t : List UInt8) : rdHd (bs ((encHd h).1 ++ t)) = if t = [] then (h, 0) else (Hdr.zero, 6) := by
 unfold encHd bodyOf at he ⊢
 obtain ⟨he, h5, e5⟩ := radd_ok he
 obtain ⟨he, h4, e4⟩ := radd_ok he
 obtain ⟨he, h3, e3⟩ := radd_ok he
 obtain ⟨he, h2, e2⟩ := radd_ok he
 obtain ⟨_, h1, e1⟩ := radd_ok he
 rw [e5, e4, e3, e2, e1]
 obtain ⟨l1, f1⟩ := encText_fst _ h1
 obtain ⟨l2, m2, f2⟩ := encNum_fst _ h2
 obtain ⟨l3, m3, f3⟩ := encNum_fst _ h3
 obtain ⟨l4, f4⟩ := encText_fst _ h4
 obtain ⟨l5, f5⟩ := encText_fst _ h5
 rw [f1, f2, f3, f4, f5]
 have b1 := stText_back h.chain.data.toList (by rw [size_list]; exact l1) (num h.height.toNat ++ (num h.time.toNat ++ (text h.root.data.toList ++ (text h.mac.data.toList ++ t))))
 have b2 := stNum_back h.height.toNat (by omega) (num h.time.toNat ++ (text h.root.data.toList ++ (text h.mac.data.toList ++ t)))
 have b3 := stNum_back h.time.toNat (by omega) (text h.root.data.toList ++ (text h.mac.data.toList ++ t))
 have b4 := stText_back h.root.data.toList (by rw [size_list]; exact l4) (text h.mac.data.toList ++ t)
 have b5 := stText_back h.mac.data.toList (by rw [size_list]; exact l5) t
 simp only [List.nil_append, List.append_assoc]
 unfold rdHd
 simp only [b1, b2, b3, b4, b5, bs_of]
 by_cases ht : t = []
 ·subst ht
  rw [if_neg (by simp [stDone, bs_size]), if_pos rfl, Int.toNat_of_nonneg l2, Int.toNat_of_nonneg l3]
 ·have hd : stDone (bs t) 0 = 6 := by
   unfold stDone
   rw [if_neg (by simp), if_neg (by rw [bs_size]; intro e; exact ht (List.eq_nil_of_length_eq_zero e))]
  rw [hd, if_pos (by decide), if_neg ht]
theorem body_len (h : Hdr) : (bodyOf h).1.length ≤ 131104 := by
 unfold bodyOf
 have a1 := radd_len ([], 0) (encText h.chain)
 have a2 := radd_len (radd ([], 0) (encText h.chain)) (encNum h.height)
 have a3 := radd_len (radd (radd ([], 0) (encText h.chain)) (encNum h.height)) (encNum h.time)
 have a4 := radd_len (radd (radd (radd ([], 0) (encText h.chain)) (encNum h.height)) (encNum h.time)) (encText h.root)
 have c1 := encText_len h.chain
 have c2 := encNum_len h.height
 have c3 := encNum_len h.time
 have c4 := encText_len h.root
 simp only [List.length_nil] at a1
 omega
theorem sign_good (key : ByteArray) (h : Hdr) (hb : (bodyOf h).2 = 0) : (signOf key h).2 = 0 ∧ goodOf key (signOf key h).1 = true ∧ (encHd (signOf key h).1).2 = 0 ∧ bodyOf (signOf key h).1 = bodyOf h := by
 have e : signOf key h = (⟨h.chain, h.height, h.time, h.root, bs (macOf key.data.toList (bodyOf h).1)⟩, 0) := by unfold signOf; rw [if_neg (by simp [hb])]
 have e2 : bodyOf (⟨h.chain, h.height, h.time, h.root, bs (macOf key.data.toList (bodyOf h).1)⟩ : Hdr) = bodyOf h := rfl
 rw [e]
 refine ⟨rfl, ?_, ?_, e2⟩
 ·unfold goodOf signOf
  rw [e2, if_neg (by simp [hb])]
  simp
 ·unfold encHd
  rw [e2]
  have hm : (encText (bs (macOf key.data.toList (bodyOf h).1))).2 = 0 := by
   unfold encText
   rw [if_pos (by rw [bs_size, macOf_len]; decide)]
  unfold radd
  rw [if_neg (by simp [hb]), if_neg (by simp [hm])]
def dcm (n : Nat) : List UInt8 := Lib.decDigits n
theorem dcm_small {n : Nat} (h : n < 10) : dcm n = [UInt8.ofNat (48 + n)] := Lib.decDigits_one h
theorem dcm_big {n : Nat} (h : ¬ n < 10) : dcm n = dcm (n / 10) ++ [UInt8.ofNat (48 + n % 10)] := by
 unfold dcm
 rw [Lib.decDigits, dif_neg h]
theorem dcm_len_le : ∀ (k n : Nat), n < 10 ^ (k + 1) → (dcm n).length ≤ k + 1
 | 0, n, h => by rw [dcm_small (by simpa using h)]; simp
 | k + 1, n, h => by
  by_cases h1 : n < 10
  ·rw [dcm_small h1]; simp
  ·have := dcm_len_le k (n / 10) (Nat.div_lt_of_lt_mul (by rw [Nat.pow_succ] at h; omega))
   rw [dcm_big h1]
   simp only [List.length_append, List.length_singleton]
   omega
def lowd : Nat → Nat → List UInt8
 | 0, _ => []
 | k + 1, m => lowd k (m / 10) ++ [UInt8.ofNat (48 + m % 10)]
theorem lowd_len : ∀ k m, (lowd k m).length = k
 | 0, _ => rfl
 | k + 1, m => by rw [lowd, List.length_append, lowd_len k]; rfl
theorem lowd_cons : ∀ k m, lowd (k + 1) m = UInt8.ofNat (48 + m / 10 ^ k % 10) :: lowd k m
 | 0, m => by simp [lowd]
 | k + 1, m => by
  rw [lowd, lowd_cons k (m / 10), Nat.div_div_eq_div_mul, show 10 * 10 ^ k = 10 ^ (k + 1) by rw [Nat.pow_succ, Nat.mul_comm]]
  rfl
theorem lowd_zero : ∀ k, lowd k 0 = List.replicate k 48
 | 0 => rfl
 | k + 1 => by rw [lowd_cons, lowd_zero k]; simp [List.replicate_succ]
theorem lowd_dec : ∀ (k m : Nat), m < 10 ^ (k + 1) → List.replicate (k + 1 - (dcm m).length) 48 ++ dcm m = lowd (k + 1) m
 | 0, m, h => by
  have h1 : m < 10 := by simpa using h
  rw [dcm_small h1, lowd, lowd, Nat.mod_eq_of_lt h1]
  rfl
 | k + 1, m, h => by
  by_cases h1 : m < 10
  ·rw [dcm_small h1, lowd, Nat.mod_eq_of_lt h1, Nat.div_eq_of_lt h1, lowd_zero]
   rfl
  ·have ih := lowd_dec k (m / 10) (Nat.div_lt_of_lt_mul (by rw [Nat.pow_succ] at h; omega))
   rw [dcm_big h1, lowd, ← ih, List.length_append, List.length_singleton, ← List.append_assoc]
   congr 3
   omega
end Go.Proofs.YtkejaepmoabikaaGreatDoor.W
namespace Go.Proofs.YtkejaepmoabikaaGreatDoor.W
open Go.RowKit Go.Shelf
open _root_.Go.Proofs.Tryz renaming prog → qP
theorem gPow : qP.globalNamed "internal/strconv.uint64pow10" = some 5 := by kernel_rfl
theorem cell_next {w w' : World} {p : Addr} {v : Value} (h : w.cell? p = some v) (hb : Below w.heap.size w w') : w'.cell? p = some v :=
 (hb.cell (World.block_lt_of_cell? w _ h)).trans h
theorem below_grow (w : World) (k : Nat) (os : Array Obj) : Below w.heap.size w (Go.Sort.grow (w.drewN k) os) := by
 refine ⟨rfl, rfl, rfl, ?_, fun i hi => ?_⟩
 ·show w.heap.size ≤ (w.heap ++ os).size
  rw [Array.size_append]
  omega
 ·show (w.heap ++ os)[i]? = w.heap[i]?
  rw [Array.getElem?_append_left hi]
def Pow (w : World) : Prop := Lib.TabIs qP w "internal/strconv.uint64pow10" .u64 Lib.pow10Tab
theorem Pow.next {w w' : World} (h : Pow w) (hb : Below w.heap.size w w') : Pow w' := Go.Joins.tab_stays gPow h hb (Nat.le_refl _)
theorem itoaP (n : Nat) (h : n ≤ 9223372036854775807) (w : World) (hT : Pow w) :
  Calls qP 113 #[.int .i64 n] w fun e w' => e = .returned (.string (bs (dcm n))) ∧ Below w.heap.size w w' := by
 refine (Any.strconv_Itoa Tryz.laysM171 (n : Int) (by omega) (by omega) w hT).mono ?_
 rintro e w' ⟨rfl, k, os, rfl⟩
 refine ⟨?_, below_grow w k os⟩
 rw [Lib.itoa_nonneg]
 rfl
end Go.Proofs.YtkejaepmoabikaaGreatDoor.W
namespace Go.Proofs.YtkejaepmoabikaaGreatDoor.W
def rp (old new : List UInt8) : Nat → List UInt8 → List UInt8
 | 0, s => s
 | _ + 1, [] => []
 | f + 1, x :: l => if old.isPrefixOf (x :: l) then new ++ rp old new f ((x :: l).drop old.length) else x :: rp old new f l
theorem replaceK_rp (old new : List UInt8) (ho : old ≠ []) : ∀ (f : Nat) (s : List UInt8), s.length ≤ f → Lib.replaceK old new (Lib.count s old) s = rp old new f s
 | 0, s, h => by
  have e : s = [] := List.eq_nil_of_length_eq_zero (by omega)
  subst e
  have hm : Lib.index [] old = -1 := by
   unfold Lib.index
   rw [if_neg (by simpa using ho)]
  rw [Lib.count_miss hm]
  rfl
 | f + 1, [], h => by
  have hm : Lib.index [] old = -1 := by
   unfold Lib.index
   rw [if_neg (by simpa using ho)]
  rw [Lib.count_miss hm]
  rfl
 | f + 1, x :: l, h => by
  have hl : 1 ≤ old.length := by cases old with | nil => exact absurd rfl ho | cons a r => simp
  rw [rp]
  by_cases hp : old.isPrefixOf (x :: l) = true
  ·rw [if_pos hp]
   have hi : Lib.index (x :: l) old = ((0 : Nat) : Int) := by unfold Lib.index; rw [if_pos hp]; rfl
   rw [Lib.count_hit ho hi, Nat.add_comm 1, Lib.replaceK_hit old new _ _ 0 hi, List.take_zero, List.nil_append, Nat.zero_add]
   rw [replaceK_rp old new ho f _ (by simp only [List.length_drop, List.length_cons] at h ⊢; omega)]
  ·rw [if_neg hp]
   have hp' : old.isPrefixOf (x :: l) = false := by cases e : old.isPrefixOf (x :: l) with | false => rfl | true => exact absurd e hp
   have ih := replaceK_rp old new ho f l (by simp only [List.length_cons] at h; omega)
   rw [← ih]
   by_cases hm : Lib.index l old = -1
   ·have hi : Lib.index (x :: l) old = -1 := by unfold Lib.index; rw [hp', hm]; rfl
    rw [Lib.count_miss hi, Lib.count_miss hm]
    rfl
   ·have hge := Lib.index_ge l old
    obtain ⟨i, hj⟩ : ∃ i : Nat, Lib.index l old = i := ⟨(Lib.index l old).toNat, by omega⟩
    have hi : Lib.index (x :: l) old = ((i + 1 : Nat) : Int) := by
     unfold Lib.index
     rw [hp', hj]
     have : ((i : Int) == -1) = false := by rw [beq_eq_false_iff_ne]; omega
     simp [this]
    rw [Lib.count_hit ho hi, Lib.count_hit ho hj, Nat.add_comm 1, Nat.add_comm 1, Lib.replaceK_hit old new _ _ (i + 1) hi, Lib.replaceK_hit old new _ _ i hj]
    rw [show i + 1 + old.length = (i + old.length) + 1 by omega, List.drop_succ_cons, List.take_succ_cons]
    simp
def rpA (old new s : List UInt8) : List UInt8 := rp old new s.length s
theorem rp_fuel (old new : List UInt8) (ho : old ≠ []) (f : Nat) (s : List UInt8) (h : s.length ≤ f) : rp old new f s = rpA old new s := by
 rw [rpA, ← replaceK_rp old new ho f s h, ← replaceK_rp old new ho _ s (Nat.le_refl _)]
theorem replaceAll_rp (s old new : List UInt8) (ho : old ≠ []) (hn : old ≠ new) : Lib.replaceAll s old new = rpA old new s := by
 rw [Lib.replaceAll, Lib.replace, if_neg (by simpa using hn), Lib.replaceNum, if_pos (Or.inl (by decide))]
 exact replaceK_rp old new ho _ s (Nat.le_refl _)
theorem rpA_hit (old new : List UInt8) (ho : old ≠ []) (r : List UInt8) : rpA old new (old ++ r) = new ++ rpA old new r := by
 cases old with
 | nil => exact absurd rfl ho
 | cons a o =>
  rw [rpA, List.cons_append, List.length_cons, rp, if_pos (by rw [← List.cons_append]; simp)]
  rw [← List.cons_append, List.drop_left]
  rw [rp_fuel _ _ ho _ _ (by simp)]
theorem rpA_miss (old new : List UInt8) (ho : old ≠ []) (x : UInt8) (l : List UInt8) (h : old.isPrefixOf (x :: l) = false) : rpA old new (x :: l) = x :: rpA old new l := by
 rw [rpA, List.length_cons, rp, if_neg (by simp [h]), rp_fuel _ _ ho _ _ (Nat.le_refl _)]
def e1 : List UInt8 → List UInt8
 | [] => []
 | b :: l => if b = 37 then 37 :: 112 :: e1 l else b :: e1 l
def esc : List UInt8 → List UInt8
 | [] => []
 | b :: l => if b = 37 then 37 :: 112 :: esc l else if b = 47 then 37 :: 115 :: esc l else b :: esc l
theorem e1_is : ∀ l, rpA [37] [37, 112] l = e1 l
 | [] => rfl
 | b :: l => by
  unfold e1
  by_cases h : b = 37
  ·subst h
   rw [if_pos rfl, show (37 : UInt8) :: l = [37] ++ l from rfl, rpA_hit _ _ (by simp), e1_is l]
   rfl
  ·rw [if_neg h, rpA_miss _ _ (by simp) _ _ (by simp [List.isPrefixOf, Ne.symm h]), e1_is l]
theorem esc_is : ∀ l, rpA [47] [37, 115] (e1 l) = esc l
 | [] => rfl
 | b :: l => by
  unfold e1 esc
  by_cases h : b = 37
  ·rw [if_pos h, if_pos h, rpA_miss _ _ (by simp) _ _ (by simp [List.isPrefixOf]), rpA_miss _ _ (by simp) _ _ (by simp [List.isPrefixOf]), esc_is l]
  ·rw [if_neg h, if_neg h]
   by_cases h2 : b = 47
   ·subst h2
    rw [if_pos rfl, show (47 : UInt8) :: e1 l = [47] ++ e1 l from rfl, rpA_hit _ _ (by simp), esc_is l]
    rfl
   ·rw [if_neg h2, rpA_miss _ _ (by simp) _ _ (by simp [List.isPrefixOf, Ne.symm h2]), esc_is l]
def une (l : List UInt8) : List UInt8 := rpA [37, 112] [37] (rpA [37, 115] [47] l)
theorem une1 : ∀ l, rpA [37, 115] [47] (esc l) = e1 l
 | [] => rfl
 | b :: l => by
  unfold e1 esc
  by_cases h : b = 37
  ·rw [if_pos h, if_pos h, rpA_miss _ _ (by simp) _ _ (by simp [List.isPrefixOf]), rpA_miss _ _ (by simp) _ _ (by simp [List.isPrefixOf]), une1 l]
  ·rw [if_neg h, if_neg h]
   by_cases h2 : b = 47
   ·subst h2
    rw [if_pos rfl, show (37 : UInt8) :: 115 :: esc l = [37, 115] ++ esc l from rfl, rpA_hit _ _ (by simp), une1 l]
    rfl
   ·rw [if_neg h2, rpA_miss _ _ (by simp) _ _ (by simp [List.isPrefixOf, Ne.symm h]), une1 l]
theorem une2 : ∀ l, rpA [37, 112] [37] (e1 l) = l
 | [] => rfl
 | b :: l => by
  unfold e1
  by_cases h : b = 37
  ·subst h
   rw [if_pos rfl, show (37 : UInt8) :: 112 :: e1 l = [37, 112] ++ e1 l from rfl, rpA_hit _ _ (by simp), une2 l]
   rfl
  ·rw [if_neg h, rpA_miss _ _ (by simp) _ _ (by simp [List.isPrefixOf, Ne.symm h]), une2 l]
theorem une_esc (l : List UInt8) : une (esc l) = l := by rw [une, une1, une2]
theorem e1_len : ∀ l, (e1 l).length ≤ 2 * l.length
 | [] => by simp [e1]
 | b :: l => by
  have := e1_len l
  unfold e1
  split <;> simp only [List.length_cons] <;> omega
theorem esc_len : ∀ l, (esc l).length ≤ 2 * l.length
 | [] => by simp [esc]
 | b :: l => by
  have := esc_len l
  unfold esc
  split
  ·simp only [List.length_cons]; omega
  ·split <;> simp only [List.length_cons] <;> omega
def ns (l : List UInt8) : Prop := ∀ b ∈ l, b ≠ 47
theorem esc_ns : ∀ l, ns (esc l)
 | [] => by intro b hb; cases hb
 | c :: l => by
  have ih := esc_ns l
  unfold esc
  intro b hb
  split at hb
  ·simp only [List.mem_cons] at hb
   rcases hb with rfl | rfl | hb
   ·decide
   ·decide
   ·exact ih b hb
  ·split at hb
   ·simp only [List.mem_cons] at hb
    rcases hb with rfl | rfl | hb
    ·decide
    ·decide
    ·exact ih b hb
   ·rename_i h2
    simp only [List.mem_cons] at hb
    rcases hb with rfl | hb
    ·exact h2
    ·exact ih b hb
def pcs : List UInt8 → List (List UInt8)
 | [] => [[]]
 | b :: l => if b = 47 then [] :: pcs l else ((b :: (pcs l).headD []) :: (pcs l).tail)
def glue (x : List UInt8) : List (List UInt8) → List UInt8
 | [] => x
 | y :: r => x ++ 47 :: glue y r
theorem pcs_app (x : List UInt8) (hx : ns x) (s : List UInt8) : ∀ p r, pcs s = p :: r → pcs (x ++ s) = (x ++ p) :: r := by
 induction x with
 | nil => intro p r h; simpa using h
 | cons b x ih =>
  intro p r h
  have hb : b ≠ 47 := hx b (by simp)
  have ih' := ih (fun c hc => hx c (by simp [hc])) p r h
  rw [List.cons_append, pcs, if_neg hb, ih']
  rfl
theorem pcs_ns (x : List UInt8) (hx : ns x) : pcs x = [x] := by
 have := pcs_app x hx [] [] [] rfl
 simpa using this
theorem pcs_slash (x : List UInt8) (hx : ns x) (s : List UInt8) : pcs (x ++ 47 :: s) = x :: pcs s := by
 have := pcs_app x hx (47 :: s) [] (pcs s) (by rw [pcs, if_pos rfl])
 simpa using this
theorem pcs_glue : ∀ (r : List (List UInt8)) (x : List UInt8), ns x → (∀ y ∈ r, ns y) → pcs (glue x r) = x :: r
 | [], x, hx, _ => pcs_ns x hx
 | y :: r, x, hx, hr => by
  rw [glue, pcs_slash x hx, pcs_glue r y (hr y (by simp)) (fun z hz => hr z (by simp [hz]))]
theorem glue_len : ∀ (r : List (List UInt8)) (x : List UInt8), (glue x r).length = x.length + ((r.map List.length).sum + r.length)
 | [], x => by simp [glue]
 | y :: r, x => by
  rw [glue, List.length_append, List.length_cons, glue_len r y]
  simp only [List.map_cons, List.sum_cons, List.length_cons]
  omega
theorem join_glue : ∀ (r : List (List UInt8)) (x : List UInt8), Lib.join (x :: r) [47] = glue x r
 | [], x => Lib.join_one x [47]
 | y :: r, x => by
  rw [Lib.join_cons, glue, ← join_glue r y, Lib.join_cons]
  simp [Lib.joinTail]
def key (w : List UInt8) (ps : List (List UInt8)) : List UInt8 := glue (esc w) (ps.map esc)
def txt (s : List UInt8) : List (List UInt8) := (pcs s).map une
theorem pcs_key (w : List UInt8) (ps : List (List UInt8)) : pcs (key w ps) = esc w :: ps.map esc :=
 pcs_glue _ _ (esc_ns w) (by intro y hy; obtain ⟨z, _, rfl⟩ := List.mem_map.mp hy; exact esc_ns z)
theorem map_une_esc (ps : List (List UInt8)) : (ps.map esc).map une = ps := by
 rw [List.map_map]
 exact (List.map_congr_left (fun a _ => une_esc a)).trans (List.map_id ps)
theorem txt_key (w : List UInt8) (ps : List (List UInt8)) : txt (key w ps) = w :: ps := by
 rw [txt, pcs_key, List.map_cons, une_esc, map_une_esc]
theorem key_inj {w v : List UInt8} {ps qs : List (List UInt8)} (h : key w ps = key v qs) : w = v ∧ ps = qs := by
 have e := txt_key w ps
 rw [h, txt_key] at e
 injection e with e1 e2
 exact ⟨e1.symm, e2.symm⟩
end Go.Proofs.YtkejaepmoabikaaGreatDoor.W
namespace Go.Proofs.YtkejaepmoabikaaGreatDoor.W
open Go.RowKit
open _root_.Go.Proofs.Tryz renaming prog → qP
theorem infoStr : (qP.info? 9).map (fun i => (i.zero, i.size, i.bytes)) = some (some (.string .empty), 1, 16) := by kernel_rfl
def strVals (ss : List ByteArray) : List Value := ss.map Value.string
theorem strVals_len (ss : List ByteArray) : (strVals ss).length = ss.length := by simp [strVals]
theorem Txs.of_own {w : World} {base : Nat} {v : Value} {ss : List ByteArray} (h : w.ownsRow base 9 1 v ss.length (strVals ss)) : Txs w w.heap.size v ss := by
 rcases h.2 with ⟨rfl, hn⟩ | ⟨g, cap, cur, rfl, hb, hg, _⟩
 ·obtain rfl : ss = [] := List.eq_nil_of_length_eq_zero hn
  exact Txs.nil _ _ _ _
 ·refine ⟨some ⟨g, 0, none⟩, cap, rfl, fun i hi => ⟨g, 0, rfl, (Array.getElem?_eq_some_iff.1 hg).1, ?_⟩⟩
  have := h.cells (g := g) rfl i (.string ss[i]) (by simp [strVals, hi])
  rw [show (⟨g, 0, none⟩ : Addr).add i = ⟨g, 0 + i, none⟩ by unfold Addr.add; split <;> simp_all] at this
  exact this
def Roomy (v : Value) : Prop := ∃ A n cap, v = .slice A n cap ∧ n ≤ cap
theorem roomy_nil : Roomy (.slice none 0 0) := ⟨none, 0, 0, rfl, Nat.le_refl _⟩
theorem own_roomy {w : World} {B : Nat} {e : TypeId} {k n : Nat} {v : Value} {xs : List Value} (h : w.ownsRow B e k v n xs) : Roomy v := by
 rcases h.2 with ⟨rfl, _⟩ | ⟨g, cap, cur, rfl, _, _, hc, _⟩
 ·exact roomy_nil
 ·exact ⟨_, _, _, rfl, hc⟩
def OwnStrs (B : Nat) (v : Value) (ss : List ByteArray) (W0 w : World) : Prop :=
 w.ownsRow B 9 1 v ss.length (strVals ss) ∧ Below B W0 w ∧ B ≤ w.heap.size
theorem OwnStrs_nil (w : World) : OwnStrs w.heap.size (.slice none 0 0) [] w w := ⟨World.ownsRow_nil _ _ _ _, Below.refl _ _, Nat.le_refl _⟩
section
variable {B : Nat} {v : Value} {ss : List ByteArray} {W0 w w' : World}
theorem OwnStrs.after (h : OwnStrs B v ss W0 w) (k : Below w.heap.size w w') : OwnStrs B v ss W0 w' := by
 refine ⟨h.1.kept (row := none) ⟨k.os, k.tape, k.output, k.size, fun i hi _ => k.block i hi⟩ (by cases hv : v.ownBlock <;> simp), h.2.1.trans (k.mono h.2.2), Nat.le_trans h.2.2 k.size⟩
theorem OwnStrs.alloc (h : OwnStrs B v ss W0 w) (o : Obj) : OwnStrs B v ss W0 (w.alloc o) := h.after ((Below.refl _ _).alloc (Nat.le_refl _) _)
theorem OwnStrs.txs (h : OwnStrs B v ss W0 w) : Txs w w.heap.size v ss := Txs.of_own h.1
theorem OwnStrs.below (h : OwnStrs W0.heap.size v ss W0 w) : Below W0.heap.size W0 w := h.2.1
end
theorem wpList_append_str {ops : Array Oper} {rest : List Oper} {o : Oper} {a : Act} {Q : Exit → Act → World → Prop} (hgd : o.guard = none) (s x : Operand)
  (ho : o.op = .call { callee := .builtin .append, args := #[s, x], argTypes := #[74, 74] })
  (B : Nat) (v : Value) (ss : List ByteArray) (hs : a.eval s = v) (W0 w0 : World) (c : ByteArray) (hb : OwnStrs B v ss W0 w0)
  (hx : a.eval x = .slice (some ⟨w0.heap.size, 0, none⟩) 1 1) (hlen : ss.length ≤ 1000000000)
  (h : ∀ v' w', OwnStrs B v' (ss ++ [c]) W0 w' → wpList qP ops Q rest (a.put o.dst v') w') : wpList qP ops Q (o :: rest) a (w0.alloc (.cells #[.string c] 9)) := by
 obtain ⟨i0, hi, hz0, hz1, hz2⟩ := info_parts infoStr
 have hb' := hb.alloc (.cells #[.string c] 9)
 refine wpList_append_own _ hgd s x 74 ho B 9 i0 (.string .empty) 1 16 Tryz.underlying74 hi hz0 hz1 hz2 rfl (by decide) v ss.length (strVals ss) hs hb'.1 ⟨w0.heap.size, 0, none⟩ 1 1 [.string c] hx rfl ?_ ?_ ?_ ?_ hb'.2.2 ?_
 ·intro j u hj
  match j, hj with
  | 0, hj => simp at hj; subst hj; simp [Addr.add]
  | (j + 1), hj => simp at hj
 ·intro u hu
  simp at hu
  subst hu
  rfl
 ·unfold maxLen; omega
 ·omega
 ·intro v' w' ho' hg _
  refine h v' w' ⟨?_, hb'.2.1.grown hg hb'.2.2 (fun k hk => (hb'.1.lt k hk).1), Nat.le_trans hb'.2.2 hg.size⟩
  simpa [strVals] using ho'
theorem run_make_strs (n : Nat) (h : n ≤ 1000000000) (w : World) : (Instr.makeSlice 74 (.int .i64 0) (.int .i64 n)).run qP w = .ok (.slice (some ⟨w.heap.size, 0, none⟩) 0 n) (w.alloc (.cells (madeCells #[.string .empty] n) 9)) := by
 obtain ⟨i0, hi, hz0, hz1, hz2⟩ := info_parts infoStr
 have hr := run_make (P := qP) w 74 9 i0 _ Tryz.underlying74 hi hz0 .i64 .i64 0 n (by omega) (by omega) (by rw [hz2]; omega) (by omega)
 rw [hz1, show (Value.string ByteArray.empty).cells = #[.string .empty] from rfl] at hr
 simpa using hr
theorem OwnStrs_made (n : Nat) (h : n ≤ 1000000000) (w : World) : OwnStrs w.heap.size (.slice (some ⟨w.heap.size, 0, none⟩) 0 n) [] w (w.alloc (.cells (madeCells #[.string .empty] n) 9)) :=
 ⟨World.ownsRow_made w _ n (Nat.le_refl _) (by unfold maxLen; omega) (by rw [size_madeCells, Nat.mul_one]), (Below.refl _ _).alloc (Nat.le_refl _) _, by simp⟩
end Go.Proofs.YtkejaepmoabikaaGreatDoor.W
namespace Go.Proofs.YtkejaepmoabikaaGreatDoor.W
open Go.RowKit Go.Shelf
open _root_.Go.Proofs.Tryz renaming prog → qP
structure PLay (w : World) : Prop where
 tab : Pow w
 most : ∃ m, w.cell? ⟨1, 0, none⟩ = some (.int .i64 m)
theorem PLay.next {w w' : World} (h : PLay w) (hb : Below w.heap.size w w') : PLay w' := by
 obtain ⟨m, hm⟩ := h.most
 exact ⟨h.tab.next hb, m, cell_next hm hb⟩
theorem replAll (s old new : ByteArray) (hs : s.size ≤ 1000000000) (h1 : 1 ≤ old.size) (h2 : new.size ≤ 2) (w : World) (hL : PLay w) :
  Calls qP 167 #[.string s, .string old, .string new] w fun e w' => e = .returned (.string (bs (Lib.replaceAll s.data.toList old.data.toList new.data.toList))) ∧ Below w.heap.size w w' := by
 obtain ⟨m, hm⟩ := hL.most
 have hc := Lib.countB_mul_le old h1 s.size s (Nat.le_refl _)
 have hc1 : Lib.countB s old ≤ s.size := Nat.le_trans (Nat.le_mul_of_pos_right _ (by omega)) hc
 have hc2 : Lib.countB s old * new.size ≤ s.size * 2 := Nat.mul_le_mul hc1 h2
 exact Any.strings_ReplaceAll { Tryz.lays155 with } Tryz.Builder_Extra_155 s old new m w (by omega) hm h1 (by omega)
theorem joinAll (v : Value) (xs : List ByteArray) (B : Nat) (w : World) (hT : Txs w B v xs) (hB : B ≤ w.heap.size) (hcap : ∀ A n c, v = .slice A n c → n ≤ c) (h0 : xs ≠ [])
  (hN : xs.length ≤ 1000000000) (hlen : (Lib.join (xs.map (·.data.toList)) [47]).length ≤ 1000000000) :
  Calls qP 135 #[v, .string ⟨#[47]⟩] w fun e w' => e = .returned (.string (bs (Lib.join (xs.map (·.data.toList)) [47]))) ∧ Below w.heap.size w w' := by
 obtain ⟨A, c, rfl, hc⟩ := hT
 have hp : 0 < xs.length := List.length_pos_iff.mpr h0
 obtain ⟨b, o, rfl, hb, -⟩ := hc 0 hp
 refine Any.strings_Join Tryz.lays156 Tryz.Builder_Extra_156 b o c xs ⟨#[47]⟩ w ?_ (by omega) (by omega) (hcap _ _ _ rfl) (Nat.le_trans hlen (by decide))
 intro j x hx
 obtain ⟨hj, rfl⟩ := List.getElem?_eq_some_iff.mp hx
 obtain ⟨b', o', he, -, hcell⟩ := hc j hj
 cases he
 exact hcell
theorem repeatZ (c : Nat) (hc : c ≤ 1000) (w : World) :
  Calls qP 153 #[.string ⟨#[48]⟩, .int .i64 c] w fun e w' => e = .returned (.string (bs (List.replicate c 48))) ∧ Below w.heap.size w w' := by
 have h := Any.strings_Repeat Tryz.lays105 Tryz.Builder_Extra_105 ⟨#[48]⟩ c w (by omega) (by rw [show (ByteArray.mk #[48]).size = 1 from rfl]; omega)
 have e : Lib.repeatL (ByteArray.mk #[48]).data.toList c = List.replicate c 48 := by
  have := Lib.repeatL_replicate 48 1 c
  simpa using this
 rw [e] at h
 exact h
end Go.Proofs.YtkejaepmoabikaaGreatDoor.W
namespace Go.Proofs.YtkejaepmoabikaaGreatDoor.W
open Go.RowKit
open List renaming getElem_cons_zero → qC
open Lib renaming hid → qH
open _root_.Go.Proofs.Tryz renaming prog → qP
set_option maxHeartbeats 2000000
set_option maxRecDepth 100000
theorem str_eq {x y : ByteArray} (h : (x.toList == y.toList) = true) : x = y := by
 have e := eq_of_beq h
 rw [ByteArray.toList_eq, ByteArray.toList_eq] at e
 exact Go.WideShapes.bytes_inj e
theorem str_ne {x y : ByteArray} (h : x ≠ y) : (x.toList == y.toList) = false := by
 cases e : (x.toList == y.toList) with
 | false => rfl
 | true => exact absurd (str_eq e) h
theorem str_some {x : ByteArray} (h : x ≠ ⟨#[]⟩) : x.toList.isEmpty = false := by
 rw [ByteArray.toList_eq]
 cases e : x.data.toList with
 | nil => exact absurd (Go.WideShapes.bytes_inj (b := ⟨#[]⟩) e) h
 | cons a r => rfl
theorem str_none : (ByteArray.mk #[]).toList.isEmpty = true := by rw [ByteArray.toList_eq]; rfl
theorem run_one (W : World) (c : Int) (h0 : 0 ≤ c) (h1 : c < 256) :
  (convert 121 9 (.slice (some ⟨W.heap.size, 0, none⟩) 1 1)).run qP (W.alloc (.cells #[.int .u8 c] 5)) = .ok (.string (bs [UInt8.ofNat c.toNat])) (W.alloc (.cells #[.int .u8 c] 5)) := by
 refine run_convert_bytes_back (W.alloc (.cells #[.int .u8 c] 5)) 121 9 5 ⟨W.heap.size, 0, none⟩ 1 [UInt8.ofNat c.toNat] Tryz.underlying121 Tryz.underlying5 Tryz.underlying9 ?_
 intro j hj
 have e : j = 0 := by simpa using hj
 subst e
 simp only [qC]
 rw [show (UInt8.ofNat c.toNat).toNat = c.toNat from toNat_ofNat (by omega), Int.toNat_of_nonneg h0]
 simp [Addr.add]
theorem run_add (W : World) (a b : List UInt8) (h : a.length + b.length ≤ 9223372036854775807) : (Op.stringOp .add (bs a) (bs b)).run qP W = .ok (.string (bs (a ++ b))) W := by
 rw [run_string_add_sum W (bs a) (bs b) (by rw [bs_size, bs_size]; exact h), bs_append]
theorem pEscape (s : ByteArray) (hs : s.size ≤ 100000000) (w : World) (hL : PLay w) :
  Calls qP 134 #[.string s] w fun e w' => e = .returned (.string (bs (esc s.data.toList))) ∧ Below w.heap.size w w' := by
 have H1 := qH (fun w hL => replAll s ⟨#[37]⟩ ⟨#[37, 112]⟩ (by omega) (by decide) (by decide) w hL)
 have H2 := qH (fun w hL => replAll (bs (e1 s.data.toList)) ⟨#[47]⟩ ⟨#[37, 115]⟩ (by rw [bs_size]; have := e1_len s.data.toList; rw [size_list] at this; omega) (by decide) (by decide) w hL)
 have E1 : Lib.replaceAll s.data.toList (ByteArray.mk #[37]).data.toList (ByteArray.mk #[37, 112]).data.toList = e1 s.data.toList := by
  show Lib.replaceAll s.data.toList [37] [37, 112] = _
  rw [replaceAll_rp _ _ _ (by simp) (by simp), e1_is]
 have E2 : Lib.replaceAll (bs (e1 s.data.toList)).data.toList (ByteArray.mk #[47]).data.toList (ByteArray.mk #[37, 115]).data.toList = esc s.data.toList := by
  show Lib.replaceAll (e1 s.data.toList) [47] [37, 115] = _
  rw [replaceAll_rp _ _ _ (by simp) (by simp), esc_is]
 rw [E1] at H1
 rw [E2] at H2
 clear E1 E2
 generalize e1 s.data.toList = m at *
 generalize esc s.data.toList = r at *
 go_enter Tryz.func134, Tryz.ntmps134
 go_wp2_with fail
 refine (H1.out w hL).mono ?_
 rintro e w1 ⟨rfl, b1⟩
 go_wp2_with fail
 refine (H2.out w1 (hL.next b1)).mono ?_
 rintro e w2 ⟨rfl, b2⟩
 go_wp2
 go_ret
 exact ⟨rfl, step_below b1 b2⟩
def clamp (n : Int) : Nat := (min (max n 0) 99999999999999).toNat
theorem clamp_lt (n : Int) : clamp n < 10 ^ (13 + 1) := by unfold clamp; omega
theorem clamp_is (n : Int) : (clamp n : Int) = min (max n 0) 99999999999999 := by unfold clamp; omega
theorem num14 (m : Nat) (h : m < 10 ^ (13 + 1)) : List.replicate (14 - (dcm m).length) 48 ++ dcm m = lowd 14 m := lowd_dec 13 m h
theorem pNumber (n : Int) (w : World) (hL : PLay w) :
  Calls qP 108 #[.int .i64 n] w fun e w' => e = .returned (.string (bs (lowd 14 (clamp n)))) ∧ Below w.heap.size w w' := by
 have hc := clamp_is n
 have hlt := clamp_lt n
 have hl := dcm_len_le 13 _ hlt
 have H1 := qH (fun w hL => itoaP (clamp n) (by omega) w hL)
 have H2 := qH (fun w => repeatZ (14 - (dcm (clamp n)).length) (by omega) w)
 have HN := qH (num14 _ hlt)
 generalize clamp n = m at *
 have hz : ((bs (dcm m)).size : Int) = ((dcm m).length : Int) := by rw [bs_size]
 have hq : (14 : Int) - ((dcm m).length : Int) = ((14 - (dcm m).length : Nat) : Int) := by omega
 generalize dcm m = d at *
 generalize hq2 : 14 - d.length = q at *
 generalize lowd 14 m = r at *
 have hmm : min (max n 0) 99999999999999 = (m : Int) := hc.symm
 clear hc hlt hq2
 go_enter Tryz.func108, Tryz.ntmps108
 go_wp2_with fail
 refine (H1.out w hL.tab).mono ?_
 rintro e w1 ⟨rfl, b1⟩
 have hadd := fun W => run_add W (List.replicate q 48) d (by rw [List.length_replicate]; omega)
 go_wp2_with fail
 refine (H2.out w1).mono ?_
 rintro e w2 ⟨rfl, b2⟩
 go_wp2
 go_ret
 exact ⟨by rw [HN.out]; rfl, step_below b1 b2⟩
def fms (wd : ByteArray) (ps : List ByteArray) (k : Nat) : List ByteArray := bs (esc wd.data.toList) :: (ps.take k).map fun p => bs (esc p.data.toList)
theorem fms_len (wd : ByteArray) (ps : List ByteArray) (k : Nat) (h : k ≤ ps.length) : (fms wd ps k).length = k + 1 := by simp [fms]; omega
theorem fms_succ (wd : ByteArray) (ps : List ByteArray) (k : Nat) (h : k < ps.length) : fms wd ps k ++ [bs (esc ps[k].data.toList)] = fms wd ps (k + 1) := by
 simp only [fms, List.cons_append]
 rw [List.take_succ_eq_append_getElem h, List.map_append]
 rfl
def tot (wd : ByteArray) (ps : List ByteArray) : Nat := wd.size + ((ps.map ByteArray.size).sum + ps.length)
theorem le_sum {l : List ByteArray} {x : ByteArray} (h : x ∈ l) : x.size ≤ (l.map ByteArray.size).sum := by
 induction l with
 | nil => cases h
 | cons y l ih =>
  rw [List.map_cons, List.sum_cons]
  rcases List.mem_cons.mp h with rfl | h
  ·omega
  ·have := ih h; omega
def pkOf (wd : ByteArray) (ps : List ByteArray) : List UInt8 := key wd.data.toList (ps.map (·.data.toList))
theorem sum_esc : ∀ (ps : List ByteArray), (((ps.map (·.data.toList)).map esc).map List.length).sum ≤ 2 * (ps.map ByteArray.size).sum
 | [] => by simp
 | p :: ps => by
  have := sum_esc ps
  have h1 := esc_len p.data.toList
  rw [size_list] at h1
  simp only [List.map_cons, List.sum_cons]
  omega
theorem pkOf_len (wd : ByteArray) (ps : List ByteArray) : (pkOf wd ps).length ≤ 2 * tot wd ps := by
 have h1 := esc_len wd.data.toList
 have h2 := sum_esc ps
 rw [size_list] at h1
 rw [pkOf, key, glue_len]
 simp only [List.length_map, tot] at h2 ⊢
 omega
theorem fms_join (wd : ByteArray) (ps : List ByteArray) : Lib.join ((fms wd ps ps.length).map (·.data.toList)) [47] = pkOf wd ps := by
 rw [fms, List.take_length, List.map_cons, join_glue, pkOf, key]
 simp only [List.map_map]
 rfl
theorem own_cap {w : World} {base : Nat} {e : TypeId} {v : Value} {n : Nat} {xs : List Value} (h : w.ownsRow base e 1 v n xs) : ∀ A n c, v = .slice A n c → n ≤ c := by
 intro A m c hv
 rcases h.2 with ⟨rfl, hn⟩ | ⟨g, cap, cur, rfl, hb, hg, hc, _⟩
 ·cases hv; exact Nat.le_refl _
 ·cases hv; exact hc
theorem pJoin (wd : ByteArray) (v : Value) (ps : List ByteArray) (w : World) (hL : PLay w) (hT : Txs w w.heap.size v ps) (ht : tot wd ps ≤ 10000000) :
  Calls qP 85 #[.string wd, v] w fun e w' => e = .returned (.string (bs (pkOf wd ps))) ∧ Below w.heap.size w w' := by
 have hbig : ps.length ≤ 10000000 := by unfold tot at ht; omega
 have H1 := qH (fun w hL => pEscape wd (by unfold tot at ht; omega) w hL)
 have H2 := qH (fun k (h : k < ps.length) w hL => pEscape ps[k] (by have := le_sum (List.getElem_mem h); unfold tot at ht; omega) w hL)
 have HK := qH (pkOf_len wd ps)
 have HT := qH ht
 clear ht
 obtain ⟨A, c, rfl, hc⟩ := hT
 have HC := qH hc
 clear hc
 have hmk : ∀ W : World, (Instr.makeSlice 74 (.int .i64 0) (.int .i64 (1 + (ps.length : Int)))).run qP W = .ok (.slice (some ⟨W.heap.size, 0, none⟩) 0 (1 + ps.length)) (W.alloc (.cells (madeCells #[.string .empty] (1 + ps.length)) 9)) := fun W => by
  have := run_make_strs (1 + ps.length) (by omega) W
  simpa using this
 have HO := qH (OwnStrs_made (1 + ps.length) (by omega) w)
 go_enter Tryz.func85, Tryz.ntmps85
 go_wp2_with fail
 clear hmk
 have HO := HO.out
 generalize w.alloc (.cells (madeCells #[.string .empty] (1 + ps.length)) 9) = w1 at *
 refine (H1.out w1 (hL.next HO.2.1)).mono ?_
 rintro e w2 ⟨rfl, b2⟩
 replace HO := HO.after b2
 clear b2
 go_wp2_with (at_builtin; go_must (refine wpList_append_str rfl _ _ rfl w.heap.size (.slice (some ⟨w.heap.size, 0, none⟩) 0 (1 + ps.length)) [] rfl w w2 _ HO rfl (by simp) ?_))
 intro v3 w3 HO3
 have R0 : OwnStrs w.heap.size v3 (fms wd ps 0) w w3 := HO3
 clear HO HO3
 go_wp2
 go_loopw [5, 19] (fun v i wr => ∃ k : Nat, k ≤ ps.length ∧ i = .int .i64 k ∧ OwnStrs w.heap.size v (fms wd ps k) w wr) (fun _ i _ => ps.length - (intOf i).toNat)
 case atStart => exact ⟨0, Nat.zero_le _, rfl, R0⟩
 case round =>
  clear R0
  obtain ⟨k, hk, rfl, hown⟩ := hrel
  by_cases hlt : k < ps.length
  ·obtain ⟨b, off, rfl, hb, hcell⟩ := HC.out k hlt
   have c1 : wr.cell? ⟨b, off + k, none⟩ = some (.string ps[k]) := (hown.2.1.cell (p := ⟨b, off + k, none⟩) hb).trans hcell
   have hi1 : (k : Int) < (ps.length : Int) := by omega
   have HX := qH (H2.out k hlt wr (hL.next hown.2.1))
   have HF := qH (fms_succ wd ps k hlt)
   have HN := qH (fms_len wd ps k hk)
   generalize ps[k] = p at *
   clear hcell
   go_wp2_with fail
   refine HX.out.mono ?_
   rintro e w2 ⟨rfl, b2⟩
   replace hown := hown.after b2
   clear b2 c1
   go_wp2_with (at_builtin; go_must (refine wpList_append_str rfl _ _ rfl w.heap.size u5 (fms wd ps k) rfl w w2 _ hown rfl (by rw [HN.out]; omega) ?_))
   intro v4 w4 HO4
   rw [HF.out] at HO4
   go_wp2
   go_roundw
   case rel => exact ⟨k + 1, by omega, by go_num, HO4⟩
   case measure => simp [intOf]; omega
  ·obtain rfl : k = ps.length := by omega
   have HJ := qH (joinAll u5 (fms wd ps ps.length) _ wr hown.txs (Nat.le_refl _) (own_cap hown.1) (by simp [fms]) (by rw [fms_len _ _ _ hk]; omega) (by rw [fms_join]; have := HK.out; have := HT.out; omega))
   rw [fms_join] at HJ
   have hbel := hown.2.1
   clear hown
   go_wp2_with fail
   refine HJ.out.mono ?_
   rintro e w2 ⟨rfl, b2⟩
   go_wp2
   go_ret
   exact ⟨rfl, step_below hbel b2⟩
end Go.Proofs.YtkejaepmoabikaaGreatDoor.W
namespace Go.Proofs.YtkejaepmoabikaaGreatDoor.W
theorem digitVal_of (d : Nat) (h : d < 10) : Lib.digitVal (UInt8.ofNat (48 + d)) = some d := by
 have e : (UInt8.ofNat (48 + d)).toNat = 48 + d := by rw [UInt8.toNat_ofNat']; omega
 unfold Lib.digitVal
 rw [e, if_pos (by omega)]
 congr 1
 omega
theorem decFrom_append : ∀ (a b : List UInt8) (acc : Nat), Lib.decFrom acc (a ++ b) = (Lib.decFrom acc a).bind fun m => Lib.decFrom m b
 | [], b, acc => rfl
 | x :: r, b, acc => by
  simp only [List.cons_append, Lib.decFrom]
  cases Lib.digitVal x with
  | none => rfl
  | some d => exact decFrom_append r b _
theorem decFrom_dec (n : Nat) : Lib.decFrom 0 (dcm n) = some n := by
 induction n using Nat.strongRecOn with
 | ind n ih =>
  by_cases h : n < 10
  ·rw [dcm_small h]
   simp only [Lib.decFrom, digitVal_of n h]
   simp
  ·rw [dcm_big h, decFrom_append, ih (n / 10) (by omega)]
   simp only [Option.bind_some, Lib.decFrom, digitVal_of (n % 10) (by omega)]
   congr 1
   omega
theorem dcm_digit (n : Nat) : ∀ b ∈ dcm n, 48 ≤ b.toNat ∧ b.toNat ≤ 57 := by
 induction n using Nat.strongRecOn with
 | ind n ih =>
  intro b hb
  by_cases h : n < 10
  ·rw [dcm_small h] at hb
   simp only [List.mem_singleton] at hb
   subst hb
   rw [UInt8.toNat_ofNat']
   omega
  ·rw [dcm_big h] at hb
   rcases List.mem_append.mp hb with hb | hb
   ·exact ih (n / 10) (by omega) b hb
   ·simp only [List.mem_singleton] at hb
    subst hb
    rw [UInt8.toNat_ofNat']
    omega
theorem dcm_len (n : Nat) (h : n ≤ 1099511627776) : (dcm n).length ≤ 13 := dcm_len_le 12 n (by omega)
theorem dcm_cons (n : Nat) : ∃ c r, dcm n = c :: r ∧ 48 ≤ c.toNat ∧ c.toNat ≤ 57 := by
 cases h : dcm n with
 | nil =>
  have := decFrom_dec n
  by_cases h1 : n < 10
  ·rw [dcm_small h1] at h; cases h
  ·rw [dcm_big h1] at h; simp at h
 | cons c r => exact ⟨c, r, rfl, dcm_digit n c (by rw [h]; simp)⟩
theorem dcm_pos (n : Nat) : 1 ≤ (dcm n).length := by
 obtain ⟨c, r, h, _⟩ := dcm_cons n
 rw [h]
 simp
theorem atoi_dec (n : Nat) (h : n ≤ 1099511627776) : Lib.atoiAll (dcm n) = .ok (n : Int) := by
 obtain ⟨c, r, e, h1, h2⟩ := dcm_cons n
 have hl := dcm_len n h
 have hf := decFrom_dec n
 rw [e] at hl hf ⊢
 rw [Lib.atoiAll_plain c r (by omega) (by omega), Lib.signless_short (by omega)]
 have : Lib.decNat (c :: r) = some n := by simp [Lib.decNat, hf]
 rw [this]
 rfl
def wd (k : Int) : List UInt8 :=
 if k = 1 then [99, 104, 97, 110, 110, 101, 108, 45] else if k = 2 then [99, 111, 110, 110, 101, 99, 116, 105, 111, 110, 45] else if k = 3 then [99, 108, 105, 101, 110, 116, 45] else []
def mkE (k n : Int) : Int := if wd k = [] then 1 else if n < 0 ∨ 1099511627776 < n then 3 else 0
def mkS (k n : Int) : List UInt8 := if mkE k n = 0 then wd k ++ dcm n.toNat else []
def numOf (k : Int) (l : List UInt8) : Option Int :=
 match Lib.decFrom 0 (l.drop (wd k).length) with
 | some n => if mkE k n = 0 ∧ mkS k n = l then some (n : Int) else none
 | none => none
theorem mk_ok {k n : Int} (h : mkE k n = 0) : wd k ≠ [] ∧ 0 ≤ n ∧ n ≤ 1099511627776 := by
 unfold mkE at h
 split at h
 ·cases h
 ·rename_i h1
  split at h
  ·cases h
  ·exact ⟨h1, by omega, by omega⟩
theorem numOf_some (k : Int) (l : List UInt8) (n : Int) : numOf k l = some n ↔ mkE k n = 0 ∧ mkS k n = l := by
 constructor
 ·intro h
  unfold numOf at h
  split at h
  ·split at h
   ·rename_i hh
    injection h with h
    subst h
    exact hh
   ·cases h
  ·cases h
 ·rintro ⟨h1, h2⟩
  obtain ⟨hw, h0, hn⟩ := mk_ok h1
  have e : l = wd k ++ dcm n.toNat := by rw [← h2, mkS, if_pos h1]
  have hc : ((n.toNat : Nat) : Int) = n := by omega
  unfold numOf
  rw [e, List.drop_left, decFrom_dec]
  simp only [hc]
  rw [if_pos ⟨h1, by rw [mkS, if_pos h1]⟩]
def nmN (k : Int) (l : List UInt8) : Int := (numOf k l).getD 0
def nmE (k : Int) (l : List UInt8) : Int := if wd k = [] then 1 else if (numOf k l).isSome then 0 else 7
theorem nm_none {k : Int} (h : wd k = []) (l : List UInt8) : nmN k l = 0 ∧ nmE k l = 1 := by
 refine ⟨?_, by rw [nmE, if_pos h]⟩
 unfold nmN
 cases e : numOf k l with
 | none => rfl
 | some n => exact absurd h (mk_ok ((numOf_some k l n).mp e).1).1
theorem nm_yes {k n : Int} {l : List UInt8} (h1 : mkE k n = 0) (h2 : mkS k n = l) : nmN k l = n ∧ nmE k l = 0 := by
 have e := (numOf_some k l n).mpr ⟨h1, h2⟩
 exact ⟨by rw [nmN, e]; rfl, by rw [nmE, if_neg (mk_ok h1).1, e]; rfl⟩
theorem nm_no {k : Int} {l : List UInt8} (hw : wd k ≠ []) (h : ∀ n, mkE k n = 0 → mkS k n ≠ l) : nmN k l = 0 ∧ nmE k l = 7 := by
 have e : numOf k l = none := by
  cases e : numOf k l with
  | none => rfl
  | some n => exact absurd ((numOf_some k l n).mp e).2 (h n ((numOf_some k l n).mp e).1)
 exact ⟨by rw [nmN, e]; rfl, by rw [nmE, if_neg hw, e]; rfl⟩
theorem mk_is {k n : Int} {l : List UInt8} (h1 : mkE k n = 0) (h2 : mkS k n = l) : l = wd k ++ dcm n.toNat ∧ 0 ≤ n ∧ n ≤ 1099511627776 := by
 obtain ⟨_, h0, hn⟩ := mk_ok h1
 exact ⟨by rw [← h2, mkS, if_pos h1], h0, hn⟩
def ltr (c : UInt8) : Bool :=
 decide (97 ≤ c.toNat ∧ c.toNat ≤ 122) || decide (65 ≤ c.toNat ∧ c.toNat ≤ 90) || decide (48 ≤ c.toNat ∧ c.toNat ≤ 57) || decide (c.toNat = 46) || decide (c.toNat = 95) || decide (c.toNat = 45)
def plain (l : List UInt8) : Bool := l.all ltr && decide (1 ≤ l.length) && decide (l.length ≤ 64)
def ck (k : Int) (l : List UInt8) : Int :=
 if k < 0 ∨ 6 < k then 1 else if wd k = [] then (if plain l then 0 else 7) else nmE k l
end Go.Proofs.YtkejaepmoabikaaGreatDoor.W
