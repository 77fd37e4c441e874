/-
  Package pairs: going over a tree (walk, from).
-/
import Derived.Test.YtpjndgcliegloaaTTree
import Derived.Test.YtpjndgcliegloaaTSeq
import Derived.Shelf.Abstract
import Derived.Shelf.RegionOpen
import Derived.WalkKit
import Derived.OwnWalkIn
import Derived.TacticsInMore
import Derived.LoopNIn
import Derived.LoopIn
namespace Go.Proofs.Ytpjndgcliegloaa.W
open Go.RowKit Go.Shelf
theorem wide_fn (f : FuncId) : Fence.wide.fn f = True := rfl
theorem wide_depth : Fence.wide.depth = none := rfl
attribute [local go_sem] Oper.semAt_some wide_fn wide_depth

theorem less_is : ∀ a b : List UInt8, Op.bytesLess a b = decide (Lib.compareBytes a b = -1)
  | [], [] => by simp [Op.bytesLess, Lib.compareBytes]
  | [], _ :: _ => by simp [Op.bytesLess, Lib.compareBytes]
  | _ :: _, [] => by simp [Op.bytesLess, Lib.compareBytes]
  | a :: x, b :: y => by
    unfold Op.bytesLess Lib.compareBytes
    rw [less_is x y]
    by_cases h : a < b
    · simp [h]
    · by_cases h2 : b < a
      · have : a ≠ b := fun e => by rw [e] at h2; exact absurd h2 (UInt8.lt_irrefl _)
        simp [h, h2, this]
      · have := u8_eq h h2
        simp [this]
theorem less_str (a b : ByteArray) : Op.bytesLess a.toList b.toList = decide (kc a b = -1) := by
  rw [ByteArray.toList_eq, ByteArray.toList_eq, less_is]; rfl

/-- a tree none of whose nodes lies in the blocks S -/
def TreeS (S : Nat → Prop) (w : World) : Option Addr → BT → Prop
  | p, .leaf => p = none
  | p, .node l x r => ∃ b pl pr, p = some ⟨b, 0, none⟩ ∧ Blk w b 86 (nodeCells pl x pr (BT.node l x r).ht) ∧ ¬ S b ∧ TreeS S w pl l ∧ TreeS S w pr r
theorem TreeS.keep {S S' : Nat → Prop} {w w' : World} (h : KeepS S w w') (hg : Grows S S' w) : ∀ {p : Option Addr} {t : BT}, TreeS S w p t → TreeS S' w' p t
  | _, .leaf, ht => ht
  | _, .node _ _ _, ⟨b, pl, pr, hp, hb, h1, hl, hr⟩ => ⟨b, pl, pr, hp, h.blk hb h1, hg.not hb.lt h1, hl.keep h hg, hr.keep h hg⟩
theorem IsTree.off {S : Nat → Prop} {w : World} (h : ∀ g cs, Blk w g 86 cs → ¬ S g) : ∀ {p : Option Addr} {t : BT}, IsTree w p t → TreeS S w p t
  | _, .leaf, ht => ht
  | _, .node _ _ _, ⟨b, pl, pr, hp, hb, hl, hr⟩ => ⟨b, pl, pr, hp, hb, h b _ hb, hl.off h, hr.off h⟩
theorem TreeS.off {S S' : Nat → Prop} {w : World} (h : ∀ i, i < w.heap.size → S' i → S i) : ∀ {p : Option Addr} {t : BT}, TreeS S w p t → TreeS S' w p t
  | _, .leaf, ht => ht
  | _, .node _ _ _, ⟨b, pl, pr, hp, hb, h1, hl, hr⟩ => ⟨b, pl, pr, hp, hb, fun h2 => h1 (h b hb.lt h2), hl.off h, hr.off h⟩

/-- what walk answers -/
def WalkPost (go : List KV → Bool) (J Jx : Inv) (pre ys : List KV) (S : Nat → Prop) (W : World) (e : Ending) (W' : World) : Prop :=
  e = .returned (.bool (stopAt go pre ys).isNone) ∧ KeepS S W W' ∧ ∃ S', Grows S S' W ∧ After go J Jx pre ys S' W'
abbrev WalkAt (go : List KV → Bool) (J Jx : Inv) (low : ByteArray) (l n : Nat) (p : Option Addr) (pre ys : List KV) (S : Nat → Prop) (W : World) : Prop :=
  CallsIn Fence.wide n Try.prog 58 #[.pointer p, .string low, .func (.yield l) #[] #[]] W (WalkPost go J Jx pre ys S W)

set_option maxHeartbeats 2000000 in
theorem walkNil (go : List KV → Bool) (J Jx : Inv) (low : ByteArray) (l n : Nat) (pre : List KV) (S : Nat → Prop) (W : World) (hj : J pre S W) : WalkAt go J Jx low l n none pre [] S W := by
  refine callsIn_of_wp Try.func58 rfl trivial ?_ rfl
  simp only [Try.ntmps58, List.size_toArray, List.length_cons, List.length_nil, Nat.reduceAdd, Nat.reduceSub, Array.replicate_succ, Array.replicate_zero, List.push_toArray, List.append_toArray, List.nil_append, List.cons_append]
  gi_wp2
  go_ret
  exact ⟨rfl, KeepS.refl _ _, S, Grows.refl _ _, after_all rfl (by simpa using hj)⟩

set_option maxHeartbeats 2000000 in
/-- the key is less than low: the right side alone -/
theorem walkLow (low yk yv : ByteArray) (l n b ht : Nat) (pl pr : Option Addr) (W : World) (R : Ending → World → Prop) (hk : kc yk low = -1)
    (hb : Blk W b 86 (nodeCells pl (yk, yv) pr ht))
    (H1 : CallsIn Fence.wide (n - 1) Try.prog 58 #[.pointer pr, .string low, .func (.yield l) #[] #[]] W fun e W' => ∃ c, e = .returned (.bool c) ∧ R e W') :
    CallsIn Fence.wide n Try.prog 58 #[.pointer (some ⟨b, 0, none⟩), .string low, .func (.yield l) #[] #[]] W R := by
  have hls : Op.bytesLess yk.toList low.toList = true := by rw [less_str]; simpa using hk
  obtain ⟨c0, c1, c2, c3, _⟩ := node_cells hb
  clear hb
  simp only at *
  refine callsIn_of_wp Try.func58 rfl trivial ?_ rfl
  simp only [Try.ntmps58, List.size_toArray, List.length_cons, List.length_nil, Nat.reduceAdd, Nat.reduceSub, Array.replicate_succ, Array.replicate_zero, List.push_toArray, List.append_toArray, List.nil_append, List.cons_append]
  gi_wp2_with (first
    | (gi_at_call 58; refine H1.mono ?_; clear H1; rintro e W1 ⟨c, rfl, hR⟩))
  exact hR

end Go.Proofs.Ytpjndgcliegloaa.W
