/-
  A tree of pairs in memory; strings.Compare and strings.HasPrefix; tall, join.
-/
import Derived.Test.YtpjndgcliegloaaCBlk
import Derived.Test.YtpjndgcliegloaaTMath
import Derived.Test.YtpjndgcliegloaaShelf
import Derived.OwnWalk
import Derived.Deep.RegionHeld3
import Derived.StillTactics
namespace Go.Proofs.Ytpjndgcliegloaa.W
open Go.RowKit

theorem compare (a b : ByteArray) (w : World) : Calls Try.prog 46 #[.string a, .string b] w fun e w' => e = .returned (.int .i64 (kc a b)) ∧ w' = w := Any.strings_Compare Try.lays106 a b w
theorem hasPrefix (s p : ByteArray) (w : World) : Calls Try.prog 51 #[.string s, .string p] w fun e w' => e = .returned (.bool (pfx p s)) ∧ w' = w := Any.strings_HasPrefix Try.lays99 s p w

inductive BT where
  | leaf
  | node (l : BT) (x : KV) (r : BT)
def BT.list : BT → List KV
  | .leaf => []
  | .node l x r => l.list ++ x :: r.list
def BT.ht : BT → Nat
  | .leaf => 0
  | .node l _ r => 1 + max l.ht r.ht
theorem BT.ht_le (t : BT) : t.ht ≤ t.list.length := by
  induction t with
  | leaf => simp [BT.ht]
  | node l x r h1 h2 => simp only [BT.ht, BT.list, List.length_append, List.length_cons]; omega

/-- the cells of a node -/
def nodeCells (pl : Option Addr) (x : KV) (pr : Option Addr) (n : Nat) : Array Value := #[.pointer pl, .string x.1, .string x.2, .pointer pr, .int .i64 n]
/-- the tree t lies at p -/
def IsTree (w : World) : Option Addr → BT → Prop
  | p, .leaf => p = none
  | p, .node l x r => ∃ b pl pr, p = some ⟨b, 0, none⟩ ∧ Blk w b 86 (nodeCells pl x pr (BT.node l x r).ht) ∧ IsTree w pl l ∧ IsTree w pr r
/-- every node of w lies in w' as it lay -/
def Kept (w w' : World) : Prop := ∀ g cs, Blk w g 86 cs → Blk w' g 86 cs
theorem Kept.refl (w : World) : Kept w w := fun _ _ h => h
theorem Kept.trans {a b c : World} (h : Kept a b) (k : Kept b c) : Kept a c := fun g cs hb => k g cs (h g cs hb)
theorem kept_below {w w' : World} (h : Below w.heap.size w w') : Kept w w' := fun _ _ hb => hb.below h hb.lt
theorem IsTree.kept {w w' : World} (h : Kept w w') : ∀ {p : Option Addr} {t : BT}, IsTree w p t → IsTree w' p t
  | _, .leaf, ht => ht
  | _, .node _ _ _, ⟨b, pl, pr, hp, hb, hl, hr⟩ => ⟨b, pl, pr, hp, h _ _ hb, hl.kept h, hr.kept h⟩
theorem IsTree.below {w w' : World} (h : Below w.heap.size w w') {p : Option Addr} {t : BT} (ht : IsTree w p t) : IsTree w' p t := ht.kept (kept_below h)
theorem IsTree.one {w : World} : ∀ {p : Option Addr} {t t' : BT}, IsTree w p t → IsTree w p t' → t = t'
  | _, .leaf, .leaf, _, _ => rfl
  | _, .leaf, .node _ _ _, h, ⟨_, _, _, hp, _⟩ => by rw [show _ = none from h] at hp; cases hp
  | _, .node _ _ _, .leaf, ⟨_, _, _, hp, _⟩, h => by rw [show _ = none from h] at hp; cases hp
  | _, .node l x r, .node l' x' r', ⟨b, pl, pr, hp, hb, hl, hr⟩, ⟨b', pl', pr', hp', hb', hl', hr'⟩ => by
    rw [hp] at hp'
    cases hp'
    have e : nodeCells pl x pr (BT.node l x r).ht = nodeCells pl' x' pr' (BT.node l' x' r').ht := by
      unfold Blk at hb hb'
      rw [hb] at hb'
      simpa using hb'
    simp [nodeCells] at e
    obtain ⟨rfl, h1, h2, rfl, _⟩ := e
    rw [IsTree.one hl hl', IsTree.one hr hr', show x = x' from Prod.ext h1 h2]

theorem node_cells {w : World} {b : Nat} {pl pr : Option Addr} {x : KV} {n : Nat} (h : Blk w b 86 (nodeCells pl x pr n)) :
    w.cell? ⟨b, 0, none⟩ = some (.pointer pl) ∧ w.cell? ⟨b, 1, none⟩ = some (.string x.1) ∧ w.cell? ⟨b, 2, none⟩ = some (.string x.2) ∧ w.cell? ⟨b, 3, none⟩ = some (.pointer pr) ∧ w.cell? ⟨b, 4, none⟩ = some (.int .i64 n) :=
  ⟨h.cell 0, h.cell 1, h.cell 2, h.cell 3, h.cell 4⟩

theorem tall (t : BT) (p : Option Addr) (w : World) (ht : IsTree w p t) :
    Calls Try.prog 54 #[.pointer p] w fun e w' => e = .returned (.int .i64 t.ht) ∧ w' = w := by
  cases t with
  | leaf =>
    obtain rfl : p = none := ht
    go_enter Try.func54, Try.ntmps54
    go_wp2
    go_ret
    exact ⟨rfl, rfl⟩
  | node l x r =>
    obtain ⟨b, pl, pr, rfl, hb, _, _⟩ := ht
    generalize (BT.node l x r).ht = n at *
    obtain ⟨_, _, _, _, c4⟩ := node_cells hb
    go_enter Try.func54, Try.ntmps54
    go_wp2
    go_ret
    exact ⟨rfl, rfl⟩

set_option maxHeartbeats 1000000 in
theorem join (l r : BT) (x : KV) (pl pr : Option Addr) (w : World) (hl : IsTree w pl l) (hr : IsTree w pr r) (hs : (BT.node l x r).list.length < 4611686018427387904) :
    Calls Try.prog 47 #[.pointer pl, .agg #[.string x.1, .string x.2], .pointer pr] w fun e w' => ∃ b, e = .returned (.pointer (some ⟨b, 0, none⟩)) ∧ IsTree w' (some ⟨b, 0, none⟩) (.node l x r) ∧ Below w.heap.size w w' := by
  have H1 := Lib.hid (fun W (h : Since w W) => tall l pl W (hl.below h.below))
  have H2 := Lib.hid (fun W (h : Since w W) => tall r pr W (hr.below h.below))
  have hh := (BT.node l x r).ht_le
  have hn : (BT.node l x r).ht = 1 + max l.ht r.ht := rfl
  have HI := Lib.hid (show ∀ W b n, n = (BT.node l x r).ht → Blk W b 86 (nodeCells pl x pr n) → Below w.heap.size w W → IsTree W (some ⟨b, 0, none⟩) (.node l x r) from fun W b n e hb h => ⟨b, pl, pr, rfl, e ▸ hb, hl.below h, hr.below h⟩)
  obtain ⟨k, v⟩ := x
  generalize (BT.node l (k, v) r).ht = n at *
  generalize l.ht = a at *
  generalize r.ht = c at *
  simp only at *
  have hw : IntKind.i64.wrap (1 + max (a : Int) (c : Int)) = (n : Int) := by rw [IntWalk.i64_in _ (by omega)]; omega
  clear hn hh hs
  go_enter Try.func47, Try.ntmps47
  go_wp2
  have bk : Blk (w.alloc (.cells #[.string k, .string v] 51)) w.heap.size 51 #[.string k, .string v] := Blk.new _ _ _
  have s1 : Since w (w.alloc (.cells #[.string k, .string v] 51)) := since_of ((Below.refl _ _).alloc (Nat.le_refl _) _)
  generalize w.alloc (.cells #[.string k, .string v] 51) = w1 at *
  have c0 : w1.cell? ⟨w.heap.size, 0, none⟩ = some (.string k) := bk.cell 0
  have c1 : w1.cell? ⟨w.heap.size, 1, none⟩ = some (.string v) := bk.cell 1
  go_region_held3 (fun w' => w'.cell? ⟨w.heap.size, 0, none⟩ = some (.string k) ∧ w'.cell? ⟨w.heap.size, 1, none⟩ = some (.string v))
    (go_keep)
    (first
      | (go_at_call 54; refine (H1.out _ (by exact s1)).mono ?_; clear H1; rintro en wJ ⟨rfl, rfl⟩)
      | (go_at_call 54; refine (H2.out _ (by exact s1)).mono ?_; clear H2; rintro en wJ ⟨rfl, rfl⟩))
  go_wp2
  go_ret
  have hB : Below w.heap.size w ((w1.alloc (.cells #[.pointer pl, .string k, .string v, .pointer pr, .int .i64 n] 86)).drew) := (s1.below.alloc s1.2.2.2.1 _).drew
  exact ⟨_, rfl, HI.out _ _ n rfl (Blk.new w1 _ _) hB, hB⟩
end Go.Proofs.Ytpjndgcliegloaa.W
