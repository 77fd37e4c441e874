import Derived.Lib.SmallJoins
import Derived.WalkMore
import Derived.Laws.StructEq
import Derived.KernelRfl
import Derived.IntWalk
import Derived.Test.YtkejaepmoabikaaGreatDoorRows
import Derived.Lib.LaidTab
import Derived.Deep.AppendLies
import Derived.Laws.Append
import Derived.WalkKit
import Derived.ProofKit
import Derived.OpenShut
import Derived.ShutString
import Derived.ChangeOld
import Derived.Below
import Derived.JoinedCond
import Derived.Deep.Slices
import Derived.Deep.Fields
import Derived.SliceStrings
import Derived.Maps.OwnIn
import Derived.Maps.AppendAt
import Derived.Laws.AppendOwn
import Derived.Test.YtkejaepmoabikaaGreatDoorZ0e
import Derived.Test.YtkejaepmoabikaaGreatDoorZ0a
import Derived.Test.YtkejaepmoabikaaGreatDoorZ0b
import Derived.Test.YtkejaepmoabikaaGreatDoorZ0d
namespace Go.Proofs.YtkejaepmoabikaaGreatDoor.W
open Go.RowKit
open Lib renaming hid → qH
open _root_.Go.Proofs.Tryz renaming prog → qP
set_option maxHeartbeats 4000000
set_option maxRecDepth 100000
theorem stText_num (s : ByteArray) (e : Int) {s1 : ByteArray} {e1 : Int} {n : Nat} (h : stNum s e = ((s1, e1), n)) :
  stText s e = if e1 ≠ 0 then ((s1, e1), .empty) else if 65536 < n then ((s1, 4), .empty) else if s1.size < n then ((s1, 5), .empty) else ((s1.extract n s1.size, 0), s1.extract 0 n) := by
 have hf := stNum_facts s e
 rw [h] at hf
 simp only at hf
 by_cases he : e1 = 0
 ·subst he
  by_cases hn : 65536 < n
  ·simp [stText, stLen, h, hn]
  ·simp [stText, stLen, h, hn]
 ·have hz := hf.2.2 he
  subst hz
  simp [stText, stLen, h, he]
def RTPost (w : World) (r : (ByteArray × Int) × ByteArray) (en : Ending) (w' : World) : Prop :=
 ∃ s', en = .returned (.tuple #[rV s' r.1.2, .string r.2]) ∧ (r.1.2 = 0 → s' = r.1.1) ∧ s'.size ≤ 9223372036854775807 ∧ Below w.heap.size w w'
theorem boxes {w w1 : World} {s : ByteArray} {e : Int} {x : ByteArray} {y : Int} {T : TypeId}
  (hb : Below ((w.alloc (.cells #[.string s, .int .i64 e] T)).alloc (.cells #[.string x, .int .i64 y] T)).heap.size ((w.alloc (.cells #[.string s, .int .i64 e] T)).alloc (.cells #[.string x, .int .i64 y] T)) w1) :
  Blk w1 w.heap.size T #[.string s, .int .i64 e] ∧ Blk w1 (w.heap.size + 1) T #[.string x, .int .i64 y] ∧ w.heap.size + 1 < w1.heap.size ∧ Below w.heap.size w w1 := by
 have h1 : Blk ((w.alloc (.cells #[.string s, .int .i64 e] T)).alloc (.cells #[.string x, .int .i64 y] T)) w.heap.size T #[.string s, .int .i64 e] := (Blk.new w T _).alloc _
 have h2 : Blk ((w.alloc (.cells #[.string s, .int .i64 e] T)).alloc (.cells #[.string x, .int .i64 y] T)) (w.heap.size + 1) T #[.string x, .int .i64 y] := by
  have := Blk.new (w.alloc (.cells #[.string s, .int .i64 e] T)) T #[.string x, .int .i64 y]
  simpa using this
 refine ⟨h1.below hb h1.lt, h2.below hb h2.lt, ?_, ?_⟩
 ·have := hb.size
  simp at this
  omega
 ·have h3 : Below w.heap.size w ((w.alloc (.cells #[.string s, .int .i64 e] T)).alloc (.cells #[.string x, .int .i64 y] T)) := by go_grown
  exact h3.trans (hb.mono (by simp; omega))
theorem cell0 {w : World} {g : Nat} {T : TypeId} {a b : Value} (h : Blk w g T #[a, b]) : w.cell? ⟨g, 0, none⟩ = some a := by
 have := h.cell 0
 simpa using this
theorem cell1 {w : World} {g : Nat} {T : TypeId} {a b : Value} (h : Blk w g T #[a, b]) : w.cell? ⟨g, 1, none⟩ = some b := by
 have := h.cell 1
 simpa using this
theorem refText (s : ByteArray) (e : Int) (w : World) (hm : s.size ≤ 9223372036854775807) :
  Calls qP 40 #[rV s e] w (RTPost w (stText s e)) := by
 have hf := stNum_facts s e
 obtain ⟨⟨⟨s1, e1⟩, n⟩, hd⟩ : ∃ r, stNum s e = r := ⟨_, rfl⟩
 have HN := qH (fun W => hd ▸ refNum s e W hm)
 have HT := qH (stText_num s e hd)
 rw [hd] at hf
 clear hd
 simp only at hf
 unfold rV
 go_enter Tryz.func40, Tryz.ntmps40
 go_wp2_with fail
 refine (HN.out _).mono ?_
 rintro en w1 ⟨rfl, hb⟩
 unfold rNumV rV
 obtain ⟨k1, k2, hz, hbel⟩ := boxes hb
 have c0 := cell0 k1
 have d0 := cell0 k2
 have d1 := cell1 k2
 have f0 := k2.frozen 0
 have f1 := k2.frozen 1
 have hz0 : w.heap.size < w1.heap.size := by omega
 clear hb
 simp only
 by_cases he : e1 = 0
 ·subst he
  have HT1 := qH (HT.out.trans (if_neg (by simp)))
  clear HT
  by_cases hn : 65536 < n
  ·have HT2 := qH (HT1.out.trans (if_pos hn))
   clear HT1
   go_wp2
   have K : Blk _ _ _ #[.string s, .int .i64 4] := ((k2.set_ 0 (.string s)).set_ 1 (.int .i64 4)).alloc (.cells #[.string s1, .int .i64 0] 93)
   refine bodyPost_ret (v := .tuple #[.agg #[.string s, .int .i64 4], .string ⟨#[]⟩]) (by simp [results, Tryz.results40, go_sem, cell0 K, cell1 K]) rfl ?_
   rw [HT2.out]
   refine ⟨_, rfl, fun h => by simp at h, by omega, ?_⟩
   go_grown
  ·have HT2 := qH (HT1.out.trans (if_neg hn))
   clear HT1
   by_cases hs : s1.size < n
   ·have HT3 := qH (HT2.out.trans (if_pos hs))
    clear HT2
    go_wp2
    have K : Blk _ _ _ #[.string s, .int .i64 5] := ((k2.set_ 0 (.string s)).set_ 1 (.int .i64 5)).alloc (.cells #[.string s1, .int .i64 0] 93)
    refine bodyPost_ret (v := .tuple #[.agg #[.string s, .int .i64 5], .string ⟨#[]⟩]) (by simp [results, Tryz.results40, go_sem, cell0 K, cell1 K]) rfl ?_
    rw [HT3.out]
    refine ⟨_, rfl, fun h => by simp at h, by omega, ?_⟩
    go_grown
   ·have HT3 := qH (HT2.out.trans (if_neg hs))
    clear HT2
    have hs' : (n : Int) ≤ (s1.size : Int) := by omega
    have hx : (s1.extract n s1.size).size ≤ 9223372036854775807 := by rw [← size_list, drop_all, List.length_drop, size_list]; omega
    go_wp2
    go_region
    all_goals go_wp2
    all_goals have K : Blk _ _ _ #[.string (s1.extract n s1.size), .int .i64 0] := ((k2.set_ 0 (.string (s1.extract n s1.size))).set_ 1 (.int .i64 0)).alloc (.cells #[.string s1, .int .i64 0] 93)
    all_goals refine bodyPost_ret (v := .tuple #[.agg #[.string (s1.extract n s1.size), .int .i64 0], .string (s1.extract 0 n)]) (by simp [results, Tryz.results40, go_sem, cell0 K, cell1 K]) rfl ?_
    all_goals rw [HT3.out]
    all_goals refine ⟨_, rfl, fun _ => rfl, hx, ?_⟩
    all_goals go_grown
 ·have hne : (e1 != 0) = true := by rw [bne_iff_ne]; exact he
  have HT1 := qH (HT.out.trans (if_pos he))
  clear HT
  go_wp2
  have K : Blk _ _ _ #[.string s1, .int .i64 e1] := ((k2.set_ 0 (.string s1)).set_ 1 (.int .i64 e1)).alloc (.cells #[.string s1, .int .i64 e1] 93)
  refine bodyPost_ret (v := .tuple #[.agg #[.string s1, .int .i64 e1], .string ⟨#[]⟩]) (by simp [results, Tryz.results40, go_sem, cell0 K, cell1 K]) rfl ?_
  rw [HT1.out]
  refine ⟨_, rfl, fun h => absurd h he, by omega, ?_⟩
  go_grown
theorem refDone (s : ByteArray) (e : Int) (w : World) :
  Calls qP 42 #[rV s e] w fun en w' => en = .returned (.int .i64 (stDone s e)) ∧ Below w.heap.size w w' := by
 unfold rV
 by_cases he : e = 0
 ·subst he
  by_cases hs : s.size = 0
  ·have hE := empty_of s hs
   have HD := qH (show stDone s 0 = 0 by simp [stDone, hs])
   go_enter Tryz.func42, Tryz.ntmps42
   go_wp2
   go_ret
   exact ⟨by rw [HD.out]; rfl, by go_grown⟩
  ·have hE := nonempty_of s (by omega)
   have HD := qH (show stDone s 0 = 6 by simp [stDone, hs])
   go_enter Tryz.func42, Tryz.ntmps42
   go_wp2
   go_ret
   exact ⟨by rw [HD.out]; rfl, by go_grown⟩
 ·have hb : (e == 0) = false := beq_eq_false_iff_ne.2 he
  have HD := qH (show stDone s e = e by simp [stDone, he])
  go_enter Tryz.func42, Tryz.ntmps42
  go_wp2
  go_ret
  exact ⟨by rw [HD.out]; rfl, by go_grown⟩
end Go.Proofs.YtkejaepmoabikaaGreatDoor.W
namespace Go.Proofs.YtkejaepmoabikaaGreatDoor.W
open Go.RowKit Go.Shelf
open _root_.Go.Proofs.Tryz renaming prog → qP
structure Lay (w : World) : Prop where
 tab : Pow w
 syn : ∃ t p, w.cell? ⟨3, 0, none⟩ = some (.iface t p)
 rng : ∃ t p, w.cell? ⟨4, 0, none⟩ = some (.iface t p)
theorem Lay.next {w w' : World} (h : Lay w) (hb : Below w.heap.size w w') : Lay w' := by
 obtain ⟨t1, p1, h1⟩ := h.syn
 obtain ⟨t2, p2, h2⟩ := h.rng
 exact ⟨h.tab.next hb, ⟨t1, p1, cell_next h1 hb⟩, ⟨t2, p2, cell_next h2 hb⟩⟩
theorem itoa (n : Nat) (h : n ≤ 1099511627776) (w : World) (hL : Lay w) :
  Calls qP 113 #[.int .i64 n] w fun e w' => e = .returned (.string (bs (dcm n))) ∧ Below w.heap.size w w' := itoaP n (by omega) w hL.tab
theorem atoi_ok (s : ByteArray) (hs : s.size ≤ 1000000) (v : Int) (h : Lib.atoiAll s.data.toList = .ok v) (w : World) :
  Calls qP 155 #[.string s] w fun e w' => e = .returned (.tuple #[.int .i64 v, .nilIface]) ∧ Below w.heap.size w w' := by
 refine (Any.strconv_Atoi_ok Tryz.laysC172 s (by omega) v h w).mono ?_
 rintro e w' ⟨rfl, rfl | ⟨t, rfl⟩⟩
 ·exact ⟨rfl, Below.refl _ _⟩
 ·exact ⟨rfl, Lib.bytesWorld_below _ _ _⟩
theorem atoi_bad (s : ByteArray) (hs : s.size ≤ 1000000) (h : ∀ v, Lib.atoiAll s.data.toList ≠ .ok v) (w : World) (hL : Lay w) :
  Calls qP 155 #[.string s] w fun e w' => (∃ n t p, e = .returned (.tuple #[.int .i64 n, .iface t p])) ∧ Below w.heap.size w w' := by
 cases hr : Lib.atoiAll s.data.toList with
 | ok v => exact absurd hr (h v)
 | range =>
  obtain ⟨t, p, hv⟩ := hL.rng
  refine (Any.strconv_Atoi_range Tryz.laysC172 s (by omega) hr (.iface t p) w hv (.inr ⟨_, _, rfl⟩)).mono ?_
  rintro e w' ⟨N, rfl, -, -, hb⟩
  exact ⟨⟨_, _, _, rfl⟩, hb⟩
 | _ =>
  obtain ⟨t, p, hv⟩ := hL.syn
  refine (Any.strconv_Atoi_syntax Tryz.laysC172 s (by omega) hr (.iface t p) w hv (.inr ⟨_, _, rfl⟩)).mono ?_
  rintro e w' ⟨N, rfl, -, -, hb⟩
  exact ⟨⟨_, _, _, rfl⟩, hb⟩
theorem cutPrefix (s p : ByteArray) (w : World) :
  Calls qP 154 #[.string s, .string p] w fun e w' => e = .returned (.tuple #[.string (bs (Lib.trimPrefix s.data.toList p.data.toList)), .bool (Lib.hasPrefix s.data.toList p.data.toList)]) ∧ w = w' := by
 refine (Any.strings_CutPrefix Tryz.lays103 s p w).mono ?_
 rintro e w' ⟨rfl, rfl⟩
 exact ⟨rfl, rfl⟩
end Go.Proofs.YtkejaepmoabikaaGreatDoor.W
namespace Go.Proofs.YtkejaepmoabikaaGreatDoor.W
open Go.RowKit
open Lib renaming hid → qH
open _root_.Go.Proofs.Tryz renaming prog → qP
set_option maxHeartbeats 4000000
set_option maxRecDepth 100000
theorem wd_cases (k : Int) : k = 1 ∨ k = 2 ∨ k = 3 ∨ (wd k = [] ∧ k ≠ 1 ∧ k ≠ 2 ∧ k ≠ 3) := by
 by_cases h1 : k = 1
 ·exact .inl h1
 ·by_cases h2 : k = 2
  ·exact .inr (.inl h2)
  ·by_cases h3 : k = 3
   ·exact .inr (.inr (.inl h3))
   ·exact .inr (.inr (.inr ⟨by simp [wd, h1, h2, h3], h1, h2, h3⟩))
theorem wd_len (k : Int) : (wd k).length ≤ 11 := by
 rcases wd_cases k with rfl | rfl | rfl | ⟨h, _⟩
 ·decide
 ·decide
 ·decide
 ·rw [h]; decide
def preV (k : Int) : Value := .tuple #[.string (bs (wd k)), .bool (decide (wd k ≠ []))]
theorem preV_no {k : Int} (h : wd k = []) : preV k = .tuple #[.string (bs []), .bool false] := by simp [preV, h]
theorem preV_yes {k : Int} (h : wd k ≠ []) : preV k = .tuple #[.string (bs (wd k)), .bool true] := by simp [preV, h]
theorem pref (k : Int) (w : World) : Calls qP 112 #[.int .i64 k] w fun e w' => e = .returned (preV k) ∧ w = w' := by
 rcases wd_cases k with rfl | rfl | rfl | ⟨h, h1, h2, h3⟩
 ·go_enter Tryz.func112, Tryz.ntmps112
  go_wp2
  go_ret2
  exact ⟨rfl, rfl⟩
 ·go_enter Tryz.func112, Tryz.ntmps112
  go_wp2
  go_ret2
  exact ⟨rfl, rfl⟩
 ·go_enter Tryz.func112, Tryz.ntmps112
  go_wp2
  go_ret2
  exact ⟨rfl, rfl⟩
 ·have HE := qH (preV_no h)
  clear h
  go_enter Tryz.func112, Tryz.ntmps112
  go_wp2
  go_ret2
  exact ⟨by rw [HE.out]; rfl, rfl⟩
theorem pref_no {k : Int} (h : wd k = []) (w : World) : Calls qP 112 #[.int .i64 k] w fun e w' => e = .returned (.tuple #[.string (bs []), .bool false]) ∧ w = w' := by
 have := pref k w
 rw [preV_no h] at this
 exact this
theorem pref_yes {k : Int} (h : wd k ≠ []) (w : World) : Calls qP 112 #[.int .i64 k] w fun e w' => e = .returned (.tuple #[.string (bs (wd k)), .bool true]) ∧ w = w' := by
 have := pref k w
 rw [preV_yes h] at this
 exact this
def mkV (k n : Int) : Value := .tuple #[.string (bs (mkS k n)), .int .i64 (mkE k n)]
theorem mkV_arg {k : Int} (h : wd k = []) (n : Int) : mkV k n = .tuple #[.string (bs []), .int .i64 1] := by simp [mkV, mkS, mkE, h]
theorem mkV_range {k n : Int} (h : wd k ≠ []) (hn : n < 0 ∨ 1099511627776 < n) : mkV k n = .tuple #[.string (bs []), .int .i64 3] := by simp [mkV, mkS, mkE, h, hn]
theorem mkV_ok {k n : Int} (h : wd k ≠ []) (hn : ¬ (n < 0 ∨ 1099511627776 < n)) : mkV k n = .tuple #[.string (bs (wd k ++ dcm n.toNat)), .int .i64 0] := by
 simp [mkV, mkS, mkE, h, hn]
theorem make (k n : Int) (w : World) (hL : Lay w) : Calls qP 64 #[.int .i64 k, .int .i64 n] w fun e w' => e = .returned (mkV k n) ∧ Below w.heap.size w w' := by
 by_cases h : wd k = []
 ·have HE := qH (mkV_arg h n)
  have HP := qH (pref_no h)
  clear h
  go_enter Tryz.func64, Tryz.ntmps64
  go_wp2_with fail
  refine (HP.out w).mono ?_
  rintro e w1 ⟨rfl, rfl⟩
  go_wp2
  go_ret2
  exact ⟨by rw [HE.out]; rfl, Below.refl _ _⟩
 ·have HP := qH (pref_yes h)
  have hw := wd_len k
  by_cases h0 : n < 0
  ·have HE := qH (mkV_range h (.inl h0))
   clear h
   go_enter Tryz.func64, Tryz.ntmps64
   go_wp2_with fail
   refine (HP.out w).mono ?_
   rintro e w1 ⟨rfl, rfl⟩
   go_wp2
   go_ret2
   exact ⟨by rw [HE.out]; rfl, Below.refl _ _⟩
  ·by_cases h1 : 1099511627776 < n
   ·have HE := qH (mkV_range h (.inr h1))
    clear h
    go_enter Tryz.func64, Tryz.ntmps64
    go_wp2_with fail
    refine (HP.out w).mono ?_
    rintro e w1 ⟨rfl, rfl⟩
    go_wp2
    go_ret2
    exact ⟨by rw [HE.out]; rfl, Below.refl _ _⟩
   ·have HE := qH (mkV_ok (n := n) h (by omega))
    clear h
    obtain ⟨m, rfl⟩ : ∃ m : Nat, n = m := ⟨n.toNat, by omega⟩
    have hm : m ≤ 1099511627776 := by omega
    go_enter Tryz.func64, Tryz.ntmps64
    go_wp2_with fail
    refine (HP.out w).mono ?_
    rintro e w1 ⟨rfl, rfl⟩
    go_wp2_with fail
    refine (itoa m hm w hL).mono ?_
    rintro e w1 ⟨rfl, b1⟩
    have hadd := run_add w1 (wd k) (dcm m) (by have := dcm_len m hm; omega)
    go_wp2
    go_ret2
    exact ⟨by rw [HE.out]; rfl, b1⟩
def nmV (k : Int) (l : List UInt8) : Value := .tuple #[.int .i64 (nmN k l), .int .i64 (nmE k l)]
theorem nmV_arg {k : Int} (h : wd k = []) (l : List UInt8) : nmV k l = .tuple #[.int .i64 0, .int .i64 1] := by
 obtain ⟨h1, h2⟩ := nm_none h l
 rw [nmV, h1, h2]
theorem nmV_no {k : Int} {l : List UInt8} (hw : wd k ≠ []) (h : ∀ n, mkE k n = 0 → mkS k n ≠ l) : nmV k l = .tuple #[.int .i64 0, .int .i64 7] := by
 obtain ⟨h1, h2⟩ := nm_no hw h
 rw [nmV, h1, h2]
theorem nmV_yes {k n : Int} {l : List UInt8} (h1 : mkE k n = 0) (h2 : mkS k n = l) : nmV k l = .tuple #[.int .i64 n, .int .i64 0] := by
 obtain ⟨h1, h2⟩ := nm_yes h1 h2
 rw [nmV, h1, h2]
theorem cut_no (s : ByteArray) (k : Int) (h : ∀ d, s.data.toList ≠ wd k ++ d) (w : World) :
  Calls qP 154 #[.string s, .string (bs (wd k))] w fun e w' => (∃ t, e = .returned (.tuple #[.string t, .bool false])) ∧ w = w' := by
 refine (cutPrefix s (bs (wd k)) w).mono ?_
 rintro e w' ⟨rfl, rfl⟩
 have : Lib.hasPrefix s.data.toList (wd k) = false := by
  unfold Lib.hasPrefix
  cases hp : (wd k).isPrefixOf s.data.toList with
  | false => rfl
  | true =>
   obtain ⟨d, hd⟩ := List.isPrefixOf_iff_prefix.mp hp
   exact absurd hd.symm (h d)
 rw [bs_data, this]
 exact ⟨⟨_, rfl⟩, rfl⟩
theorem cut_yes (s : ByteArray) (k : Int) (d : List UInt8) (h : s.data.toList = wd k ++ d) (w : World) :
  Calls qP 154 #[.string s, .string (bs (wd k))] w fun e w' => e = .returned (.tuple #[.string (bs d), .bool true]) ∧ w = w' := by
 refine (cutPrefix s (bs (wd k)) w).mono ?_
 rintro e w' ⟨rfl, rfl⟩
 have hp : Lib.hasPrefix s.data.toList (wd k) = true := by
  unfold Lib.hasPrefix
  exact List.isPrefixOf_iff_prefix.mpr ⟨d, h.symm⟩
 have ht : Lib.trimPrefix s.data.toList (wd k) = d := by
  unfold Lib.trimPrefix
  rw [if_pos hp, h, List.drop_left]
 rw [bs_data, hp, ht]
 exact ⟨rfl, rfl⟩
theorem name_digits {k n : Int} {d : List UInt8} (h1 : mkE k n = 0) (h2 : mkS k n = wd k ++ d) : Lib.atoiAll d = .ok n := by
 obtain ⟨e, h0, hn⟩ := mk_is h1 h2
 have : d = dcm n.toNat := List.append_cancel_left e
 rw [this, atoi_dec _ (by omega)]
 congr 1
 omega
theorem no_none {k : Int} {l : List UInt8} (h : ∀ d, l ≠ wd k ++ d) : ∀ n, mkE k n = 0 → mkS k n ≠ l := by
 intro n h1 h2
 exact h _ (mk_is h1 h2).1
theorem no_bad {k : Int} {d : List UInt8} (h : ∀ v, Lib.atoiAll d ≠ .ok v) : ∀ n, mkE k n = 0 → mkS k n ≠ wd k ++ d := by
 intro n h1 h2
 exact h _ (name_digits h1 h2)
theorem no_other {k v : Int} {d : List UInt8} (hv : Lib.atoiAll d = .ok v) (h : ¬ (mkE k v = 0 ∧ mkS k v = wd k ++ d)) : ∀ n, mkE k n = 0 → mkS k n ≠ wd k ++ d := by
 intro n h1 h2
 have e := name_digits h1 h2
 rw [hv] at e
 injection e with e
 subst e
 exact h ⟨h1, h2⟩
theorem make_this (k v : Int) (q : ByteArray) (z : Int) (h1 : bs (mkS k v) = q) (h2 : mkE k v = z) (w : World) (hL : Lay w) :
  Calls qP 64 #[.int .i64 k, .int .i64 v] w fun e w' => e = .returned (.tuple #[.string q, .int .i64 z]) ∧ Below w.heap.size w w' := by
 subst h1 h2
 exact make k v w hL
theorem number (k : Int) (s : ByteArray) (w : World) (hL : Lay w) (hs : s.size ≤ 1000000) :
  Calls qP 109 #[.int .i64 k, .string s] w fun e w' => e = .returned (nmV k s.data.toList) ∧ Below w.heap.size w w' := by
 by_cases h : wd k = []
 ·have HE := qH (nmV_arg h s.data.toList)
  have HP := qH (pref_no h)
  clear h
  go_enter Tryz.func109, Tryz.ntmps109
  go_wp2_with fail
  refine (HP.out w).mono ?_
  rintro e w1 ⟨rfl, rfl⟩
  go_wp2
  go_ret2
  exact ⟨by rw [HE.out]; rfl, Below.refl _ _⟩
 ·have HP := qH (pref_yes h)
  have hw := wd_len k
  by_cases hd : ∃ d, s.data.toList = wd k ++ d
  ·obtain ⟨d, hd⟩ := hd
   have hdl : d.length ≤ 1000000 := by
    have := congrArg List.length hd
    rw [List.length_append, size_list] at this
    omega
   have HC := qH (cut_yes s k d hd)
   by_cases ha : ∃ v, Lib.atoiAll d = .ok v
   ·obtain ⟨v, hv⟩ := ha
    have HA := qH (atoi_ok (bs d) (by rw [bs_size]; exact hdl) v (by rw [bs_data]; exact hv))
    by_cases hm : mkE k v = 0 ∧ mkS k v = wd k ++ d
    ·have HE := qH (nmV_yes hm.1 (hm.2.trans hd.symm))
     have HM := qH (make_this k v s 0 (by rw [hm.2, ← hd, bs_of]) hm.1)
     clear h hd hv hm
     go_enter Tryz.func109, Tryz.ntmps109
     go_wp2_with fail
     refine (HP.out w).mono ?_
     rintro e w1 ⟨rfl, rfl⟩
     go_wp2_with fail
     refine (HC.out w).mono ?_
     rintro e w1 ⟨rfl, rfl⟩
     go_wp2_with fail
     refine (HA.out w).mono ?_
     rintro e w1 ⟨rfl, b1⟩
     go_wp2_with fail
     refine (HM.out w1 (hL.next b1)).mono ?_
     rintro e w2 ⟨rfl, b2⟩
     replace b2 := step_below b1 b2
     go_wp2
     go_ret2
     exact ⟨by rw [HE.out]; rfl, b2⟩
    ·have HE := qH (nmV_no (l := s.data.toList) h (by rw [hd]; exact no_other hv hm))
     by_cases hz : mkE k v = 0
     ·have hne : bs (mkS k v) ≠ s := by
       intro e
       refine hm ⟨hz, ?_⟩
       rw [← hd, ← e, bs_data]
      have HM := qH (make_this k v (bs (mkS k v)) 0 rfl hz)
      generalize bs (mkS k v) = q at *
      replace hne := str_ne hne
      clear h hd hv hm hz
      go_enter Tryz.func109, Tryz.ntmps109
      go_wp2_with fail
      refine (HP.out w).mono ?_
      rintro e w1 ⟨rfl, rfl⟩
      go_wp2_with fail
      refine (HC.out w).mono ?_
      rintro e w1 ⟨rfl, rfl⟩
      go_wp2_with fail
      refine (HA.out w).mono ?_
      rintro e w1 ⟨rfl, b1⟩
      go_wp2_with fail
      refine (HM.out w1 (hL.next b1)).mono ?_
      rintro e w2 ⟨rfl, b2⟩
      replace b2 := step_below b1 b2
      go_wp2
      go_ret2
      exact ⟨by rw [HE.out]; rfl, b2⟩
     ·have HM := qH (make_this k v (bs (mkS k v)) (mkE k v) rfl rfl)
      generalize bs (mkS k v) = q at *
      generalize mkE k v = z at *
      clear h hd hv hm
      go_enter Tryz.func109, Tryz.ntmps109
      go_wp2_with fail
      refine (HP.out w).mono ?_
      rintro e w1 ⟨rfl, rfl⟩
      go_wp2_with fail
      refine (HC.out w).mono ?_
      rintro e w1 ⟨rfl, rfl⟩
      go_wp2_with fail
      refine (HA.out w).mono ?_
      rintro e w1 ⟨rfl, b1⟩
      go_wp2_with fail
      refine (HM.out w1 (hL.next b1)).mono ?_
      rintro e w2 ⟨rfl, b2⟩
      replace b2 := step_below b1 b2
      go_wp2
      go_ret2
      exact ⟨by rw [HE.out]; rfl, b2⟩
   ·have ha' : ∀ v, Lib.atoiAll d ≠ .ok v := fun v e => ha ⟨v, e⟩
    have HA := qH (atoi_bad (bs d) (by rw [bs_size]; exact hdl) (by rw [bs_data]; exact ha'))
    have HE := qH (nmV_no (l := s.data.toList) h (by rw [hd]; exact no_bad ha'))
    clear h hd ha ha'
    go_enter Tryz.func109, Tryz.ntmps109
    go_wp2_with fail
    refine (HP.out w).mono ?_
    rintro e w1 ⟨rfl, rfl⟩
    go_wp2_with fail
    refine (HC.out w).mono ?_
    rintro e w1 ⟨rfl, rfl⟩
    go_wp2_with fail
    refine (HA.out w hL).mono ?_
    rintro e w1 ⟨⟨n, t, p, rfl⟩, b1⟩
    go_wp2
    go_ret2
    exact ⟨by rw [HE.out]; rfl, b1⟩
  ·have hd' : ∀ d, s.data.toList ≠ wd k ++ d := fun d e => hd ⟨d, e⟩
   have HC := qH (cut_no s k hd')
   have HE := qH (nmV_no h (no_none hd'))
   clear h hd hd'
   go_enter Tryz.func109, Tryz.ntmps109
   go_wp2_with fail
   refine (HP.out w).mono ?_
   rintro e w1 ⟨rfl, rfl⟩
   go_wp2_with fail
   refine (HC.out w).mono ?_
   rintro e w1 ⟨⟨t, rfl⟩, rfl⟩
   go_wp2
   go_ret2
   exact ⟨by rw [HE.out]; rfl, Below.refl _ _⟩
theorem all_step {s : ByteArray} {k : Nat} (h : (s.data.toList.take k).all ltr = true) (hk : k < s.size) (hl : ltr s[k] = true) : (s.data.toList.take (k + 1)).all ltr = true := by
 rw [take_snoc s k hk, List.all_append, h]
 simp [hl]
theorem all_fail {s : ByteArray} {k : Nat} (hk : k < s.size) (hl : ltr s[k] = false) : s.data.toList.all ltr = false := by
 rw [List.all_eq_false]
 refine ⟨s[k], ?_, by rw [hl]; decide⟩
 exact List.mem_of_getElem (i := k) (h := by rw [size_list]; exact hk) rfl
theorem all_done {s : ByteArray} (h : (s.data.toList.take s.size).all ltr = true) : s.data.toList.all ltr = true := by
 rw [List.take_of_length_le (by rw [size_list]; exact Nat.le_refl _)] at h
 exact h
theorem letters (s : ByteArray) (w : World) (hs : s.size ≤ 1000000) :
  Calls qP 110 #[.string s] w fun e w' => e = .returned (.bool (s.data.toList.all ltr)) ∧ w = w' := by
 go_enter Tryz.func110, Tryz.ntmps110
 go_wp2
 go_step3
 go_wp2
 go_step3
 go_wp2
 go_loop [3] (fun i => ∃ k : Nat, k ≤ s.size ∧ i = .int .i64 k ∧ (s.data.toList.take k).all ltr = true) (fun i => s.size - (intOf i).toNat)
 case atStart => exact ⟨0, Nat.zero_le _, rfl, rfl⟩
 case round =>
  obtain ⟨k, hk, rfl, hall⟩ := hrel
  by_cases hlt : k < s.size
  ·have hb := s[k].toNat_lt
   have HS := qH (all_step hall hlt)
   have HF := qH (all_fail hlt)
   have hks : Hid (((k : Int) == (s.size : Int)) = false) := qH (by rw [beq_eq_false_iff_ne]; omega)
   clear hall
   go_wp2
   all_goals first
    | (have hl : ltr s[k] = true := by
         simp only [ltr, Bool.or_eq_true, decide_eq_true_eq]
         simp only [beq_iff_eq, beq_eq_false_iff_ne] at *
         omega
       go_round
       case rel => exact ⟨k + 1, by omega, by go_num, HS.out hl⟩
       case measure => simp [intOf]; omega)
    | (have hl : ltr s[k] = false := by
         simp only [ltr, Bool.or_eq_false_iff, decide_eq_false_iff_not]
         simp only [beq_eq_false_iff_ne] at *
         omega
       go_ret
       refine ⟨?_, rfl⟩
       show Ending.returned (Value.bool ((k : Int) == (s.size : Int))) = _
       rw [hks.out, HF.out hl])
  ·obtain rfl : k = s.size := by omega
   have HE := qH (all_done hall)
   clear hall
   go_wp2
   go_ret
   exact ⟨by rw [HE.out]; rfl, rfl⟩
theorem ck_num {k : Int} (h : wd k ≠ []) (l : List UInt8) : ck k l = nmE k l := by
 unfold ck
 rw [if_neg ?_, if_neg h]
 rcases wd_cases k with rfl | rfl | rfl | ⟨e, _⟩
 ·decide
 ·decide
 ·decide
 ·exact absurd e h
theorem plain_no {s : ByteArray} (h : s.size < 1 ∨ 64 < s.size) : plain s.data.toList = false := by
 unfold plain
 rw [size_list]
 simp only [Bool.and_eq_false_iff, decide_eq_false_iff_not]
 omega
theorem plain_all {s : ByteArray} (h1 : 1 ≤ s.size) (h2 : s.size ≤ 64) : plain s.data.toList = s.data.toList.all ltr := by
 unfold plain
 rw [size_list]
 simp [h1, h2]
theorem ck_plain {k : Int} (h : k = 0 ∨ k = 4 ∨ k = 5 ∨ k = 6) (l : List UInt8) : ck k l = if plain l then 0 else 7 := by
 rcases h with rfl | rfl | rfl | rfl <;> rfl
theorem ck_arg {k : Int} (h : k < 0 ∨ 6 < k) (l : List UInt8) : ck k l = 1 := by rw [ck, if_pos h]
theorem number_this (k : Int) (s : ByteArray) (hs : s.size ≤ 1000000) (a b : Int) (h1 : nmN k s.data.toList = a) (h2 : nmE k s.data.toList = b) (w : World) (hL : Lay w) :
  Calls qP 109 #[.int .i64 k, .string s] w fun e w' => e = .returned (.tuple #[.int .i64 a, .int .i64 b]) ∧ Below w.heap.size w w' := by
 subst h1 h2
 exact number k s w hL hs
theorem letters_this (s : ByteArray) (hs : s.size ≤ 1000000) (b : Bool) (h : s.data.toList.all ltr = b) (w : World) :
  Calls qP 110 #[.string s] w fun e w' => e = .returned (.bool b) ∧ w = w' := by
 subst h
 exact letters s w hs
theorem check (k : Int) (s : ByteArray) (w : World) (hL : Lay w) (hs : s.size ≤ 1000000) :
  Calls qP 61 #[.int .i64 k, .string s] w fun e w' => e = .returned (.int .i64 (ck k s.data.toList)) ∧ Below w.heap.size w w' := by
 by_cases h : wd k = []
 ·by_cases hk : k = 0 ∨ k = 4 ∨ k = 5 ∨ k = 6
  ·have HE := qH (ck_plain hk s.data.toList)
   clear h
   by_cases h1 : s.size < 1
   ·have HP := qH (plain_no (.inl h1))
    rcases hk with rfl | rfl | rfl | rfl
    all_goals
     go_enter Tryz.func61, Tryz.ntmps61
     go_wp2
     go_ret
     exact ⟨by rw [HE.out, HP.out]; rfl, Below.refl _ _⟩
   ·by_cases h2 : 64 < s.size
    ·have HP := qH (plain_no (.inr h2))
     rcases hk with rfl | rfl | rfl | rfl
     all_goals
      go_enter Tryz.func61, Tryz.ntmps61
      go_wp2
      go_ret
      exact ⟨by rw [HE.out, HP.out]; rfl, Below.refl _ _⟩
    ·have HP := qH (plain_all (s := s) (by omega) (by omega))
     cases ha : s.data.toList.all ltr with
     | false =>
      have HA := qH (letters_this s hs false ha)
      have HZ := qH ha
      clear ha
      rcases hk with rfl | rfl | rfl | rfl
      all_goals
       go_enter Tryz.func61, Tryz.ntmps61
       go_wp2_with fail
       refine (HA.out w).mono ?_
       rintro e w1 ⟨rfl, rfl⟩
       go_wp2
       go_ret
       exact ⟨by rw [HE.out, HP.out, HZ.out]; rfl, Below.refl _ _⟩
     | true =>
      have HA := qH (letters_this s hs true ha)
      have HZ := qH ha
      clear ha
      rcases hk with rfl | rfl | rfl | rfl
      all_goals
       go_enter Tryz.func61, Tryz.ntmps61
       go_wp2_with fail
       refine (HA.out w).mono ?_
       rintro e w1 ⟨rfl, rfl⟩
       go_wp2
       go_ret
       exact ⟨by rw [HE.out, HP.out, HZ.out]; rfl, Below.refl _ _⟩
  ·rcases wd_cases k with rfl | rfl | rfl | ⟨-, h1, h2, h3⟩
   ·exact absurd h (by decide)
   ·exact absurd h (by decide)
   ·exact absurd h (by decide)
   ·have HE := qH (ck_arg (k := k) (by omega) s.data.toList)
    have k0 : k ≠ 0 := by omega
    have k4 : k ≠ 4 := by omega
    have k5 : k ≠ 5 := by omega
    have k6 : k ≠ 6 := by omega
    clear h hk
    go_enter Tryz.func61, Tryz.ntmps61
    go_wp2
    go_ret
    exact ⟨by rw [HE.out]; rfl, Below.refl _ _⟩
 ·have HE := qH (ck_num h s.data.toList)
  have HN := qH (number_this k s hs _ _ rfl rfl)
  generalize nmN k s.data.toList = a at *
  generalize nmE k s.data.toList = b at *
  rcases wd_cases k with rfl | rfl | rfl | ⟨e, _⟩
  ·clear h
   go_enter Tryz.func61, Tryz.ntmps61
   go_wp2_with fail
   refine (HN.out w hL).mono ?_
   rintro e w1 ⟨rfl, b1⟩
   go_wp2
   go_ret
   exact ⟨by rw [HE.out]; rfl, b1⟩
  ·clear h
   go_enter Tryz.func61, Tryz.ntmps61
   go_wp2_with fail
   refine (HN.out w hL).mono ?_
   rintro e w1 ⟨rfl, b1⟩
   go_wp2
   go_ret
   exact ⟨by rw [HE.out]; rfl, b1⟩
  ·clear h
   go_enter Tryz.func61, Tryz.ntmps61
   go_wp2_with fail
   refine (HN.out w hL).mono ?_
   rintro e w1 ⟨rfl, b1⟩
   go_wp2
   go_ret
   exact ⟨by rw [HE.out]; rfl, b1⟩
  ·exact absurd e h
theorem rWord (k : Int) (w : World) : Calls qP 115 #[.int .i64 k] w fun e w' => e = .returned (.string (bs (wd k))) ∧ w = w' := by
 rcases wd_cases k with rfl | rfl | rfl | ⟨h, h1, h2, h3⟩
 ·go_enter Tryz.func115, Tryz.ntmps115
  go_wp2
  go_ret
  exact ⟨rfl, rfl⟩
 ·go_enter Tryz.func115, Tryz.ntmps115
  go_wp2
  go_ret
  exact ⟨rfl, rfl⟩
 ·go_enter Tryz.func115, Tryz.ntmps115
  go_wp2
  go_ret
  exact ⟨rfl, rfl⟩
 ·have HE := qH (congrArg bs h)
  clear h
  go_enter Tryz.func115, Tryz.ntmps115
  go_wp2
  go_ret
  exact ⟨by rw [HE.out]; rfl, rfl⟩
theorem rWord_none {k : Int} (h : wd k = []) (w : World) : Calls qP 115 #[.int .i64 k] w fun e w' => e = .returned (.string ⟨#[]⟩) ∧ w = w' := by
 have := rWord k w
 rw [h] at this
 exact this
theorem rDigits (n : Nat) (hn : n ≤ 1099511627776) (w : World) :
  Calls qP 159 #[.int .i64 n] w fun e w' => e = .returned (.string (bs (dcm n))) ∧ Below w.heap.size w w' := by
 have hle := dcm_len n hn
 go_enter Tryz.func159, Tryz.ntmps159
 go_wp2
 go_loopw [0, 3] (fun v s wr => ∃ (j : Nat) (t : List UInt8), v = .int .i64 j ∧ s = .string (bs t) ∧ j ≤ 1099511627776 ∧ Hid (dcm j ++ t = dcm n) ∧ Below w.heap.size w wr) (fun v _ _ => (intOf v).toNat)
 case atStart => exact ⟨n, [], rfl, rfl, hn, by unfold Hid; simp, Below.refl _ _⟩
 case round =>
  obtain ⟨j, t, rfl, rfl, hj, hcat, hbel⟩ := hrel
  have htl : t.length ≤ 13 := by have := congrArg List.length hcat.out; rw [List.length_append] at this; omega
  have hsz := hbel.size
  by_cases hpos : 10 ≤ j
  ·have hcv := run_one wr (48 + (j : Int) % 10) (by omega) (by omega)
   have e8 : (48 + (j : Int) % 10).toNat = 48 + j % 10 := by omega
   rw [e8] at hcv
   obtain ⟨c, hc⟩ : ∃ c, UInt8.ofNat (48 + j % 10) = c := ⟨_, rfl⟩
   rw [hc] at hcv
   have HC := qH hc
   have hadd := fun W => run_add W [c] t (by simp; omega)
   clear e8 hc
   go_wp2
   go_roundw
   case rel =>
    refine ⟨j / 10, c :: t, by go_num, rfl, by omega, ?_, hbel.alloc hsz _⟩
    have e := dcm_big (n := j) (by omega)
    have h2 := hcat.out
    rw [e, HC.out] at h2
    unfold Hid
    rw [← h2]
    simp
   case measure => simp [intOf]; omega
  ·have hcv := run_one wr (48 + (j : Int)) (by omega) (by omega)
   have e8 : (48 + (j : Int)).toNat = 48 + j := by omega
   rw [e8] at hcv
   obtain ⟨c, hc⟩ : ∃ c, UInt8.ofNat (48 + j) = c := ⟨_, rfl⟩
   rw [hc] at hcv
   have hadd := fun W => run_add W [c] t (by simp; omega)
   have HE : Hid (bs ([c] ++ t) = bs (dcm n)) := qH (by
    rw [← hcat.out, dcm_small (by omega), hc])
   clear e8 hc
   go_wp2
   go_ret
   exact ⟨by rw [← HE.out]; rfl, hbel.alloc hsz _⟩
theorem bs_neN {l : List UInt8} (h : l ≠ []) : bs l ≠ ⟨#[]⟩ := by
 intro e
 have := congrArg (fun x : ByteArray => x.data.toList) e
 rw [bs_data] at this
 exact h this
theorem rMake (k n : Int) (w : World) : Calls qP 119 #[.int .i64 k, .int .i64 n] w fun e w' => e = .returned (mkV k n) ∧ Below w.heap.size w w' := by
 by_cases h : wd k = []
 ·have HE := qH (mkV_arg h n)
  have HW := qH (rWord_none h)
  have hem := str_none
  clear h
  go_enter Tryz.func119, Tryz.ntmps119
  go_wp2_with fail
  refine (HW.out w).mono ?_
  rintro e w1 ⟨rfl, rfl⟩
  go_wp2
  go_ret2
  exact ⟨by rw [HE.out]; rfl, Below.refl _ _⟩
 ·have HW := qH (rWord k)
  have hw := wd_len k
  have hem := str_some (bs_neN h)
  by_cases h0 : n < 0
  ·have HE := qH (mkV_range h (.inl h0))
   clear h
   go_enter Tryz.func119, Tryz.ntmps119
   go_wp2_with fail
   refine (HW.out w).mono ?_
   rintro e w1 ⟨rfl, rfl⟩
   go_wp2
   go_ret2
   exact ⟨by rw [HE.out]; rfl, Below.refl _ _⟩
  ·by_cases h1 : 1099511627776 < n
   ·have HE := qH (mkV_range h (.inr h1))
    clear h
    go_enter Tryz.func119, Tryz.ntmps119
    go_wp2_with fail
    refine (HW.out w).mono ?_
    rintro e w1 ⟨rfl, rfl⟩
    go_wp2
    go_ret2
    exact ⟨by rw [HE.out]; rfl, Below.refl _ _⟩
   ·have HE := qH (mkV_ok (n := n) h (by omega))
    clear h
    obtain ⟨m, rfl⟩ : ∃ m : Nat, n = m := ⟨n.toNat, by omega⟩
    have hm : m ≤ 1099511627776 := by omega
    go_enter Tryz.func119, Tryz.ntmps119
    go_wp2_with fail
    refine (HW.out w).mono ?_
    rintro e w1 ⟨rfl, rfl⟩
    go_wp2_with fail
    refine (HW.out w).mono ?_
    rintro e w1 ⟨rfl, rfl⟩
    go_wp2_with fail
    refine (rDigits m hm w).mono ?_
    rintro e w1 ⟨rfl, b1⟩
    have hadd := run_add w1 (wd k) (dcm m) (by have := dcm_len m hm; omega)
    go_wp2
    go_ret2
    exact ⟨by rw [HE.out]; rfl, b1⟩
theorem rLetter (c : UInt8) (w : World) : Calls qP 158 #[.int .u8 c.toNat] w fun e w' => e = .returned (.bool (ltr c)) ∧ w = w' := by
 have hb := c.toNat_lt
 go_enter Tryz.func158, Tryz.ntmps158
 go_wp2
 all_goals
  go_ret
  refine ⟨?_, rfl⟩
  refine congrArg (fun b => Ending.returned (Value.bool b)) (?_ : _ = ltr c)
  first
   | (refine Eq.symm (?_ : ltr c = true)
      simp only [ltr, Bool.or_eq_true, decide_eq_true_eq]
      omega)
   | (rw [Bool.eq_iff_iff]
      simp only [ltr, Bool.or_eq_true, decide_eq_true_eq, beq_iff_eq]
      omega)
theorem rPlain (s : ByteArray) (w : World) (hs : s.size ≤ 1000000) :
  Calls qP 117 #[.string s] w fun e w' => e = .returned (.bool (plain s.data.toList)) ∧ w = w' := by
 go_enter Tryz.func117, Tryz.ntmps117
 go_wp2
 go_loop [3] (fun i => ∃ k : Nat, k ≤ s.size ∧ i = .int .i64 k ∧ (s.data.toList.take k).all ltr = true) (fun i => s.size - (intOf i).toNat)
 case atStart => exact ⟨0, Nat.zero_le _, rfl, rfl⟩
 case round =>
  obtain ⟨k, hk, rfl, hall⟩ := hrel
  by_cases hlt : k < s.size
  ·have hb := s[k].toNat_lt
   have HS := qH (all_step hall hlt)
   have HF := qH (all_fail hlt)
   clear hall
   go_wp2_with fail
   refine (rLetter s[k] w).mono ?_
   rintro e w1 ⟨rfl, rfl⟩
   cases hl : ltr s[k] with
   | true =>
    have HR := qH (HS.out hl)
    clear hl
    go_wp2
    go_round
    case rel => exact ⟨k + 1, by omega, by go_num, HR.out⟩
    case measure => simp [intOf]; omega
   | false =>
    have HR : Hid (plain s.data.toList = false) := qH (by unfold plain; rw [HF.out hl]; rfl)
    clear hl
    go_wp2
    go_ret
    exact ⟨by rw [HR.out]; rfl, rfl⟩
  ·obtain rfl : k = s.size := by omega
   have HE := qH (all_done hall)
   clear hall
   by_cases h1 : 1 ≤ s.size
   ·by_cases h2 : s.size ≤ 64
    ·have HP := qH ((plain_all h1 h2).trans HE.out)
     go_wp2
     go_ret
     refine ⟨?_, rfl⟩
     show Ending.returned (Value.bool (decide ((s.size : Int) ≤ 64))) = _
     rw [HP.out, decide_eq_true (by omega)]
    ·have HP := qH (plain_no (s := s) (by omega))
     go_wp2
     go_ret
     refine ⟨?_, rfl⟩
     show Ending.returned (Value.bool (decide ((s.size : Int) ≤ 64))) = _
     rw [HP.out, decide_eq_false (by omega)]
   ·have HP := qH (plain_no (s := s) (by omega))
    go_wp2
    go_ret
    exact ⟨by rw [HP.out]; rfl, rfl⟩
theorem no_short {k : Int} {l : List UInt8} (h : l.length ≤ (wd k).length ∨ (wd k).length + 13 < l.length) : ∀ n, mkE k n = 0 → mkS k n ≠ l := by
 intro n h1 h2
 obtain ⟨e, h0, hn⟩ := mk_is h1 h2
 have h3 := dcm_pos n.toNat
 have h4 := dcm_len n.toNat (by omega)
 have h5 := congrArg List.length e
 rw [List.length_append] at h5
 omega
theorem no_digit {k : Int} {d : List UInt8} {b : UInt8} (hb : b ∈ d) (h : b.toNat < 48 ∨ 57 < b.toNat) : ∀ n, mkE k n = 0 → mkS k n ≠ wd k ++ d := by
 intro n h1 h2
 obtain ⟨e, h0, hn⟩ := mk_is h1 h2
 have : d = dcm n.toNat := List.append_cancel_left e
 rw [this] at hb
 have := dcm_digit _ b hb
 omega
theorem no_value {k : Int} {m : Nat} {d : List UInt8} (hv : Lib.decFrom 0 d = some m) (h : ¬ (mkE k m = 0 ∧ mkS k m = wd k ++ d)) : ∀ n, mkE k n = 0 → mkS k n ≠ wd k ++ d := by
 intro n h1 h2
 obtain ⟨e, h0, hn⟩ := mk_is h1 h2
 have e2 : d = dcm n.toNat := List.append_cancel_left e
 rw [e2, decFrom_dec] at hv
 injection hv with hv
 have : n = m := by omega
 subst this
 exact h ⟨h1, h2⟩
theorem rMake_this (k v : Int) (q : ByteArray) (z : Int) (h1 : bs (mkS k v) = q) (h2 : mkE k v = z) (w : World) :
  Calls qP 119 #[.int .i64 k, .int .i64 v] w fun e w' => e = .returned (.tuple #[.string q, .int .i64 z]) ∧ Below w.heap.size w w' := by
 subst h1 h2
 exact rMake k v w
theorem ext_list (s : ByteArray) (m : Nat) : (s.extract 0 m).data.toList = s.data.toList.take m := by
 rw [ByteArray.data_extract]
 simp
theorem pre_yes {s q : ByteArray} (h : ((s.extract 0 q.size).toList == q.toList) = true) : ∃ d, s.data.toList = q.data.toList ++ d := by
 have e := congrArg (fun x : ByteArray => x.data.toList) (str_eq h)
 simp only [ext_list] at e
 exact ⟨s.data.toList.drop q.size, by rw [← e, List.take_append_drop]⟩
theorem pre_no {s q : ByteArray} (h : ((s.extract 0 q.size).toList == q.toList) = false) : ∀ d, s.data.toList ≠ q.data.toList ++ d := by
 intro d e
 have e2 : s.extract 0 q.size = q := by
  refine Go.WideShapes.bytes_inj ?_
  rw [ext_list, e, ← size_list q, List.take_left]
 rw [e2] at h
 simp at h
def DRel (s q : ByteArray) (p m : Nat) : Prop := Lib.decFrom 0 ((s.data.toList.take p).drop q.size) = some m
theorem DRel.start (s q : ByteArray) : DRel s q q.size 0 := by
 unfold DRel
 rw [List.drop_eq_nil_of_le (by rw [List.length_take]; omega)]
 rfl
theorem DRel.step {s q : ByteArray} {p m : Nat} (h : DRel s q p m) (hq : q.size ≤ p) (hp : p < s.size) (h1 : 48 ≤ s[p].toNat) (h2 : s[p].toNat ≤ 57) : DRel s q (p + 1) (m * 10 + (s[p].toNat - 48)) := by
 unfold DRel at h ⊢
 rw [take_snoc s p hp, List.drop_append_of_le_length (by rw [List.length_take, size_list]; omega), decFrom_append, h]
 simp only [Option.bind_some, Lib.decFrom, Lib.digitVal]
 rw [if_pos ⟨h1, h2⟩]
theorem DRel.lt {s q : ByteArray} {p m : Nat} (h : DRel s q p m) (hp : p ≤ q.size + 12) : m < 1000000000000 := by
 have h3 := Lib.decFrom_lt _ _ _ h
 have h4 : ((s.data.toList.take p).drop q.size).length ≤ 12 := by rw [List.length_drop, List.length_take]; omega
 have h5 := Nat.pow_le_pow_right (n := 10) (by omega) h4
 omega
theorem DRel.lt13 {s q : ByteArray} {p m : Nat} (h : DRel s q p m) (hp : p ≤ q.size + 13) : m < 10000000000000 := by
 have h3 := Lib.decFrom_lt _ _ _ h
 have h4 : ((s.data.toList.take p).drop q.size).length ≤ 13 := by rw [List.length_drop, List.length_take]; omega
 have h5 := Nat.pow_le_pow_right (n := 10) (by omega) h4
 omega
theorem DRel.all {s q : ByteArray} {m : Nat} {d : List UInt8} (h : DRel s q s.size m) (e : s.data.toList = q.data.toList ++ d) : Lib.decFrom 0 d = some m := by
 unfold DRel at h
 rw [List.take_of_length_le (by rw [size_list]; exact Nat.le_refl _), e, ← size_list q, List.drop_left] at h
 exact h
theorem mem_tail {s q : ByteArray} {d : List UInt8} (e : s.data.toList = q.data.toList ++ d) {p : Nat} (hq : q.size ≤ p) (hp : p < s.size) : s[p] ∈ d := by
 have h1 : s.data.toList[p]? = some s[p] := by
  rw [List.getElem?_eq_getElem (by rw [size_list]; exact hp)]
  rfl
 rw [e, List.getElem?_append_right (by rw [size_list]; exact hq)] at h1
 exact List.mem_of_getElem? h1
theorem rNumber (k : Int) (s : ByteArray) (w : World) :
  Calls qP 116 #[.int .i64 k, .string s] w fun e w' => e = .returned (nmV k s.data.toList) ∧ Below w.heap.size w w' := by
 by_cases h : wd k = []
 ·have HE := qH (nmV_arg h s.data.toList)
  have HW := qH (rWord_none h)
  have hem := str_none
  clear h
  go_enter Tryz.func116, Tryz.ntmps116
  go_wp2_with fail
  refine (HW.out w).mono ?_
  rintro e w1 ⟨rfl, rfl⟩
  go_wp2
  go_ret2
  exact ⟨by rw [HE.out]; rfl, Below.refl _ _⟩
 ·have HW := qH (rWord k)
  have hw := wd_len k
  have hem := str_some (bs_neN h)
  have hqs := bs_size (wd k)
  have HQ := qH (bs_data (wd k))
  have hls := size_list s
  generalize bs (wd k) = q at *
  by_cases h1 : s.size ≤ q.size
  ·have HE := qH (nmV_no (l := s.data.toList) h (no_short (.inl (by omega))))
   clear h hqs hls
   go_enter Tryz.func116, Tryz.ntmps116
   go_wp2_with fail
   refine (HW.out w).mono ?_
   rintro e w1 ⟨rfl, rfl⟩
   go_wp2
   go_ret2
   exact ⟨by rw [HE.out]; rfl, Below.refl _ _⟩
  ·by_cases h2 : q.size + 13 < s.size
   ·have HE := qH (nmV_no (l := s.data.toList) h (no_short (.inr (by omega))))
    have hq9 : q.size ≤ 11 := by omega
    clear h hqs hls
    go_enter Tryz.func116, Tryz.ntmps116
    go_wp2_with fail
    refine (HW.out w).mono ?_
    rintro e w1 ⟨rfl, rfl⟩
    go_wp2
    go_ret2
    exact ⟨by rw [HE.out]; rfl, Below.refl _ _⟩
   ·have hq9 : q.size ≤ 11 := by omega
    clear hqs hls
    cases hp : ((s.extract 0 q.size).toList == q.toList) with
    | false =>
     have HE := qH (nmV_no (l := s.data.toList) h (no_none (by rw [← HQ.out]; exact pre_no hp)))
     clear h
     go_enter Tryz.func116, Tryz.ntmps116
     go_wp2_with fail
     refine (HW.out w).mono ?_
     rintro e w1 ⟨rfl, rfl⟩
     go_wp2
     go_ret2
     exact ⟨by rw [HE.out]; rfl, Below.refl _ _⟩
    | true =>
     obtain ⟨d, hd⟩ := pre_yes hp
     have HD := qH hd
     have hd2 : s.data.toList = wd k ++ d := by rw [← HQ.out]; exact hd
     have HD2 := qH hd2
     have HN := qH (fun H => nmV_no (l := s.data.toList) h H)
     clear h hd hd2
     go_enter Tryz.func116, Tryz.ntmps116
     go_wp2_with fail
     refine (HW.out w).mono ?_
     rintro e w1 ⟨rfl, rfl⟩
     go_wp2
     clear hp hem
     go_loop [7, 8] (fun v i => ∃ p m : Nat, v = .int .i64 m ∧ i = .int .i64 p ∧ q.size ≤ p ∧ p ≤ s.size ∧ Hid (DRel s q p m)) (fun _ i => s.size - (intOf i).toNat)
     case atStart => exact ⟨q.size, 0, rfl, rfl, Nat.le_refl _, by omega, qH (DRel.start s q)⟩
     case round =>
      obtain ⟨p, m, rfl, rfl, hqp, hps, HR⟩ := hrel
      by_cases hlt : p < s.size
      ·have hb := s[p].toNat_lt
       have hm := HR.out.lt (by omega)
       by_cases c1 : s[p].toNat < 48
       ·have HE := qH (HN.out (by rw [HD2.out]; exact no_digit (mem_tail HD.out hqp hlt) (.inl c1)))
        go_wp2
        go_ret2
        exact ⟨by rw [HE.out]; rfl, Below.refl _ _⟩
       ·by_cases c2 : 57 < s[p].toNat
        ·have HE := qH (HN.out (by rw [HD2.out]; exact no_digit (mem_tail HD.out hqp hlt) (.inr c2)))
         go_wp2
         go_ret2
         exact ⟨by rw [HE.out]; rfl, Below.refl _ _⟩
        ·have HR2 := qH (HR.out.step hqp hlt (by omega) (by omega))
         go_wp2
         go_round
         case rel => exact ⟨p + 1, m * 10 + (s[p].toNat - 48), by go_num, by go_num, by omega, by omega, HR2⟩
         case measure => simp [intOf]; omega
      ·obtain rfl : p = s.size := by omega
       have hm := HR.out.lt13 (by omega)
       have hv := HR.out.all HD.out
       by_cases hm2 : mkE k m = 0 ∧ mkS k m = wd k ++ d
       ·have HE := qH (nmV_yes hm2.1 (hm2.2.trans HD2.out.symm))
        have HM := qH (rMake_this k m s 0 (by rw [hm2.2, ← HD2.out, bs_of]) hm2.1)
        clear hv hm2
        go_wp2_with fail
        refine (HM.out w).mono ?_
        rintro e w2 ⟨rfl, b2⟩
        go_wp2
        go_ret2
        exact ⟨by rw [HE.out]; rfl, b2⟩
       ·have HE := qH (HN.out (by rw [HD2.out]; exact no_value hv hm2))
        by_cases hz : mkE k m = 0
        ·have hne : bs (mkS k m) ≠ s := by
          intro e
          refine hm2 ⟨hz, ?_⟩
          rw [← HD2.out, ← e, bs_data]
         have HM := qH (rMake_this k m (bs (mkS k m)) 0 rfl hz)
         generalize bs (mkS k m) = y at *
         replace hne := str_ne hne
         clear hv hm2 hz
         go_wp2_with fail
         refine (HM.out w).mono ?_
         rintro e w2 ⟨rfl, b2⟩
         go_wp2
         go_ret2
         exact ⟨by rw [HE.out]; rfl, b2⟩
        ·have HM := qH (rMake_this k m (bs (mkS k m)) (mkE k m) rfl rfl)
         generalize bs (mkS k m) = y at *
         generalize mkE k m = z at *
         clear hv hm2
         go_wp2_with fail
         refine (HM.out w).mono ?_
         rintro e w2 ⟨rfl, b2⟩
         go_wp2
         go_ret2
         exact ⟨by rw [HE.out]; rfl, b2⟩
theorem rNumber_this (k : Int) (s : ByteArray) (a b : Int) (h1 : nmN k s.data.toList = a) (h2 : nmE k s.data.toList = b) (w : World) :
  Calls qP 116 #[.int .i64 k, .string s] w fun e w' => e = .returned (.tuple #[.int .i64 a, .int .i64 b]) ∧ Below w.heap.size w w' := by
 subst h1 h2
 exact rNumber k s w
theorem rPlain_this (s : ByteArray) (hs : s.size ≤ 1000000) (b : Bool) (h : plain s.data.toList = b) (w : World) :
  Calls qP 117 #[.string s] w fun e w' => e = .returned (.bool b) ∧ w = w' := by
 subst h
 exact rPlain s w hs
theorem ck_of_plain {k : Int} (h : wd k = []) (h1 : 0 ≤ k) (h2 : k ≤ 6) (l : List UInt8) : ck k l = if plain l then 0 else 7 := by
 rw [ck, if_neg (by omega), if_pos h]
theorem rCheck (k : Int) (s : ByteArray) (w : World) (hs : s.size ≤ 1000000) :
  Calls qP 70 #[.int .i64 k, .string s] w fun e w' => e = .returned (.int .i64 (ck k s.data.toList)) ∧ Below w.heap.size w w' := by
 by_cases h0 : k < 0
 ·have HE := qH (ck_arg (.inl h0) s.data.toList)
  go_enter Tryz.func70, Tryz.ntmps70
  go_wp2
  go_ret
  exact ⟨by rw [HE.out]; rfl, Below.refl _ _⟩
 ·by_cases h6 : 6 < k
  ·have HE := qH (ck_arg (.inr h6) s.data.toList)
   go_enter Tryz.func70, Tryz.ntmps70
   go_wp2
   go_ret
   exact ⟨by rw [HE.out]; rfl, Below.refl _ _⟩
  ·by_cases h : wd k = []
   ·have HW := qH (rWord_none h)
    have hem := str_none
    have HE := qH (ck_of_plain h (by omega) (by omega) s.data.toList)
    clear h
    cases hp : plain s.data.toList with
    | true =>
     have HP := qH (rPlain_this s hs true hp)
     have HZ := qH hp
     clear hp
     go_enter Tryz.func70, Tryz.ntmps70
     go_wp2_with fail
     refine (HW.out w).mono ?_
     rintro e w1 ⟨rfl, rfl⟩
     go_wp2_with fail
     refine (HP.out w).mono ?_
     rintro e w1 ⟨rfl, rfl⟩
     go_wp2
     go_ret
     exact ⟨by rw [HE.out, HZ.out]; rfl, Below.refl _ _⟩
    | false =>
     have HP := qH (rPlain_this s hs false hp)
     have HZ := qH hp
     clear hp
     go_enter Tryz.func70, Tryz.ntmps70
     go_wp2_with fail
     refine (HW.out w).mono ?_
     rintro e w1 ⟨rfl, rfl⟩
     go_wp2_with fail
     refine (HP.out w).mono ?_
     rintro e w1 ⟨rfl, rfl⟩
     go_wp2
     go_ret
     exact ⟨by rw [HE.out, HZ.out]; rfl, Below.refl _ _⟩
   ·have HW := qH (rWord k)
    have hem := str_some (bs_neN h)
    have HE := qH (ck_num h s.data.toList)
    have HN := qH (rNumber_this k s _ _ rfl rfl)
    generalize nmN k s.data.toList = a at *
    generalize nmE k s.data.toList = b at *
    generalize bs (wd k) = q at *
    clear h
    go_enter Tryz.func70, Tryz.ntmps70
    go_wp2_with fail
    refine (HW.out w).mono ?_
    rintro e w1 ⟨rfl, rfl⟩
    go_wp2_with fail
    refine (HN.out w).mono ?_
    rintro e w1 ⟨rfl, b1⟩
    go_wp2
    go_ret
    exact ⟨by rw [HE.out]; rfl, b1⟩
structure LAt (w : World) (go gx gr : Nat) (To Tx : TypeId) (oc xc : Array Value) (t : ByteArray) (e : Int) (W : World) : Prop where
 o : Blk W go To oc
 x : Blk W gx Tx xc
 q : Blk W gr 93 #[.string t, .int .i64 e]
 s : Since w W
 d : go ≠ gx ∧ go ≠ gr ∧ gx ≠ gr ∧ w.heap.size ≤ go ∧ w.heap.size ≤ gx ∧ w.heap.size ≤ gr
section
variable {w W W' : World} {go gx gr : Nat} {To Tx : TypeId} {oc xc : Array Value} {t : ByteArray} {e : Int}
theorem LAt.next (h : LAt w go gx gr To Tx oc xc t e W) (k : Below W.heap.size W W') : LAt w go gx gr To Tx oc xc t e W' := ⟨h.o.next k, h.x.next k, h.q.next k, since_of (step_below h.s.below k), h.d⟩
theorem LAt.setR (h : LAt w go gx gr To Tx oc xc t e W) (t' : ByteArray) (e' : Int) : LAt w go gx gr To Tx oc xc t' e' ((W.setCell ⟨gr, 0, none⟩ (.string t')).setCell ⟨gr, 1, none⟩ (.int .i64 e')) :=
 have d := h.d
 ⟨(h.o.far (p := ⟨gr, 0, none⟩) d.2.1 _).far (p := ⟨gr, 1, none⟩) d.2.1 _, (h.x.far (p := ⟨gr, 0, none⟩) d.2.2.1 _).far (p := ⟨gr, 1, none⟩) d.2.2.1 _, (h.q.set_ 0 _).set_ 1 _, since_put (since_put h.s d.2.2.2.2.2 _) d.2.2.2.2.2 _, d⟩
theorem LAt.setX (h : LAt w go gx gr To Tx oc xc t e W) (i : Nat) (v : Value) : LAt w go gx gr To Tx oc (xc.setIfInBounds i v) t e (W.setCell ⟨gx, i, none⟩ v) :=
 have d := h.d
 ⟨h.o.far (p := ⟨gx, i, none⟩) d.1 _, h.x.set_ i v, h.q.far (p := ⟨gx, i, none⟩) d.2.2.1.symm _, since_put h.s d.2.2.2.2.1 _, d⟩
theorem LAt.q0 (h : LAt w go gx gr To Tx oc xc t e W) : W.cell? ⟨gr, 0, none⟩ = some (.string t) := h.q.c 0 rfl
theorem LAt.q1 (h : LAt w go gx gr To Tx oc xc t e W) : W.cell? ⟨gr, 1, none⟩ = some (.int .i64 e) := h.q.c 1 rfl
theorem LAt.xcell (h : LAt w go gx gr To Tx oc xc t e W) (i : Nat) {v : Value} (hv : xc[i]? = some v) : W.cell? ⟨gx, i, none⟩ = some v := h.x.c i hv
end
theorem put4 {W : World} {b : Nat} {t : TypeId} {a0 a1 a2 a3 : Value} (h : Blk W b t #[a0, a1, a2, a3]) (v0 v1 v2 v3 : Value) :
  Blk ((((W.setCell ⟨b, 0, none⟩ v0).setCell ⟨b, 1, none⟩ v1).setCell ⟨b, 2, none⟩ v2).setCell ⟨b, 3, none⟩ v3) b t #[v0, v1, v2, v3] :=
 (((h.set_ 0 v0).set_ 1 v1).set_ 2 v2).set_ 3 v3
theorem since_put4 {w W : World} {b : Nat} (h : Since w W) (hb : w.heap.size ≤ b) (v0 v1 v2 v3 : Value) :
  Since w ((((W.setCell ⟨b, 0, none⟩ v0).setCell ⟨b, 1, none⟩ v1).setCell ⟨b, 2, none⟩ v2).setCell ⟨b, 3, none⟩ v3) :=
 since_put (since_put (since_put (since_put h (p := ⟨b, 0, none⟩) hb v0) (p := ⟨b, 1, none⟩) hb v1) (p := ⟨b, 2, none⟩) hb v2) (p := ⟨b, 3, none⟩) hb v3
theorem put2 {W : World} {b : Nat} {t : TypeId} {a0 a1 : Value} (h : Blk W b t #[a0, a1]) (v0 v1 : Value) :
  Blk ((W.setCell ⟨b, 0, none⟩ v0).setCell ⟨b, 1, none⟩ v1) b t #[v0, v1] := (h.set_ 0 v0).set_ 1 v1
theorem since_put2 {w W : World} {b : Nat} (h : Since w W) (hb : w.heap.size ≤ b) (v0 v1 : Value) :
  Since w ((W.setCell ⟨b, 0, none⟩ v0).setCell ⟨b, 1, none⟩ v1) := since_put (since_put h (p := ⟨b, 0, none⟩) hb v0) (p := ⟨b, 1, none⟩) hb v1
theorem since_drew {w W : World} (h : Since w W) : Since w W.drew := h
theorem blk_drew {W : World} {g : Nat} {t : TypeId} {cs : Array Value} (h : Blk W g t cs) : Blk W.drew g t cs := h
theorem clamp_is2 (n : Int) : max 0 (min n 99999999999999) = (clamp n : Int) := by unfold clamp; omega
theorem rPNumber (n : Int) (w : World) :
  Calls qP 22 #[.int .i64 n] w fun e w' => e = .returned (.string (bs (lowd 14 (clamp n)))) ∧ Below w.heap.size w w' := by
 have hc := clamp_is2 n
 have hm : clamp n ≤ 99999999999999 := by unfold clamp; omega
 generalize clamp n = m at *
 go_enter Tryz.func22, Tryz.ntmps22
 go_wp2
 go_loopw [0, 3, 4] (fun v s i wr => ∃ (k j : Nat) (t : List UInt8), k ≤ 14 ∧ v = .int .i64 j ∧ s = .string (bs t) ∧ i = .int .i64 k ∧ Hid (j = m / 10 ^ k) ∧ j ≤ 99999999999999 ∧ Hid (t = lowd k m) ∧ Below w.heap.size w wr) (fun _ _ i _ => 14 - (intOf i).toNat)
 case atStart => exact ⟨0, m, [], by omega, rfl, rfl, rfl, qH (by simp), hm, qH rfl, Below.refl _ _⟩
 case round =>
  obtain ⟨k, j, t, hk, rfl, rfl, rfl, hj, hj1, ht, hbel⟩ := hrel
  have htl : t.length ≤ 14 := by rw [ht.out, lowd_len]; exact hk
  have hsz := hbel.size
  by_cases hlt : k < 14
  ·have hcv := run_one wr (48 + (j : Int) % 10) (by omega) (by omega)
   have e8 : (48 + (j : Int) % 10).toNat = 48 + j % 10 := by omega
   rw [e8] at hcv
   obtain ⟨c, hc⟩ : ∃ c, UInt8.ofNat (48 + j % 10) = c := ⟨_, rfl⟩
   rw [hc] at hcv
   have HC := qH hc
   have hadd := fun W => run_add W [c] t (by simp; omega)
   clear e8 hc
   go_wp2
   go_roundw
   case rel =>
    refine ⟨k + 1, j / 10, c :: t, by omega, by go_num, rfl, by go_num, qH ?_, by omega, qH ?_, hbel.alloc hsz _⟩
    ·rw [hj.out, Nat.div_div_eq_div_mul, Nat.pow_succ]
    ·rw [lowd_cons, ← HC.out, ht.out, hj.out]
   case measure => simp [intOf]; omega
  ·obtain rfl : k = 14 := by omega
   have HE := qH (congrArg bs ht.out)
   go_wp2
   go_ret
   exact ⟨by rw [HE.out]; rfl, hbel⟩
theorem str_iff (x y : ByteArray) : x.toList = y.toList ↔ x = y := ⟨fun h => str_eq (by rw [h]; simp), fun h => by rw [h]⟩
theorem eq_hd5 (c c' r r' m m' : ByteArray) (a a' b b' : Int) (w : World) :
  (Op.equalIn 10000 34 (.agg #[.string c, .int .i64 a, .int .i64 b, .string r, .string m]) (.agg #[.string c', .int .i64 a', .int .i64 b', .string r', .string m'])).run qP w = .ok (decide (c = c' ∧ a = a' ∧ b = b' ∧ r = r' ∧ m = m')) w := by
 have u1 := Tryz.underlying3
 have u2 := Tryz.underlying9
 have a1 := Tryz.isAgg3
 have a2 := Tryz.isAgg9
 have z1 := Tryz.sizeOf3
 have z2 := Tryz.sizeOf9
 have hS : qP.underlying 34 = some (.struct (qP.fieldsOf 34)) := by kernel_rfl
 have hp : qP.stoodInHeld 34 = false := by kernel_rfl
 rw [show (10000 : Nat) = 9999 + 1 from rfl, run_equalIn_agg w 9999 34 _ _ hS hp]
 simp only [Program.fieldsOf, Tryz.underlying34]
 go_simp
 by_cases h1 : c = c' <;> by_cases h2 : a = a' <;> by_cases h3 : b = b' <;> by_cases h4 : r = r' <;> by_cases h5 : m = m' <;> simp [h1, h2, h3, h4, h5, str_iff]
def orOf : List Int → Int
 | [] => 0
 | e :: l => if e ≠ 0 then e else orOf l
theorem orC (g c : Nat) (l : List Int) (w : World) (h : ∀ (i : Nat) (hi : i < l.length), w.cell? ⟨g, i, none⟩ = some (.int .i64 l[i])) (hn : l.length ≤ 1000000) :
  Calls qP 66 #[.slice (some ⟨g, 0, none⟩) l.length c] w fun e w' => e = .returned (.int .i64 (orOf l)) ∧ Since w w' := by
 obtain ⟨r, hr⟩ : ∃ r, r = orOf l := ⟨_, rfl⟩
 rw [← hr]
 have HR := qH hr
 have HC := qH h
 clear hr h
 go_enter Tryz.func66, Tryz.ntmps66
 go_wp2
 go_loopw [8] (fun i wr => ∃ k : Nat, k ≤ l.length ∧ i = .int .i64 k ∧ Hid (r = orOf (l.drop k)) ∧ Hid (Since w wr)) (fun i _ => l.length - (intOf i).toNat)
 case atStart => exact ⟨0, Nat.zero_le _, rfl, qH (by rw [List.drop_zero]; exact HR.out), qH (Since.refl w)⟩
 case round =>
  obtain ⟨k, hk, rfl, HT, HS⟩ := hrel
  by_cases hlt : k < l.length
  ·have hc := HS.out.cell (HC.out k hlt)
   have hi0 : (0 : Int) ≤ k := by omega
   have hi1 : (k : Int) < (l.length : Int) := by omega
   have hT2 := HT.out
   rw [List.drop_eq_getElem_cons hlt, orOf] at hT2
   obtain ⟨x, hx⟩ : ∃ x, x = l[k] := ⟨_, rfl⟩
   rw [← hx] at hc hT2
   clear hx HT HC HR
   by_cases h1 : x = 0
   ·subst h1
    rw [if_neg (by simp)] at hT2
    have HT2 := qH hT2
    clear hT2
    go_wp2
    go_roundw
    case rel => exact ⟨k + 1, by omega, by go_num, HT2, HS⟩
    case measure => simp [intOf]; omega
   ·rw [if_pos h1] at hT2
    subst hT2
    have hb : (r != 0) = true := by rw [bne_iff_ne]; exact h1
    go_wp2
    go_ret
    exact ⟨rfl, HS.out⟩
  ·obtain rfl : k = l.length := by omega
   have h3 : r = 0 := by have := HT.out; rw [List.drop_length] at this; exact this
   subst h3
   go_wp2
   go_ret
   exact ⟨rfl, HS.out⟩
theorem or2 (t : TypeId) (e f : Int) (W : World) (g : Nat) (h : Blk W g t #[.int .i64 e, .int .i64 f]) :
  Calls qP 66 #[.slice (some ⟨g, 0, none⟩) 2 2] W fun en w' => en = .returned (.int .i64 (orOf [e, f])) ∧ Since W w' :=
 orC g 2 [e, f] W (fun i hi => by
  match i, hi with
  | 0, _ => exact (h.cell 0).trans rfl
  | 1, _ => exact (h.cell 1).trans rfl) (by simp)
theorem or4 (t : TypeId) (e f a b : Int) (W : World) (g : Nat) (h : Blk W g t #[.int .i64 e, .int .i64 f, .int .i64 a, .int .i64 b]) :
  Calls qP 66 #[.slice (some ⟨g, 0, none⟩) 4 4] W fun en w' => en = .returned (.int .i64 (orOf [e, f, a, b])) ∧ Since W w' :=
 orC g 4 [e, f, a, b] W (fun i hi => by
  match i, hi with
  | 0, _ => exact (h.cell 0).trans rfl
  | 1, _ => exact (h.cell 1).trans rfl
  | 2, _ => exact (h.cell 2).trans rfl
  | 3, _ => exact (h.cell 3).trans rfl) (by simp)
theorem body_or (h : Hdr) : bodyOf h = if orOf [(encText h.chain).2, (encNum h.height).2, (encNum h.time).2, (encText h.root).2] ≠ 0 then ([], orOf [(encText h.chain).2, (encNum h.height).2, (encNum h.time).2, (encText h.root).2]) else ((((encText h.chain).1 ++ (encNum h.height).1) ++ (encNum h.time).1) ++ (encText h.root).1, 0) := by
 unfold bodyOf
 generalize encText h.chain = p1
 generalize encNum h.height = p2
 generalize encNum h.time = p3
 generalize encText h.root = p4
 obtain ⟨s1, f1⟩ := p1
 obtain ⟨s2, f2⟩ := p2
 obtain ⟨s3, f3⟩ := p3
 obtain ⟨s4, f4⟩ := p4
 simp only [radd, orOf]
 by_cases h1 : f1 = 0 <;> by_cases h2 : f2 = 0 <;> by_cases h3 : f3 = 0 <;> by_cases h4 : f4 = 0 <;> simp [h1, h2, h3, h4]
theorem part_this (c : ByteArray) (a b : Int) (r m : ByteArray) (s1 s2 s3 s4 : List UInt8) (f1 f2 f3 f4 o : Int) (w : World) (l1 : s1.length ≤ 100000) (l2 : s2.length ≤ 100000) (l3 : s3.length ≤ 100000) (l4 : s4.length ≤ 100000)
  (K1 : Hid (∀ W, Calls qP 62 #[.string c] W fun e w' => e = .returned (.tuple #[.string (bs s1), .int .i64 f1]) ∧ Below W.heap.size W w'))
  (K2 : Hid (∀ W, Calls qP 65 #[.int .i64 a] W fun e w' => e = .returned (.tuple #[.string (bs s2), .int .i64 f2]) ∧ Below W.heap.size W w'))
  (K3 : Hid (∀ W, Calls qP 65 #[.int .i64 b] W fun e w' => e = .returned (.tuple #[.string (bs s3), .int .i64 f3]) ∧ Below W.heap.size W w'))
  (K4 : Hid (∀ W, Calls qP 62 #[.string r] W fun e w' => e = .returned (.tuple #[.string (bs s4), .int .i64 f4]) ∧ Below W.heap.size W w'))
  (O : Hid (∀ W g, Blk W g 42 #[.int .i64 f1, .int .i64 f2, .int .i64 f3, .int .i64 f4] → Calls qP 66 #[.slice (some ⟨g, 0, none⟩) 4 4] W fun e w' => e = .returned (.int .i64 o) ∧ Since W w')) :
  Calls qP 174 #[.agg #[.string c, .int .i64 a, .int .i64 b, .string r, .string m]] w fun e w' => e = .returned (retSE (if o ≠ 0 then ([], o) else (((s1 ++ s2) ++ s3) ++ s4, 0))) ∧ Since w w' := by
 have HB := qH (Blk.new w 34 #[.string c, .int .i64 a, .int .i64 b, .string r, .string m])
 have HS := qH (show Since w (w.alloc (.cells #[.string c, .int .i64 a, .int .i64 b, .string r, .string m] 34)) from since_of ((Below.refl _ w).alloc (Nat.le_refl _) _))
 have a1 : ∀ W, (Op.stringOp .add (bs s1) (bs s2)).run qP W = .ok (.string (bs (s1 ++ s2))) W := fun W => run_add W s1 s2 (by omega)
 have a2 : ∀ W, (Op.stringOp .add (bs (s1 ++ s2)) (bs s3)).run qP W = .ok (.string (bs ((s1 ++ s2) ++ s3))) W := fun W => run_add W _ _ (by rw [List.length_append]; omega)
 have a3 : ∀ W, (Op.stringOp .add (bs ((s1 ++ s2) ++ s3)) (bs s4)).run qP W = .ok (.string (bs (((s1 ++ s2) ++ s3) ++ s4))) W := fun W => run_add W _ _ (by rw [List.length_append, List.length_append]; omega)
 obtain ⟨⟨p1, p2⟩, hp⟩ : ∃ p : List UInt8 × Int, p = if o ≠ 0 then ([], o) else (((s1 ++ s2) ++ s3) ++ s4, 0) := ⟨_, rfl⟩
 rw [← hp]
 generalize ((s1 ++ s2) ++ s3) ++ s4 = x3 at *
 generalize (s1 ++ s2) ++ s3 = x2 at *
 generalize s1 ++ s2 = x1 at *
 have HP := qH hp
 clear hp
 unfold retSE
 clear l1 l2 l3 l4
 have y0 : (w.alloc (.cells #[.string c, .int .i64 a, .int .i64 b, .string r, .string m] 34)).cell? ⟨w.heap.size, 0, none⟩ = some (.string c) := HB.out.c 0 rfl
 go_enter Tryz.func174, Tryz.ntmps174
 go_wp2_with fail
 refine (K1.out _).mono ?_
 rintro e w1 ⟨rfl, q1⟩
 have X1 := qH (HB.out.next q1)
 have S1 := qH (since_of (step_below HS.out.below q1))
 clear HB HS K1 q1 y0
 have y0 : w1.cell? ⟨w.heap.size, 1, none⟩ = some (.int .i64 a) := X1.out.c 1 rfl
 go_wp2_with fail
 refine (K2.out _).mono ?_
 rintro e w2 ⟨rfl, q2⟩
 have X2 := qH (X1.out.next q2)
 have S2 := qH (since_of (step_below S1.out.below q2))
 clear X1 S1 K2 q2 y0
 have y0 : w2.cell? ⟨w.heap.size, 2, none⟩ = some (.int .i64 b) := X2.out.c 2 rfl
 go_wp2_with fail
 refine (K3.out _).mono ?_
 rintro e w3 ⟨rfl, q3⟩
 have X3 := qH (X2.out.next q3)
 have S3 := qH (since_of (step_below S2.out.below q3))
 clear X2 S2 K3 q3 y0
 have y0 : w3.cell? ⟨w.heap.size, 3, none⟩ = some (.string r) := X3.out.c 3 rfl
 go_wp2_with fail
 refine (K4.out _).mono ?_
 rintro e w4 ⟨rfl, q4⟩
 have S4 := qH (since_of (step_below S3.out.below q4))
 clear X3 S3 K4 q4 y0
 have B5 := qH (Blk.new w4 42 #[.int .i64 f1, .int .i64 f2, .int .i64 f3, .int .i64 f4])
 have S5 := qH (show Since w (w4.alloc (.cells #[.int .i64 f1, .int .i64 f2, .int .i64 f3, .int .i64 f4] 42)) from since_of (S4.out.below.alloc S4.out.below.size _))
 clear S4
 go_wp2_with fail
 refine (O.out _ _ B5.out).mono ?_
 rintro e w6 ⟨rfl, q6⟩
 have S6 := qH (since_of (step_below S5.out.below q6.below))
 clear S5 B5 O q6
 by_cases ho : o = 0
 ·subst ho
  have hp := HP.out
  rw [if_neg (by simp)] at hp
  obtain ⟨rfl, rfl⟩ := Prod.mk.inj hp
  clear hp HP
  go_wp2
  go_ret2
  exact ⟨rfl, S6.out⟩
 ·have hb : (o != 0) = true := by rw [bne_iff_ne]; exact ho
  have hp := HP.out
  rw [if_pos ho] at hp
  obtain ⟨rfl, rfl⟩ := Prod.mk.inj hp
  clear hp HP ho
  go_wp2
  go_ret2
  exact ⟨rfl, S6.out⟩
theorem partC (h : Hdr) (w : World) : Calls qP 174 #[hdV h] w fun e w' => e = .returned (retSE (bodyOf h)) ∧ Since w w' := by
 have t1 := encText_len h.chain
 have t2 := encNum_len h.height
 have t3 := encNum_len h.time
 have t4 := encText_len h.root
 rw [body_or]
 exact part_this h.chain h.height h.time h.root h.mac _ _ _ _ _ _ _ _ _ w (by omega) (by omega) (by omega) (by omega) (qH fun W => wText _ W) (qH fun W => wNum _ W) (qH fun W => wNum _ W) (qH fun W => wText _ W) (qH fun W g hB => or4 _ _ _ _ _ W g hB)
def MsAt (f : List UInt8) (G : Nat) (w wr : World) : Prop := Blk wr G 272 (bv f) ∧ Below w.heap.size w wr ∧ Roots wr
theorem MsAt.next {f : List UInt8} {G : Nat} {w wr w' : World} (h : MsAt f G w wr) (hb : Below wr.heap.size wr w') : MsAt f G w w' := ⟨h.1.next hb, h.2.1.trans (hb.mono h.2.1.size), h.2.2.next hb⟩
theorem macSum_this (k s : ByteArray) (w : World) (hr : Roots w) (hk : k.size ≤ 1099511627776) (hs : s.size ≤ 1000000) (f m1 m2 q1 q2 : List UInt8) (h1 : mix 92 f = m1) (h2 : mix 54 f = m2)
  (h3 : shaOf (m2 ++ s.data.toList) = q1) (h4 : shaOf (m1 ++ q1) = q2) (hf : fill (keyOf k.data.toList) = f) :
  Calls qP 175 #[.string k, .string s] w fun e w' => e = .returned (.string (bs q2)) ∧ Below w.heap.size w w' := by
 have fl : f.length = 64 := by rw [← hf, fill_len _ (keyOf_len _)]
 have hs64 : (bv f).size = 64 := by rw [bv_size, fl]
 have R0 := qH (filled k w hr hk)
 rw [hf] at R0
 have l1 : m1.length = 64 := by rw [← h1, mix_len, fl]
 have l2 : m2.length = 64 := by rw [← h2, mix_len, fl]
 have l3 : q1.length = 32 := by rw [← h3, shaOf_len]
 have a1 : ∀ W : World, (Op.stringOp .add (bs m2) s).run qP W = .ok (.string (bs (m2 ++ s.data.toList))) W := fun W => by
  have h := run_add W m2 s.data.toList (by rw [size_list, l2]; omega)
  rwa [bs_of] at h
 have a2 : ∀ W : World, (Op.stringOp .add (bs m1) (bs q1)).run qP W = .ok (.string (bs (m1 ++ q1))) W := fun W => run_add W m1 q1 (by omega)
 have S1 := qH (fun (W : World) (hW : Roots W) => sum (bs (m2 ++ s.data.toList)) W hW (by rw [bs_size, List.length_append, l2, size_list]; omega))
 have S2 := qH (fun (W : World) (hW : Roots W) => sum (bs (m1 ++ q1)) W hW (by rw [bs_size, List.length_append, l1, l3]; omega))
 rw [bs_data, h3] at S1
 rw [bs_data, h4] at S2
 have st := store_new64 f fl
 rw [← zero64b] at st
 have HR := qH hr
 have FL := qH fl
 have H1 := qH h1
 have H2 := qH h2
 clear h1 h2 h3 h4 hf fl hr l1 l2 l3
 go_enter Tryz.func175, Tryz.ntmps175
 go_wp2_with fail
 refine R0.out.mono ?_
 rintro e w1 ⟨rfl, b1⟩
 have HM := qH (show MsAt f w1.heap.size w (w1.alloc (.cells (bv f) 272)) from ⟨Blk.new _ _ _, b1.alloc b1.size _, (HR.out.next b1).alloc _⟩)
 clear R0 HR b1
 have st1 := st w1
 clear st
 go_wp2_with fail
 clear st1 hs64
 generalize w1.alloc (.cells (bv f) 272) = w2 at *
 generalize w1.heap.size = G at *
 clear w1
 refine (masked f 92 G w2 FL.out HM.out.1 m1 H1).mono ?_
 rintro e w3 ⟨rfl, b3⟩
 replace HM := qH (HM.out.next b3)
 clear b3 H1
 go_wp2_with fail
 refine (masked f 54 G w3 FL.out HM.out.1 m2 H2).mono ?_
 rintro e w4 ⟨rfl, b4⟩
 replace HM := qH (HM.out.next b4)
 clear b4 H2
 go_wp2_with fail
 refine (S1.out w4 HM.out.2.2).mono ?_
 rintro e w5 ⟨rfl, b5⟩
 replace HM := qH (HM.out.next b5)
 clear b5 S1 a1
 go_wp2_with fail
 refine (S2.out w5 HM.out.2.2).mono ?_
 rintro e w6 ⟨rfl, b6⟩
 replace HM := qH (HM.out.next b6)
 clear b6 S2 a2
 go_wp2
 go_ret
 exact ⟨rfl, HM.out.2.1⟩
theorem macSum (k s : ByteArray) (w : World) (hr : Roots w) (hk : k.size ≤ 1099511627776) (hs : s.size ≤ 1000000) :
  Calls qP 175 #[.string k, .string s] w fun e w' => e = .returned (.string (bs (macOf k.data.toList s.data.toList))) ∧ Below w.heap.size w w' :=
 macSum_this k s w hr hk hs _ _ _ _ _ rfl rfl rfl rfl rfl
theorem gRoots : qP.globalNamed "footbridge/sha.roots" = some 2 := by kernel_rfl
theorem gRootsType : (qP.globals[2]?).map (·.type) = some 226 := by kernel_rfl
theorem cells32 : qP.cellsOf 188 = 1 := by kernel_rfl
theorem cellsRoots : qP.cellsOf 226 = 64 := by kernel_rfl
theorem getD_cast (l : List Nat) (i : Nat) : (l.map fun x : Nat => (x : Int)).getD i 0 = (nth l i : Int) := by
 unfold nth
 rw [List.getD_eq_getElem?_getD, List.getD_eq_getElem?_getD, List.getElem?_map]
 cases l[i]? <;> rfl
theorem Roots.since {w W : World} (h : Roots w) (k : Since w W) : Roots W := h.next k.below
theorem infoSl : (qP.info? 74).map (fun i => (i.zero, i.size, i.bytes)) = some (some (.slice none 0 0), 1, 24) := by kernel_rfl
def Pths (w : World) (v : Value) (L : List (List (List UInt8))) : Prop :=
 ∃ A cap, v = .slice A L.length cap ∧ L.length ≤ cap ∧ ∀ (i : Nat) q, L[i]? = some q → ∃ b off u, A = some ⟨b, off, none⟩ ∧ w.cell? ⟨b, off + i, none⟩ = some u ∧ Txs w w.heap.size u (bss q) ∧ Roomy u
section
variable {w w' : World} {v : Value} {L : List (List (List UInt8))}
theorem Pths.below (h : Pths w v L) (hb : Below w.heap.size w w') : Pths w' v L := by
 obtain ⟨A, cap, rfl, hl, hc⟩ := h
 refine ⟨A, cap, rfl, hl, fun i q hq => ?_⟩
 obtain ⟨b, off, u, rfl, h1, h2, h3⟩ := hc i q hq
 exact ⟨b, off, u, rfl, (since_of hb).cell h1, (h2.below hb).more hb.size, h3⟩
theorem Pths.nil (w : World) (A : Option Addr) (cap : Nat) : Pths w (.slice A 0 cap) [] := ⟨A, cap, rfl, Nat.zero_le _, fun i q h => by simp at h⟩
theorem pths_one {w : World} {g : Nat} {u : Value} {q : List (List UInt8)} (h : Blk w g 74 #[u]) (hT : Txs w w.heap.size u (bss q)) (hR : Roomy u) : Pths w (.slice (some ⟨g, 0, none⟩) 1 1) [q] := by
 refine ⟨_, 1, rfl, Nat.le_refl _, fun i q' hq => ?_⟩
 obtain ⟨hi, e⟩ := List.getElem?_eq_some_iff.1 hq
 obtain rfl : i = 0 := by simpa using hi
 obtain rfl : q = q' := by simpa using e
 exact ⟨g, 0, u, rfl, h.cell 0, hT, hR⟩
end
def OwnPths (B : Nat) (v : Value) (L : List (List (List UInt8))) (w : World) : Prop :=
 ∃ us : List Value, us.length = L.length ∧ w.ownsRow B 74 1 v L.length us ∧ B ≤ w.heap.size ∧ ∀ (i : Nat) u q, us[i]? = some u → L[i]? = some q → Txs w w.heap.size u (bss q) ∧ Roomy u ∧ ∀ g, u.ownBlock = some g → B ≤ g ∧ g < w.heap.size ∧ some g ≠ v.ownBlock
section
variable {B : Nat} {v : Value} {L : List (List (List UInt8))} {w w' : World}
theorem OwnPths.nil (hB : B ≤ w.heap.size) : OwnPths B (.slice none 0 0) [] w := ⟨[], rfl, World.ownsRow_nil _ _ _ _, hB, fun i u q h => by simp at h⟩
theorem OwnPths.lt (h : OwnPths B v L w) : ∀ g, v.ownBlock = some g → B ≤ g ∧ g < w.heap.size := by
 obtain ⟨us, _, h1, _⟩ := h
 exact h1.lt
theorem OwnPths.keep (h : OwnPths B v L w) (hs : w.heap.size ≤ w'.heap.size) (hk : ∀ g, B ≤ g → g < w.heap.size → w'.heap[g]? = w.heap[g]?) : OwnPths B v L w' := by
 obtain ⟨us, h0, h1, h2, h3⟩ := h
 refine ⟨us, h0, ?_, Nat.le_trans h2 hs, fun i u q hu hq => ?_⟩
 ·refine ⟨h1.1, ?_⟩
  rcases h1.2 with hn | ⟨g, cap, cur, e1, e2, e3, rest⟩
  ·exact .inl hn
  ·refine .inr ⟨g, cap, cur, e1, e2, ?_, rest⟩
   rw [hk g e2 (h1.lt g (by rw [e1]; rfl)).2]
   exact e3
 ·obtain ⟨hT, hR, hg⟩ := h3 i u q hu hq
  exact ⟨(hT.moved fun g hb => hk g (hg g hb).1 (hg g hb).2.1).more hs, hR, fun g hb => ⟨(hg g hb).1, Nat.lt_of_lt_of_le (hg g hb).2.1 hs, (hg g hb).2.2⟩⟩
theorem OwnPths.after (h : OwnPths B v L w) (k : Below w.heap.size w w') : OwnPths B v L w' := h.keep k.size fun g _ hg => k.block g hg
theorem OwnPths.alloc (h : OwnPths B v L w) (o : Obj) : OwnPths B v L (w.alloc o) := h.after ((Below.refl _ _).alloc (Nat.le_refl _) _)
theorem OwnPths.set_ (h : OwnPths B v L w) (p : Addr) (hp : p.block < B) (u : Value) : OwnPths B v L (w.setCell p u) :=
 h.keep (by simp [World.setCell]) fun g hg _ => Below.heap_setCell w p u g (by omega)
theorem OwnPths.grown (h : OwnPths B v L w) {b : Nat} (k : w.grownBy w' (some b)) (hb : b < B) : OwnPths B v L w' := h.keep k.size fun g hg hlt => k.block g hlt (by intro e; injection e with e; omega)
theorem OwnPths.drewN (h : OwnPths B v L w) (n : Nat) : OwnPths B v L (w.drewN n) := h.after (quiet_below w n)
theorem OwnPths.drew (h : OwnPths B v L w) : OwnPths B v L w.drew := h.drewN 1
theorem OwnPths.pths (h : OwnPths B v L w) : Pths w v L := by
 obtain ⟨us, h0, h1, _, h3⟩ := h
 rcases h1.2 with ⟨rfl, hn⟩ | ⟨g, cap, cur, rfl, hb, hg, hc, _⟩
 ·obtain rfl : L = [] := List.eq_nil_of_length_eq_zero hn
  exact Pths.nil _ _ _
 ·refine ⟨some ⟨g, 0, none⟩, cap, rfl, hc, fun i q hq => ?_⟩
  have hi : i < us.length := by rw [h0]; exact (List.getElem?_eq_some_iff.1 hq).1
  have hu : us[i]? = some us[i] := List.getElem?_eq_getElem hi
  have := h1.cells (g := g) rfl i _ hu
  rw [show (⟨g, 0, none⟩ : Addr).add i = ⟨g, 0 + i, none⟩ by unfold Addr.add; split <;> simp_all] at this
  exact ⟨g, 0, _, rfl, this, (h3 i _ q hu hq).1, (h3 i _ q hu hq).2.1⟩
theorem OwnPths.more {u v' : Value} {q : List (List UInt8)} {us : List Value} (h0 : us.length = L.length) (h3 : ∀ (i : Nat) u q, us[i]? = some u → L[i]? = some q → Txs w w.heap.size u (bss q) ∧ Roomy u ∧ ∀ g, u.ownBlock = some g → B ≤ g ∧ g < w.heap.size ∧ some g ≠ v.ownBlock)
  (hT : Txs w w.heap.size u (bss q)) (hR : Roomy u) (hu : ∀ g, u.ownBlock = some g → B ≤ g ∧ g < w.heap.size ∧ some g ≠ v.ownBlock) (hown : w'.ownsRow B 74 1 v' (L.length + 1) (us ++ [u])) (hB : B ≤ w'.heap.size) (hg : w.grownBy w' v.ownBlock) (hat : v'.ownBlock = v.ownBlock ∨ ∃ g, v'.ownBlock = some g ∧ w.heap.size ≤ g) :
  OwnPths B v' (L ++ [q]) w' := by
 have key : ∀ (u : Value) (q : List (List UInt8)), (Txs w w.heap.size u (bss q) ∧ Roomy u ∧ ∀ g, u.ownBlock = some g → B ≤ g ∧ g < w.heap.size ∧ some g ≠ v.ownBlock) → Txs w' w'.heap.size u (bss q) ∧ Roomy u ∧ ∀ g, u.ownBlock = some g → B ≤ g ∧ g < w'.heap.size ∧ some g ≠ v'.ownBlock := by
  rintro u q ⟨k1, k0, k2⟩
  refine ⟨(k1.moved fun g hb => hg.block g (k2 g hb).2.1 (k2 g hb).2.2).more hg.size, k0, fun g hb => ⟨(k2 g hb).1, Nat.lt_of_lt_of_le (k2 g hb).2.1 hg.size, ?_⟩⟩
  rcases hat with e | ⟨g', e, hge⟩
  ·rw [e]; exact (k2 g hb).2.2
  ·rw [e]
   intro e2
   injection e2 with e2
   have := (k2 g hb).2.1
   omega
 refine ⟨us ++ [u], by rw [List.length_append, List.length_append, h0]; rfl, by rw [List.length_append]; exact hown, hB, fun i u' q' hu' hq' => ?_⟩
 by_cases hi : i < us.length
 ·rw [List.getElem?_append_left hi] at hu'
  rw [List.getElem?_append_left (by omega)] at hq'
  exact key u' q' (h3 i u' q' hu' hq')
 ·rw [List.getElem?_append_right (by omega)] at hu' hq'
  by_cases hz : i - us.length = 0
  ·rw [hz] at hu'
   rw [show i - L.length = 0 by omega] at hq'
   simp only [List.getElem?_cons_zero, Option.some.injEq] at hu' hq'
   subst hu' hq'
   exact key u q ⟨hT, hR, hu⟩
  ·rw [List.getElem?_eq_none (by simp; omega)] at hu'
   cases hu'
end
def Prf (w : World) (v : Value) (x : Pf) : Prop := ∃ nv pv, v = .agg #[.int .i64 x.n, .int .i64 x.pos, .bool x.there, nv, pv] ∧ Prs w nv x.near ∧ Pths w pv x.paths
def FreshP (B : Nat) (v : Value) : Prop := ∀ a b c nv pv, v = .agg #[a, b, c, nv, pv] → ∀ g, pv.ownBlock = some g → B ≤ g
theorem FreshP.of {B : Nat} {a b c nv pv : Value} (h : ∀ g, pv.ownBlock = some g → B ≤ g) : FreshP B (.agg #[a, b, c, nv, pv]) := fun _ _ _ _ _ e g hg => by
 simp only [Value.agg.injEq, Array.mk.injEq, List.cons.injEq, and_true] at e
 obtain ⟨_, _, _, _, rfl⟩ := e
 exact h g hg
theorem FreshP.nil {B n k : Nat} {a b c nv : Value} : FreshP B (.agg #[a, b, c, nv, .slice none n k]) := FreshP.of fun g hg => by simp [Value.ownBlock] at hg
theorem Prf.below {w w' : World} {v : Value} {x : Pf} (h : Prf w v x) (hb : Below w.heap.size w w') : Prf w' v x := by
 obtain ⟨nv, pv, rfl, h1, h2⟩ := h
 exact ⟨nv, pv, rfl, h1.below hb, h2.below hb⟩
theorem Prf.zero (w : World) : Prf w (.agg #[.int .i64 0, .int .i64 0, .bool false, .slice none 0 0, .slice none 0 0]) Pf.zero := ⟨_, _, rfl, Prs.nil _ _ _, Pths.nil _ _ _⟩
section
variable {w : World} {A : Option Addr} {cap : Nat} {l : List KV}
end
end Go.Proofs.YtkejaepmoabikaaGreatDoor.W
namespace Go.Proofs.YtkejaepmoabikaaGreatDoor.W
open Go.ChangeShapes Go.WideShapes Go.ChangeAt Go.RowKit
open _root_.Go.Proofs.Tryz renaming prog → qP
theorem own : ownKnob qP.godebug = none := by kernel_rfl
theorem laidOut : laidOutB qP = true := by kernel_rfl
theorem trodAll_under {H : Type} {enc : TypeId × Value → H} {P : Program} (hl : laidOutB P = true) {W W' : World} (hb : Below W.heap.size W W') (ts : List TypeId) : ∀ (vs : List Value) (ds : List (DataW H)) (p : List MemPlace),
  (ts.all fun t => P.readableRec t && decide (t < P.types.size)) = true → DataW.TrodAll enc P W 0 (fun _ => true) true ts vs ds p → DataW.TrodAll enc P W' 0 (fun b => decide (b < W.heap.size)) true ts vs ds p := by
 induction ts with
 | nil =>
  intro vs ds p _ h
  obtain ⟨rfl, rfl, rfl⟩ := trodAll_nil h
  exact trodAll_mk0
 | cons t ts ih =>
  intro vs ds p hr h
  rw [List.all_cons, Bool.and_eq_true, Bool.and_eq_true, decide_eq_true_eq] at hr
  obtain ⟨v0, vs0, d0, ds0, p0, q0, rfl, rfl, rfl, h0, r0⟩ := trodAll_cons h
  have lt0 : ∀ x ∈ p0, x.block < W.heap.size := by obtain ⟨m, hm⟩ := h0; exact DataW.trod_lt m _ _ _ hm
  exact trodAll_cons_mk (Below.trod hl hr.1.1 hr.1.2 h0 hb lt0) (ih vs0 ds0 q0 hr.2 r0)
theorem plain_addr {W : World} {a : Addr} {v : Value} (h : W.cell? (a.add 0) = some v) : ∃ b off, a = ⟨b, off, none⟩ := by
 obtain ⟨b, off, spot⟩ := a
 have hspot : spot = none := by simpa [Addr.add] using World.cell?_spot h
 subst hspot
 exact ⟨b, off, rfl⟩
theorem add_plain (b off i : Nat) : (⟨b, off, none⟩ : Addr).add i = ⟨b, off + i, none⟩ := by unfold Addr.add; split <;> simp_all
end Go.Proofs.YtkejaepmoabikaaGreatDoor.W
namespace Go.Proofs.YtkejaepmoabikaaGreatDoor.W
open Go.RowKit
theorem own_kept {w w' : World} {B k n : Nat} {e : TypeId} {v : Value} {xs : List Value} (h : w.ownsRow B e k v n xs) (hb : Below w.heap.size w w') : w'.ownsRow B e k v n xs :=
 h.kept (row := none) ⟨hb.os, hb.tape, hb.output, hb.size, fun i hi _ => hb.block i hi⟩ (by cases hv : v.ownBlock <;> simp)
theorem own_formP {w : World} {B k n : Nat} {e : TypeId} {v : Value} {xs : List Value} (h : w.ownsRow B e k v n xs) : ∃ A cap, v = .slice A n cap ∧ n ≤ cap := by
 rcases h.2 with ⟨rfl, rfl⟩ | ⟨g, cap, cur, rfl, _, _, hc, _⟩
 ·exact ⟨none, 0, rfl, Nat.le_refl _⟩
 ·exact ⟨_, _, rfl, hc⟩
end Go.Proofs.YtkejaepmoabikaaGreatDoor.W
namespace Go.Proofs.YtkejaepmoabikaaGreatDoor.W
open Go.ChangeShapes Go.WideShapes Go.ChangeAt Go.RowKit Go.Deep
section
variable {H : Type} {enc : TypeId × Value → H} {P : Program} {w : World} {held : Bool}
theorem open_recs {t e : TypeId} {fs : Array Field} {A : Option Addr} {len cap : Nat} {d : DataW H} {p : List MemPlace} (ht : P.underlying t = some (.slice e)) (he : P.underlying e = some (.struct fs)) (hone : oneCellFields P fs = true) (hC : P.cellsOf e = fs.size) (h0 : 0 < fs.size)
  (h : DataW.Trod enc P w 0 (fun _ => true) held t (.slice A len cap) d p) :
  len ≤ cap ∧ len ≤ maxLen ∧ ∀ i, i < len → ∃ b off, A = some ⟨b, off, none⟩ ∧ ∀ (j : Nat) (f : Field), fs[j]? = some f → ∃ v n y, w.cell? ⟨b, off + (i * fs.size + j), none⟩ = some v ∧ DataW.trod enc P w 0 (fun _ => true) held n f.type [v] = some y := by
 obtain ⟨fuel, hf⟩ := h
 rcases open_slice ht hf with ⟨hcs, _⟩ | ⟨a, l, c, m, n, D, Pl, hcs, _, hl, hm, hmm, _, hx⟩
 ·simp [Value.cells] at hcs
  obtain ⟨rfl, rfl, rfl⟩ := hcs
  exact ⟨Nat.le_refl _, Nat.zero_le _, fun i hi => absurd hi (by omega)⟩
 ·simp [Value.cells] at hcs
  obtain ⟨rfl, rfl, rfl⟩ := hcs
  simp only [if_true] at hmm
  subst hmm
  refine ⟨hl, by omega, fun i hi => ?_⟩
  obtain ⟨cs, hc, hs⟩ := hx i (by omega)
  obtain ⟨ys, n', _, _, hlen, hyl, hfs⟩ := DataW.trod_struct he hs
  obtain ⟨_, _, hat⟩ := World.cells?_some hc
  rw [hC] at hat hlen
  have hp : ∃ b off, a = ⟨b, off, none⟩ := by
   obtain ⟨cs0, hc0, _⟩ := hx 0 (by omega)
   obtain ⟨_, hl0, hat0⟩ := World.cells?_some hc0
   rw [hC] at hat0 hl0
   have h1 := hat0 0 h0
   rw [List.getElem?_eq_getElem (by omega), add_add, show 0 * fs.size + 0 = 0 by omega] at h1
   exact plain_addr h1
  obtain ⟨b, off, rfl⟩ := hp
  refine ⟨b, off, rfl, fun j f hj => ?_⟩
  have hjl : j < fs.size := (Array.getElem?_eq_some_iff.1 hj).1
  obtain ⟨ho, hk⟩ := hone_of hone j f hj
  have hrd := hfs j f hj
  rw [ho, hk, show (cs.drop j).take 1 = [cs[j]'(by omega)] by rw [List.drop_eq_getElem_cons (by omega)]; rfl, List.getElem?_eq_getElem (by omega)] at hrd
  have h1 := hat j hjl
  rw [List.getElem?_eq_getElem (by omega), add_add, add_plain] at h1
  exact ⟨_, _, _, h1, hrd⟩
end
end Go.Proofs.YtkejaepmoabikaaGreatDoor.W
namespace Go.Proofs.YtkejaepmoabikaaGreatDoor.W
open List renaming getElem_cons_zero → qC
theorem list_of {α : Type} (n : Nat) (Q : Nat → α → Prop) (h : ∀ i, i < n → ∃ x, Q i x) : ∃ l : List α, l.length = n ∧ ∀ i (hi : i < l.length), Q i l[i] := by
 induction n with
 | zero => exact ⟨[], rfl, fun i hi => absurd hi (by simp)⟩
 | succ n ih =>
  obtain ⟨l, hl, hq⟩ := ih (fun i hi => h i (by omega))
  obtain ⟨x, hx⟩ := h n (by omega)
  refine ⟨l ++ [x], by simp [hl], fun i hi => ?_⟩
  by_cases e : i < l.length
  ·rw [List.getElem_append_left e]; exact hq i e
  ·have : i = l.length := by simp at hi; omega
   subst this
   rw [List.getElem_append_right (by omega)]
   simp only [Nat.sub_self, qC]
   rw [hl]
   exact hx
end Go.Proofs.YtkejaepmoabikaaGreatDoor.W
namespace Go.Proofs.YtkejaepmoabikaaGreatDoor.W
open Go.ChangeShapes Go.WideShapes Go.ChangeAt Go.RowKit Go.Deep
open _root_.Go.Proofs.Tryz renaming prog → qP
noncomputable def pairFields : Array Field := match qP.underlying 36 with
 | some (.struct fs) => fs
 | _ => #[]
theorem pair_und : qP.underlying 36 = some (.struct pairFields) := by kernel_rfl
section
variable {H : Type} {enc : TypeId × Value → H} {w : World} {held : Bool}
theorem open_prs {A : Option Addr} {len cap : Nat} {d : DataW H} {p : List MemPlace} (h : DataW.Trod enc qP w 0 (fun _ => true) held 22 (.slice A len cap) d p) :
  ∃ l : List KV, Prs w (.slice A len cap) l ∧ l.length ≤ maxLen := by
 obtain ⟨hc, hm, hr⟩ := open_recs Tryz.underlying22 pair_und (by kernel_rfl) (by kernel_rfl) (by rw [show pairFields.size = 2 by kernel_rfl]; decide) h
 rw [show pairFields.size = 2 by kernel_rfl] at hr
 obtain ⟨l, hl, hq⟩ := list_of len (fun i (x : KV) => ∃ b off, A = some ⟨b, off, none⟩ ∧ w.cell? ⟨b, off + i * 2, none⟩ = some (.string x.1) ∧ w.cell? ⟨b, off + i * 2 + 1, none⟩ = some (.string x.2)) (fun i hi => by
  obtain ⟨b, off, rfl, hf⟩ := hr i hi
  obtain ⟨f0, e0, t0⟩ : ∃ f : Field, pairFields[0]? = some f ∧ qP.underlying f.type = some .string := ⟨(pairFields[0]?).getD default, by kernel_rfl, by kernel_rfl⟩
  obtain ⟨f1, e1, t1⟩ : ∃ f : Field, pairFields[1]? = some f ∧ qP.underlying f.type = some .string := ⟨(pairFields[1]?).getD default, by kernel_rfl, by kernel_rfl⟩
  obtain ⟨v0, n0, y0, c0, r0⟩ := hf 0 f0 e0
  obtain ⟨v1, n1, y1, c1, r1⟩ := hf 1 f1 e1
  obtain ⟨a0, q0, _, _⟩ := DataW.trod_string t0 r0
  obtain ⟨a1, q1, _, _⟩ := DataW.trod_string t1 r1
  cases q0
  cases q1
  exact ⟨(a0, a1), b, off, rfl, c0, by rw [Nat.add_assoc]; exact c1⟩)
 subst hl
 exact ⟨l, ⟨A, cap, rfl, hc, hq⟩, hm⟩
end
end Go.Proofs.YtkejaepmoabikaaGreatDoor.W
namespace Go.Proofs.YtkejaepmoabikaaGreatDoor.W
open Go.ChangeShapes Go.WideShapes Go.ChangeAt Go.RowKit
section
variable {H : Type} {enc : TypeId × Value → H} {P : Program} {w : World} {held : Bool}
end
end Go.Proofs.YtkejaepmoabikaaGreatDoor.W
namespace Go.Proofs.YtkejaepmoabikaaGreatDoor.W
open Go.ChangeShapes Go.WideShapes Go.ChangeAt Go.RowKit Go.Deep
set_option maxRecDepth 100000
section
variable {H : Type} {enc : TypeId × Value → H} {w : World} {held : Bool}
structure PfIn (x : Pf) : Prop where
 n0 : -9223372036854775808 ≤ x.n
 n1 : x.n ≤ 9223372036854775807
 p0 : -9223372036854775808 ≤ x.pos
 p1 : x.pos ≤ 9223372036854775807
 ln : x.near.length ≤ maxLen
 lp : x.paths.length ≤ maxLen
end
end Go.Proofs.YtkejaepmoabikaaGreatDoor.W
namespace Go.Proofs.YtkejaepmoabikaaGreatDoor.W
open Go.RowKit
open Lib renaming hid → qH
open _root_.Go.Proofs.Tryz renaming prog → qP
set_option maxHeartbeats 2000000
set_option maxRecDepth 100000
theorem only_grown {a b c : World} {r row : Option Nat} (h : a.grownBy b r) (k : b.grownBy c row) (hr : ∀ i, row = some i → a.heap.size ≤ i) : a.grownBy c r :=
 ⟨k.os.trans h.os, k.tape.trans h.tape, k.output.trans h.output, Nat.le_trans h.size k.size, fun i hi hne => (k.block i (Nat.lt_of_lt_of_le hi h.size) (fun e => by have := hr i e.symm; omega)).trans (h.block i hi hne)⟩
theorem only_alloc {a b : World} {r : Option Nat} (h : a.grownBy b r) (o : Obj) : a.grownBy (b.alloc o) r := only_trans h (World.grownBy_alloc b o r)
def LRel (w : World) (b n : Nat) (s1 : ByteArray) (j : Nat) (v : Value) (wr : World) : Prop :=
 ∃ sj acc, listFrom n s1 [] = listFrom (n - j) sj acc ∧ acc.length = j ∧ sj.size ≤ 9223372036854775807 ∧ RdAt wr b sj 0 ∧ wr.ownsRow w.heap.size 9 1 v j (strVals acc) ∧ w.grownBy wr (some b)
def ListPost (w : World) (b : Nat) (r : (ByteArray × Int) × List ByteArray) (en : Ending) (w' : World) : Prop :=
 ∃ v, en = .returned v ∧ Txs w' w'.heap.size v r.2 ∧ RdAt w' b r.1.1 r.1.2 ∧ w.grownBy w' (some b)
def ListOwn (w : World) (b : Nat) (r : (ByteArray × Int) × List ByteArray) (en : Ending) (w' : World) : Prop :=
 ∃ v, en = .returned v ∧ Txs w' w'.heap.size v r.2 ∧ (∀ g, v.ownBlock = some g → w.heap.size ≤ g ∧ g < w'.heap.size) ∧ Roomy v ∧ RdAt w' b r.1.1 r.1.2 ∧ w.grownBy w' (some b)
theorem ListOwn.post {w w' : World} {b : Nat} {r : (ByteArray × Int) × List ByteArray} {en : Ending} (h : ListOwn w b r en w') : ListPost w b r en w' := by
 obtain ⟨v, h1, h2, _, _, h3⟩ := h
 exact ⟨v, h1, h2, h3⟩
theorem listOwnAt (b : Nat) (s : ByteArray) (e : Int) (w : World) (h : RdAt w b s e) (hm : s.size ≤ 9223372036854775807) :
  Calls qP 149 #[.pointer (some ⟨b, 0, none⟩)] w (ListOwn w b (stList s e)) := by
 obtain ⟨i0, hi, hz0, hz1, hz2⟩ := info_parts infoStr
 have HN := qH (lenAt b s e 256 w h hm)
 have hb := Blk.lt h
 have HS := qH (show stList s e = (if (stLen s e 256).1.2 ≠ 0 then ((stLen s e 256).1, []) else listFrom (stLen s e 256).2 (stLen s e 256).1.1 []) from rfl)
 have hf := stLen_facts s e 256
 have hz := stLen_zero s e 256
 obtain ⟨⟨⟨s1, e1⟩, n⟩, hd⟩ : ∃ r, stLen s e 256 = r := ⟨_, rfl⟩
 rw [hd] at HN HS hf hz
 clear hd
 simp only at hf hz
 by_cases he : e1 = 0
 ·subst he
  clear hz
  have HS1 := qH (HS.out.trans (if_neg (by simp)))
  clear HS
  go_enter Tryz.func149, Tryz.ntmps149
  go_wp2_with fail
  refine HN.out.mono ?_
  rintro e w1 ⟨rfl, hR, hg⟩
  have HR := qH (show LRel w b n s1 0 (.slice none 0 0) w1 from ⟨s1, [], rfl, rfl, by omega, hR, World.ownsRow_nil _ _ _ _, hg⟩)
  clear hR hg
  go_wp2
  go_loopw [4, 8] (fun v i wr => ∃ j : Nat, j ≤ n ∧ i = .int .i64 j ∧ LRel w b n s1 j v wr) (fun _ i _ => n - (intOf i).toNat)
  case atStart => exact ⟨0, Nat.zero_le _, rfl, HR.out⟩
  case round =>
   obtain ⟨j, hj, rfl, sj, acc, hl, hlen, hsz, hRj, hown, hgj⟩ := hrel
   have HL := qH hl
   have HLen := qH hlen
   clear hl hlen
   by_cases hlt : j < n
   ·have HT := qH (textAt b sj 0 wr hRj hsz)
    have HLS := qH (show listFrom (n - j) sj acc = if (stText sj 0).1.2 ≠ 0 then ((stText sj 0).1, []) else listFrom (n - (j + 1)) (stText sj 0).1.1 (acc ++ [(stText sj 0).2]) by
     rw [show n - j = (n - (j + 1)) + 1 by omega]; rfl)
    have htf := stText_facts sj 0
    obtain ⟨⟨⟨s2, e2⟩, t2⟩, hd2⟩ : ∃ r, stText sj 0 = r := ⟨_, rfl⟩
    rw [hd2] at HT HLS htf
    clear hd2
    go_wp2_with fail
    refine HT.out.mono ?_
    rintro e w2 ⟨rfl, hR2, hg2⟩
    have hnb : u4.ownBlock ≠ some b := fun e => by have := (hown.lt b e).1; omega
    have hown2 := hown.kept hg2 (.inr hnb)
    have hsz2 := Nat.le_trans hgj.size hg2.size
    go_wp2_with (at_builtin; go_must (refine wpList_append_own _ rfl _ _ 74 rfl w.heap.size 9 i0 (.string .empty) 1 16 Tryz.underlying74 hi hz0 hz1 hz2 rfl (by decide) u4 j (strVals acc) rfl (hown2.alloc _) ⟨w2.heap.size, 0, none⟩ 1 1 [.string t2] rfl rfl ?c1 ?c2 ?c3 ?c4 ?c5 ?_))
    case c1 =>
     intro k u hk
     match k, hk with
     | 0, hk => simp at hk; subst hk; simp [Addr.add]
     | k + 1, hk => simp at hk
    case c2 => intro u hu; simp at hu; subst hu; rfl
    case c3 => unfold maxLen; omega
    case c4 => omega
    case c5 => simp; omega
    intro v3 w3 hown3 hgrow3 _
    have hrow : ∀ i, u4.ownBlock = some i → w.heap.size ≤ i := fun i hi => (hown.lt i hi).1
    have hR3 : RdAt w3 b s2 e2 := Blk.grown (Blk.alloc hR2 _) hgrow3 (fun e => hnb e.symm)
    have hg3 := only_grown (only_alloc (only_trans hgj hg2) _) hgrow3 hrow
    have hown4 : w3.ownsRow w.heap.size 9 1 v3 (j + 1) (strVals (acc ++ [t2])) := by simpa [strVals] using hown3
    clear hown3 hgrow3 hR2 hown hown2 hg2
    by_cases he2 : e2 = 0
    ·subst he2
     have HL2 := qH (HL.out.trans (HLS.out.trans (if_neg (by simp))))
     clear HL HLS HT
     go_wp2_with fail
     refine (errAt b s2 0 w3 hR3).mono ?_
     rintro e w4 ⟨rfl, rfl⟩
     go_wp2
     go_roundw
     case rel => exact ⟨j + 1, by omega, by go_num, s2, acc ++ [t2], HL2.out, by rw [List.length_append, HLen.out]; rfl, Nat.le_trans htf.1 hsz, hR3, hown4, hg3⟩
     case measure => simp [intOf]; omega
    ·have hne : (e2 != 0) = true := by rw [bne_iff_ne]; exact he2
     have HL2 := qH (HS1.out.trans (HL.out.trans (HLS.out.trans (if_pos he2))))
     clear HL HLS HT
     go_wp2_with fail
     refine (errAt b s2 e2 w3 hR3).mono ?_
     rintro e w4 ⟨rfl, rfl⟩
     go_wp2
     go_ret
     rw [HL2.out]
     exact ⟨_, rfl, Txs.nil _ _ _ _, (fun g hg => by cases hg), roomy_nil, hR3, hg3⟩
   ·obtain rfl : j = n := by omega
    have HL2 := qH (show stList s e = ((sj, 0), acc) by rw [HS1.out, HL.out, Nat.sub_self]; rfl)
    go_wp2
    go_ret
    rw [HL2.out]
    refine ⟨_, rfl, Txs.of_own (base := w.heap.size) ?_, hown.lt, own_roomy hown, hRj, hgj⟩
    rw [HLen.out]
    exact hown
 ·have HS1 := qH (HS.out.trans (if_pos he))
  clear HS
  obtain rfl : n = 0 := hz he
  go_enter Tryz.func149, Tryz.ntmps149
  go_wp2_with fail
  refine HN.out.mono ?_
  rintro e w1 ⟨rfl, hR, hg⟩
  go_wp2
  go_rounds 1
  go_ret
  rw [HS1.out]
  exact ⟨_, rfl, Txs.nil _ _ _ _, (fun g hg => by cases hg), roomy_nil, hR, hg⟩
section
variable {V V' : World} {v : Value} {b B : Nat}
theorem cell_kept (hk : ∀ g, g ≠ b → V'.heap[g]? = V.heap[g]?) {p : Addr} (hp : p.block ≠ b) {u : Value} (h : V.cell? p = some u) : V'.cell? p = some u :=
 (World.cell?_of_block (w := V) (hk p.block hp)).trans h
theorem Txs.kept_by {C : Nat} {ss : List ByteArray} (h : Txs V C v ss) (hk : ∀ g, g ≠ b → V'.heap[g]? = V.heap[g]?) (hs : ∀ off s, V.cell? ⟨b, off, none⟩ ≠ some (.string s)) : Txs V' C v ss := by
 obtain ⟨A, cap, rfl, hc⟩ := h
 refine ⟨A, cap, rfl, fun i hi => ?_⟩
 obtain ⟨g, off, rfl, hl, h1⟩ := hc i hi
 refine ⟨g, off, rfl, hl, cell_kept hk (p := ⟨g, off + i, none⟩) (fun e => ?_) h1⟩
 simp only at e
 subst e
 exact hs _ _ h1
theorem Prs.kept_by {l : List KV} (h : Prs V v l) (hk : ∀ g, g ≠ b → V'.heap[g]? = V.heap[g]?) (hs : ∀ off s, V.cell? ⟨b, off, none⟩ ≠ some (.string s)) : Prs V' v l := by
 obtain ⟨A, cap, rfl, hl, hc⟩ := h
 refine ⟨A, cap, rfl, hl, fun i hi => ?_⟩
 obtain ⟨g, off, rfl, h1, h2⟩ := hc i hi
 have hg : g ≠ b := fun e => by subst e; exact hs _ _ h1
 exact ⟨g, off, rfl, cell_kept hk (p := ⟨g, off + i * 2, none⟩) hg h1, cell_kept hk (p := ⟨g, off + i * 2 + 1, none⟩) hg h2⟩
theorem Pths.kept_by {L : List (List (List UInt8))} (h : Pths V v L) (hz : V'.heap.size = V.heap.size) (hg : ∀ g, v.ownBlock = some g → g ≠ b) (hk : ∀ g, g ≠ b → V'.heap[g]? = V.heap[g]?) (hs : ∀ off s, V.cell? ⟨b, off, none⟩ ≠ some (.string s)) : Pths V' v L := by
 obtain ⟨A, cap, rfl, hl, hc⟩ := h
 refine ⟨A, cap, rfl, hl, fun i q hq => ?_⟩
 obtain ⟨g, off, u, rfl, h1, h2, h3⟩ := hc i q hq
 refine ⟨g, off, u, rfl, cell_kept hk (p := ⟨g, off + i, none⟩) (hg g rfl) h1, ?_, h3⟩
 rw [hz]
 exact h2.kept_by hk hs
theorem Prf.kept5 {x : Pf} {t : TypeId} {n pos : Int} {th : Bool} {A1 A2 : Option Addr} {m1 k1 m2 k2 : Nat} (h : Prf V v x) (hF : FreshP B v) (hb : b < B) (hB : Blk V b t #[.int .i64 n, .int .i64 pos, .bool th, .slice A1 m1 k1, .slice A2 m2 k2]) (v0 v1 v2 v3 v4 : Value) :
  Prf (((((V.setCell ⟨b, 0, none⟩ v0).setCell ⟨b, 1, none⟩ v1).setCell ⟨b, 2, none⟩ v2).setCell ⟨b, 3, none⟩ v3).setCell ⟨b, 4, none⟩ v4) v x := by
 have hk : ∀ g, g ≠ b → (((((V.setCell ⟨b, 0, none⟩ v0).setCell ⟨b, 1, none⟩ v1).setCell ⟨b, 2, none⟩ v2).setCell ⟨b, 3, none⟩ v3).setCell ⟨b, 4, none⟩ v4).heap[g]? = V.heap[g]? := fun g hg => heap_put5 V hg v0 v1 v2 v3 v4
 have hs : ∀ off s, V.cell? ⟨b, off, none⟩ ≠ some (.string s) := fun off s e => by
  have h1 := (hB.cell off).symm.trans e
  match off, h1 with
  | 0, h1 => simp at h1
  | 1, h1 => simp at h1
  | 2, h1 => simp at h1
  | 3, h1 => simp at h1
  | 4, h1 => simp at h1
  | k + 5, h1 => simp at h1
 obtain ⟨nv, pv, rfl, h1, h2⟩ := h
 exact ⟨nv, pv, rfl, h1.kept_by hk hs, h2.kept_by (by simp [World.setCell]) (fun g hg => by have := hF _ _ _ _ _ rfl g hg; omega) hk hs⟩
end
theorem prf_drew {w : World} {v : Value} {x : Pf} (h : Prf w v x) : Prf w.drew v x := h.below ((Below.refl _ w).drew)
def RLPost (w : World) (r : (ByteArray × Int) × List ByteArray) (en : Ending) (w' : World) : Prop :=
 ∃ s' v, en = .returned (.tuple #[rV s' r.1.2, v]) ∧ (r.1.2 = 0 → s' = r.1.1) ∧ s'.size ≤ 9223372036854775807 ∧ Txs w' w'.heap.size v r.2 ∧ (∀ k, v.ownBlock = some k → w.heap.size ≤ k) ∧ Below w.heap.size w w'
def RLOwn (w : World) (r : (ByteArray × Int) × List ByteArray) (en : Ending) (w' : World) : Prop :=
 ∃ s' v, en = .returned (.tuple #[rV s' r.1.2, v]) ∧ (r.1.2 = 0 → s' = r.1.1) ∧ s'.size ≤ 9223372036854775807 ∧ Txs w' w'.heap.size v r.2 ∧ (∀ k, v.ownBlock = some k → w.heap.size ≤ k ∧ k < w'.heap.size) ∧ Roomy v ∧ Below w.heap.size w w'
theorem RLOwn.post {w w' : World} {r : (ByteArray × Int) × List ByteArray} {en : Ending} (h : RLOwn w r en w') : RLPost w r en w' := by
 obtain ⟨s', v, h1, h2, h3, h4, h5, _, h6⟩ := h
 exact ⟨s', v, h1, h2, h3, h4, fun k hk => (h5 k hk).1, h6⟩
theorem lenKC (x : Int) (w : World) (h0 : 0 ≤ x) (h1 : x ≤ 18446744073709551615) :
  Calls qP 206 #[.int .u64 x] w fun e w' => e = .returned (.int .i64 (Lib.bitLen x.toNat)) ∧ w = w' := by
 have K := qH (len64 x w h0 h1)
 go_enter Tryz.func206, Tryz.ntmps206
 go_wp2_with fail
 refine K.out.mono ?_
 rintro e w1 ⟨rfl, rfl⟩
 go_wp2
 go_ret
 exact ⟨rfl, rfl⟩
theorem wrap_pow (k s : Nat) (hk : k ≤ 62) (hs : 2 ^ k = s) : wrap64 ((2 : Int) ^ k) = (s : Int) := by
 have h1 : 2 ^ k ≤ 2 ^ 62 := Nat.pow_le_pow_right (by decide) hk
 have h2 : ((2 ^ k : Nat) : Int) = (2 : Int) ^ k := by simp
 rw [← h2, hs]
 rw [hs] at h1
 simp only [wrap64]
 omega
theorem split_this (n : Int) (k s : Nat) (w : World) (h0 : 2 ≤ n) (h1 : n ≤ 9223372036854775807) (hk : Lib.bitLen (n - 1).toNat = k + 1) (hk2 : k ≤ 62) (hs : 2 ^ k = s) :
  Calls qP 184 #[.int .i64 n] w fun e w' => e = .returned (.int .i64 s) ∧ w = w' := by
 have K0 := lenKC (n - 1) w (by omega) (by omega)
 rw [hk] at K0
 have K := qH K0
 have hp := wrap_pow k s hk2 hs
 clear K0 hk hs
 go_enter Tryz.func184, Tryz.ntmps184
 go_wp2_with fail
 refine K.out.mono ?_
 rintro e w1 ⟨rfl, rfl⟩
 go_wp2
 go_ret
 exact ⟨congrArg Ending.returned (congrArg (Value.int IntKind.i64) hp), rfl⟩
theorem splitC (n : Int) (w : World) (h1 : n ≤ 9223372036854775807) :
  Calls qP 184 #[.int .i64 n] w fun e w' => e = .returned (.int .i64 (spl n.toNat)) ∧ w = w' := by
 by_cases h0 : 2 ≤ n
 ·obtain ⟨j, h2, h3⟩ := pow_of n.toNat (by omega)
  have hj : j ≤ 62 := by
   by_cases h : j ≤ 62
   ·exact h
   ·have := Nat.pow_le_pow_right (n := 2) (by decide) (show 63 ≤ j by omega)
    omega
  refine split_this n j _ w h0 h1 ?_ hj (spl_is j n.toNat h2 h3 (by omega)).symm
  rw [show (n - 1).toNat = n.toNat - 1 by omega]
  exact bitLen_two j _ (by omega) (by rw [Nat.pow_succ]; omega) (by omega)
 ·rw [spl_small n.toNat (by omega)]
  go_enter Tryz.func184, Tryz.ntmps184
  go_wp2
  go_ret
  exact ⟨rfl, rfl⟩
theorem rSplitC (n : Int) (w : World) (h1 : n ≤ 9223372036854775807) :
  Calls qP 121 #[.int .i64 n] w fun e w' => e = .returned (.int .i64 (spl n.toNat)) ∧ Below w.heap.size w w' := by
 by_cases h0 : 2 ≤ n
 ·obtain ⟨m, rfl⟩ := Int.eq_ofNat_of_zero_le (show 0 ≤ n by omega)
  rw [Int.toNat_natCast]
  obtain ⟨r, hr⟩ : ∃ r, spl m = r := ⟨_, rfl⟩
  rw [hr]
  have HR := qH hr
  clear hr
  go_enter Tryz.func121, Tryz.ntmps121
  go_wp2
  go_loopw [3] (fun v wr => ∃ s : Nat, v = .int .i64 s ∧ Hid (∃ j, s = 2 ^ j) ∧ 1 ≤ s ∧ s < m ∧ Below w.heap.size w wr) (fun v _ => m - (intOf v).toNat)
  case atStart => exact ⟨1, rfl, qH ⟨0, rfl⟩, by omega, by omega, Below.refl _ _⟩
  case round =>
   obtain ⟨s, rfl, HJ, hs1, hs2, hbel⟩ := hrel
   by_cases hlt : s + s < m
   ·go_wp2
    go_roundw
    case rel => exact ⟨2 * s, by go_num, qH (by obtain ⟨j, rfl⟩ := HJ.out; exact ⟨j + 1, by rw [Nat.pow_succ, Nat.mul_comm]⟩), by omega, by omega, hbel⟩
    case measure => simp [intOf]; omega
   ·have hx : s = r := by
     obtain ⟨j, rfl⟩ := HJ.out
     rw [← HR.out, spl_is j m hs2 (by omega) (by omega)]
    subst hx
    go_wp2
    go_ret
    exact ⟨rfl, hbel⟩
 ·rw [spl_small n.toNat (by omega)]
  go_enter Tryz.func121, Tryz.ntmps121
  go_wp2
  go_ret
  exact ⟨rfl, Below.refl _ _⟩
theorem roots_since {w W : World} (hr : Roots w) (h : Since w W) : Roots W := hr.next h.below
theorem strVals_append (a b : List ByteArray) : strVals (a ++ b) = strVals a ++ strVals b := by simp [strVals]
theorem strVals_one {ss : List ByteArray} : ∀ u ∈ strVals ss, u.oneCell' = true := by
 intro u hu
 simp only [strVals, List.mem_map] at hu
 obtain ⟨x, _, rfl⟩ := hu
 rfl
theorem addS (b off j : Nat) : (⟨b, off, none⟩ : Addr).add j = ⟨b, off + j, none⟩ := by unfold Addr.add; split <;> simp_all
theorem Txs.cells {w : World} {B b off cap : Nat} {ss : List ByteArray} (h : Txs w B (.slice (some ⟨b, off, none⟩) ss.length cap) ss) : ∀ j u, (strVals ss)[j]? = some u → w.cell? ((⟨b, off, none⟩ : Addr).add j) = some u := by
 intro j u hj
 obtain ⟨A, cap', e, hc⟩ := h
 cases e
 have hlt : j < ss.length := by rw [← strVals_len]; exact (List.getElem?_eq_some_iff.1 hj).1
 obtain ⟨b', off', e, _, h1⟩ := hc j hlt
 cases e
 rw [addS, h1]
 simp [strVals, hlt] at hj
 rw [hj]
theorem run_append_empty (P : Program) (w : World) (t ty e : TypeId) (i : TypeInfo) (ht : P.underlying t = some (.slice e)) (hi : P.info? e = some i) (A : Option Addr) (n cap c : Nat) (hn : n ≤ cap) :
  (Builtin.append_ #[t, t] ty #[.slice A n cap, .slice none 0 c]).run P w = .ok (.slice A n cap) w := by
 cases A <;> simp [Builtin.append_, run_underlying ht, go_sem, run_sizeOf w hi, hn]
theorem run_append_txs (w : World) (B B' : Nat) (ty : TypeId) (v y : Value) (l m : List ByteArray) (hown : w.ownsRow B 9 1 v l.length (strVals l)) (hP : Txs w B' y m) (hB : B ≤ w.heap.size) (hlen : l.length + m.length ≤ 1000000000) :
  ∃ v' w', (Builtin.append_ #[74, 74] ty #[v, y]).run qP w = .ok v' w' ∧ w'.ownsRow B 9 1 v' (l ++ m).length (strVals (l ++ m)) ∧ w.grownBy w' v.ownBlock := by
 obtain ⟨i0, hi, hz0, hz1, hz2⟩ := info_parts infoStr
 have hP' := hP
 obtain ⟨A, cap, rfl, hc⟩ := hP'
 match A, hc with
 | none, hc =>
  have hm : m = [] := by
   cases m with
   | nil => rfl
   | cons x m => obtain ⟨b, off, e, _⟩ := hc 0 (by simp); cases e
  subst hm
  rw [List.append_nil]
  have hv : ∃ A' n c, v = .slice A' n c ∧ n ≤ c := by
   rcases hown.2 with ⟨rfl, _⟩ | ⟨g, cap, cur, rfl, _, _, h1, _⟩
   ·exact ⟨none, 0, 0, rfl, Nat.le_refl _⟩
   ·exact ⟨_, _, _, rfl, h1⟩
  obtain ⟨A', n, c, rfl, hn⟩ := hv
  exact ⟨_, w, run_append_empty qP w 74 ty _ i0 Tryz.underlying74 hi A' n c cap hn, hown, only_refl _ _⟩
 | some ad, hc =>
  by_cases hm : m = []
  ·subst hm
   obtain ⟨v', w', hr, h2, h3, _, h5⟩ := run_append_own_at (P := qP) w B 74 ty 9 i0 _ 1 16 Tryz.underlying74 hi hz0 hz1 hz2 rfl (by decide) v l.length (strVals l) hown ad 0 cap [] rfl (fun j u h => by simp at h) (fun u h => by cases h) (by unfold maxLen; simp only [List.length_nil] at hlen; omega) (by simp only [List.length_nil] at hlen; omega) hB
   exact ⟨v', w', hr, by simpa using h2, h3⟩
  ·obtain ⟨b, off, e, _⟩ := hc 0 (by cases m <;> simp_all)
   cases e
   obtain ⟨v', w', hr, h2, h3, _, h5⟩ := run_append_own_at (P := qP) w B 74 ty 9 i0 _ 1 16 Tryz.underlying74 hi hz0 hz1 hz2 rfl (by decide) v l.length (strVals l) hown ⟨b, off, none⟩ m.length cap (strVals m) (by rw [strVals_len]; omega) hP.cells strVals_one (by unfold maxLen; omega) (by omega) hB
   exact ⟨v', w', hr, by rw [List.length_append, strVals_append]; exact h2, h3⟩
theorem wpList_append_txs {ops : Array Oper} {rest : List Oper} {o : Oper} {a : Act} {Q : Exit → Act → World → Prop} (w : World) (hgd : o.guard = none) (s x : Operand)
  (ho : o.op = .call { callee := .builtin .append, args := #[s, x], argTypes := #[74, 74] }) (B B' : Nat) (v y : Value) (l m : List ByteArray) (hs : a.eval s = v) (hx : a.eval x = y) (W0 : World)
  (hown : OwnStrs B v l W0 w) (hP : Txs w B' y m) (hlen : l.length + m.length ≤ 1000000000)
  (h : ∀ v' w', OwnStrs B v' (l ++ m) W0 w' → w.grownBy w' v.ownBlock → wpList qP ops Q rest (a.put o.dst v') w') : wpList qP ops Q (o :: rest) a w := by
 refine wpList_plain hgd fun K hK => ?_
 obtain ⟨v', w', hr, h2, h3⟩ := run_append_txs w B B' o.type v y l m hown.1 hP hown.2.2 hlen
 simp [Oper.wp, Oper.upon, execOp, ho, resolve, invoke, builtin, hs, hx, hr, Result.andThen]
 exact hK _ _ (h v' w' ⟨h2, hown.2.1.grown h3 hown.2.2 (fun k hk => (hown.1.lt k hk).1), Nat.le_trans hown.2.2 h3.size⟩ h3)
theorem OwnStrs.start {w w1 : World} (h : Below w.heap.size w w1) : OwnStrs w.heap.size (.slice none 0 0) [] w w1 := ⟨World.ownsRow_nil _ _ _ _, h, h.size⟩
theorem own_down {w : World} {B B' : Nat} {t : TypeId} {k n : Nat} {v : Value} {xs : List Value} (h : w.ownsRow B t k v n xs) (hB : B' ≤ B) : w.ownsRow B' t k v n xs := by
 refine ⟨h.1, ?_⟩
 rcases h.2 with hn | ⟨g, cap, cur, e1, e2, rest⟩
 ·exact .inl hn
 ·exact .inr ⟨g, cap, cur, e1, Nat.le_trans hB e2, rest⟩
theorem OwnStrs.from {w w1 w2 : World} {v : Value} {ss : List ByteArray} (h : Below w.heap.size w w1) (k : OwnStrs w1.heap.size v ss w1 w2) : OwnStrs w.heap.size v ss w w2 :=
 ⟨own_down k.1 h.size, step_below h k.below, Nat.le_trans h.size k.2.2⟩
theorem txs_kept {w w' : World} {B : Nat} {y : Value} {ss : List ByteArray} {r : Option Nat} (h : Txs w B y ss) (k : w.grownBy w' r) (hd : ∀ g, y.ownBlock = some g → g < w.heap.size ∧ some g ≠ r) : Txs w' B y ss :=
 h.moved fun g hg => k.block g (hd g hg).1 (hd g hg).2
end Go.Proofs.YtkejaepmoabikaaGreatDoor.W
