/-
  footbridgelaw08.awake; what package path's callees read, out of the row's list and the world's shape.
-/
import Derived.Test.YtjmbbkjepgahgaaDoorPSplit
import Derived.Test.YtjmbbkjepgahgaaDoorCTexts
import Derived.Test.YtjmbbkjepgahgaaDoorCLift
import Derived.Stop.LaidErr
import Derived.MakeChecks
import Derived.Lib.LaidTab
namespace Go.Proofs.YtjmbbkjepgahgaaDoor.W
open Go.RowKit

theorem gPowType : (Tryd.prog.globals[1]?).map (·.type) = some 84 := by kernel_rfl
theorem cellsPow : Tryd.prog.cellsOf 84 = 20 := by kernel_rfl
theorem cellsU64 : Tryd.prog.cellsOf 67 = 1 := by kernel_rfl
theorem powData : (Rows.laid_internal_strconv_uint64pow10 : DataW Unit) = Lib.tabData .u64 Lib.pow10Tab := by kernel_rfl
theorem play_of {W : World} (h : laidMetH Tryd.prog Rows.pathJoinsRow.laid W) (hS : W.ShapedOpen Tryd.prog) : PLay W := by
  rw [MakeChecks.laidMetH_plain _ _ _ (by kernel_rfl)] at h
  have h1 : laidMet Tryd.prog [("math/bits.deBruijn32tab", Rows.laid_math_bits_deBruijn32tab), ("math/bits.deBruijn64tab", Rows.laid_math_bits_deBruijn64tab), ("internal/strconv.uint64pow10", Rows.laid_internal_strconv_uint64pow10), ("unicode/utf8.acceptRanges", Rows.laid_unicode_utf8_acceptRanges), ("unicode/utf8.first", Rows.laid_unicode_utf8_first)] W := h
  have h2 := h1.tail.tail
  rw [powData] at h2
  exact ⟨Lib.tabIs_of_head gPow gPowType Tryd.underlying84 Tryd.underlying67 cellsU64 cellsPow h2, Tryd.laysM155.s1_3 W hS⟩

/-- Split at a key, Split at what is none -/
theorem split_yes (s : ByteArray) (wd : List UInt8) (ps : List (List UInt8)) (hk : key wd ps = s.data.toList) (hs : s.size ≤ 5000000) (w : World) (hL : PLay w) :
    Calls Tryd.prog 7 #[.string s] w fun e w' => ∃ v, e = .returned (.tuple #[.string (bs wd), v, .int .i64 0]) ∧ Txs w' w'.heap.size v (ps.map bs) ∧ Below w.heap.size w w' := by
  refine (pSplit s w hL hs).mono ?_
  rintro e w' ⟨hb, ⟨-, x, v, qs, ht, rfl, hT, -⟩ | ⟨hn, -⟩⟩
  · rw [← hk, txt_key, List.cons.injEq] at ht
    refine ⟨v, by rw [ht.1, bs_of], ?_, hb⟩
    have e : ps.map bs = qs := by
      rw [ht.2, List.map_map]
      exact (List.map_congr_left (fun a _ => bs_of a)).trans (List.map_id qs)
    rw [e]
    exact hT
  · exact absurd ⟨wd, ps, hk⟩ hn
theorem split_this (s : ByteArray) (wd : List UInt8) (ps : List (List UInt8)) (hk : key wd ps = s.data.toList) (hs : s.size ≤ 5000000) (z : ByteArray) (hz : bs wd = z) (zs : List ByteArray) (hzs : ps.map bs = zs) (w : World) (hL : PLay w) :
    Calls Tryd.prog 7 #[.string s] w fun e w' => ∃ v, e = .returned (.tuple #[.string z, v, .int .i64 0]) ∧ Txs w' w'.heap.size v zs ∧ Below w.heap.size w w' := by
  subst hz hzs
  exact split_yes s wd ps hk hs w hL
theorem split_no (s : ByteArray) (hk : ¬ isKey s.data.toList) (hs : s.size ≤ 5000000) (w : World) (hL : PLay w) :
    Calls Tryd.prog 7 #[.string s] w fun e w' => e = .returned (.tuple #[.string ⟨#[]⟩, .slice none 0 0, .int .i64 6]) ∧ Below w.heap.size w w' := by
  refine (pSplit s w hL hs).mono ?_
  rintro e w' ⟨hb, ⟨hy, -⟩ | ⟨-, rfl⟩⟩
  · exact absurd hy hk
  · exact ⟨rfl, hb⟩
theorem no_key1 : ¬ isKey [97, 37] := by
  intro h
  have e := shs_key h
  rw [show pcs [97, 37] = [[97, 37]] from by decide] at e
  rw [shs, show shw [97, 37] = none from by decide] at e
  cases e
/-- two strings in a block of their own -/
theorem two_txs (w : World) (a b : ByteArray) : Txs (w.alloc (.cells #[.string a, .string b] 9)) (w.alloc (.cells #[.string a, .string b] 9)).heap.size (.slice (some ⟨w.heap.size, 0, none⟩) 2 2) [a, b] := by
  refine ⟨_, 2, rfl, fun i hi => ⟨w.heap.size, 0, rfl, by simp, ?_⟩⟩
  have := (Blk.new w 9 #[.string a, .string b]).cell (0 + i)
  rw [this]
  match i, hi with
  | 0, _ => rfl
  | 1, _ => rfl
theorem alloc_below (w : World) (o : Obj) : Below w.heap.size w (w.alloc o) := (Below.refl _ _).alloc (Nat.le_refl _) _
theorem Txs.laid {w : World} {v : Value} {ss : List ByteArray} (h : Txs w w.heap.size v ss) (o : Obj) : Txs (w.alloc o) (w.alloc o).heap.size v ss := (h.below (alloc_below w o)).more (alloc_below w o).size
theorem join_this (wd : ByteArray) (v : Value) (ps : List ByteArray) (z : ByteArray) (hz : bs (keyOf wd ps) = z) (ht : tot wd ps ≤ 10000000) (w : World) (hL : PLay w) (hT : Txs w w.heap.size v ps) :
    Calls Tryd.prog 9 #[.string wd, v] w fun e w' => e = .returned (.string z) ∧ Below w.heap.size w w' := by
  subst hz
  exact pJoin wd v ps w hL hT ht
theorem number_this (n : Int) (z : ByteArray) (hz : bs (lowd 14 (clamp n)) = z) (w : World) (hL : PLay w) :
    Calls Tryd.prog 12 #[.int .i64 n] w fun e w' => e = .returned (.string z) ∧ Below w.heap.size w w' := by
  subst hz
  exact pNumber n w hL

set_option maxHeartbeats 2000000 in
set_option maxRecDepth 100000 in
theorem awake08 (w : World) (hL : PLay w) : Calls Tryd.prog 6 #[] w fun e w' => e = .returned (.bool true) ∧ Below w.heap.size w w' := by
  go_enter Tryd.func6, Tryd.ntmps6
  go_wp2_with fail
  refine (split_this ⟨#[116, 111, 107, 101, 110, 47, 97, 37, 115, 98, 47, 99]⟩ [116, 111, 107, 101, 110] [[97, 47, 98], [99]] (by decide) (by decide) ⟨#[116, 111, 107, 101, 110]⟩ rfl [⟨#[97, 47, 98]⟩, ⟨#[99]⟩] rfl w hL).mono ?_
  rintro e w1 ⟨v1, rfl, T1, b1⟩
  go_wp2_with fail
  refine (split_no ⟨#[97, 37]⟩ no_key1 (by decide) w1 (hL.next b1)).mono ?_
  rintro e w2 ⟨rfl, b2⟩
  replace T1 := (T1.below b2).more b2.size
  replace b2 := step_below b1 b2
  clear b1
  go_wp2_with fail
  refine (split_this ⟨#[]⟩ [] [] (by decide) (by decide) ⟨#[]⟩ rfl [] rfl w2 (hL.next b2)).mono ?_
  rintro e w3 ⟨v3, rfl, T3, b3⟩
  replace T1 := (T1.below b3).more b3.size
  replace b3 := step_below b2 b3
  clear b2
  obtain ⟨A3, c3, rfl, -⟩ := T3
  go_wp2_with fail
  have b4 := step_below b3 (alloc_below w3 (.cells #[.string ⟨#[97, 47, 98]⟩, .string ⟨#[99]⟩] 9))
  replace T1 := T1.laid (.cells #[.string ⟨#[97, 47, 98]⟩, .string ⟨#[99]⟩] 9)
  refine (join_this ⟨#[116, 111, 107, 101, 110]⟩ _ [⟨#[97, 47, 98]⟩, ⟨#[99]⟩] ⟨#[116, 111, 107, 101, 110, 47, 97, 37, 115, 98, 47, 99]⟩ (by rfl) (by decide) _ (hL.next b4) (two_txs w3 _ _)).mono ?_
  rintro e w5 ⟨rfl, b5⟩
  replace T1 := (T1.below b5).more b5.size
  replace b5 := step_below b4 b5
  clear b4 b3
  go_wp2_with fail
  have b6 := step_below b5 (alloc_below w5 (.cells #[.string ⟨#[97, 47, 98]⟩, .string ⟨#[99]⟩] 9))
  replace T1 := T1.laid (.cells #[.string ⟨#[97, 47, 98]⟩, .string ⟨#[99]⟩] 9)
  refine (texts v1 _ [⟨#[97, 47, 98]⟩, ⟨#[99]⟩] [⟨#[97, 47, 98]⟩, ⟨#[99]⟩] _ _ T1 (two_txs w5 _ _) (Nat.le_refl _) (by decide) (by decide)).mono ?_
  rintro e w7 ⟨rfl, b7⟩
  replace b7 := step_below b6 b7
  clear b5 b6 T1
  rw [decide_eq_true rfl]
  go_wp2_with fail
  refine (join_this ⟨#[37]⟩ _ [] ⟨#[37, 112]⟩ (by rfl) (by decide) _ (hL.next b7) (Txs.nil _ _ _ _)).mono ?_
  rintro e w8 ⟨rfl, b8⟩
  replace b8 := step_below b7 b8
  clear b7
  go_wp2_with fail
  refine (number_this 7 ⟨#[48, 48, 48, 48, 48, 48, 48, 48, 48, 48, 48, 48, 48, 55]⟩ (by rfl) w8 (hL.next b8)).mono ?_
  rintro e w9 ⟨rfl, b9⟩
  replace b9 := step_below b8 b9
  clear b8
  go_wp2_with fail
  refine (number_this (-1) ⟨#[48, 48, 48, 48, 48, 48, 48, 48, 48, 48, 48, 48, 48, 48]⟩ (by rfl) w9 (hL.next b9)).mono ?_
  rintro e w10 ⟨rfl, b10⟩
  replace b10 := step_below b9 b10
  clear b9
  go_wp2
  go_ret
  exact ⟨rfl, b10⟩
end Go.Proofs.YtjmbbkjepgahgaaDoor.W
