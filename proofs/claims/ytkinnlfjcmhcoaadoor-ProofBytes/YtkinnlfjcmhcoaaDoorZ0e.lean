/-
  Texts of one level, merged: XLead, CRow, CRecs, CList, CPrs, CLift, XArg, XHas, XFew, XSmall, XWr, XPut, XSearch.
-/
import Derived.IntWalk
import Derived.Test.YtkinnlfjcmhcoaaDoorRows
import Derived.WalkKit
import Derived.ProofKit
import Derived.OpenShut
import Derived.ShutString
import Derived.ChangeOld
import Derived.Below
import Derived.JoinedCond
import Derived.Deep.Slices
import Derived.Deep.Fields
import Derived.Lib.SmallJoins
import Derived.SliceStrings
import Derived.Laws.Cover1
import Derived.Lib.Builder
import Derived.Lib.Strings
import Derived.Lib.AppendStr
import Derived.Lib.UnsafeStr
import Derived.Laws.Externs
import Derived.Test.YtkinnlfjcmhcoaaDoorZ0d
import Derived.Test.YtkinnlfjcmhcoaaDoorZ0c
import Derived.Test.YtkinnlfjcmhcoaaDoorZ0a
import Derived.Test.YtkinnlfjcmhcoaaDoorZ0b
/-
  proof.lead, reaches: where a leaf and a path lead.
-/
namespace Go.Proofs.YtkinnlfjcmhcoaaDoor.W
open Go.RowKit

/-- what lead answers -/
def LeadPost (w : World) (r : Option (List UInt8 × List (List UInt8))) (e : Ending) (w' : World) : Prop :=
  ∃ t, e = .returned (.tuple #[.string (bs t), .bool r.isSome]) ∧ t.length ≤ 32 ∧ (∀ x, r = some x → x.1 = t) ∧ Since w w'
set_option maxHeartbeats 1000000 in
set_option maxRecDepth 100000 in
theorem leadOut (leaf v : Value) (i n : Int) (w : World) (h : ¬ (0 ≤ i ∧ i < n)) : Calls Tryd.prog 75 #[leaf, v, .int .i64 i, .int .i64 n] w (LeadPost w none) := by
  have R : LeadPost w none (.returned (.tuple #[.string (bs []), .bool false])) w := ⟨[], rfl, by simp, (fun x hx => by cases hx), Since.refl w⟩
  by_cases h1 : i < 0
  · go_enter Tryd.func75, Tryd.ntmps75
    go_wp2
    go_ret2
    exact R
  · have h2 : n ≤ i := by omega
    clear h
    go_enter Tryd.func75, Tryd.ntmps75
    go_wp2
    go_ret2
    exact R
set_option maxHeartbeats 1000000 in
set_option maxRecDepth 100000 in
theorem leadOne (leaf : List UInt8) (A : Option Addr) (m cap : Nat) (w : World) (hl : leaf.length ≤ 32) (r : Option (List UInt8 × List (List UInt8))) (hr : r.isSome = decide (m = 0)) (hr2 : ∀ x, r = some x → x.1 = leaf) :
    Calls Tryd.prog 75 #[.string (bs leaf), .slice A m cap, .int .i64 0, .int .i64 1] w (LeadPost w r) := by
  have R : LeadPost w r (.returned (.tuple #[.string (bs leaf), .bool r.isSome])) w := ⟨leaf, rfl, hl, hr2, Since.refl w⟩
  rw [hr] at R
  clear hr hr2
  cases m with
  | zero =>
    go_enter Tryd.func75, Tryd.ntmps75
    go_wp2
    go_ret2
    exact R
  | succ m =>
    have hb : (((m + 1 : Nat) : Int) == 0) = false := by simp; omega
    have hd : decide (m + 1 = 0) = false := by simp
    rw [hd] at R
    clear hd
    go_enter Tryd.func75, Tryd.ntmps75
    go_wp2
    go_ret2
    exact R
set_option maxHeartbeats 1000000 in
set_option maxRecDepth 100000 in
theorem leadNone (leaf : Value) (A : Option Addr) (cap : Nat) (i n : Int) (w : World) (h0 : 0 ≤ i) (h1 : i < n) (h2 : n ≠ 1) : Calls Tryd.prog 75 #[leaf, .slice A 0 cap, .int .i64 i, .int .i64 n] w (LeadPost w none) := by
  have R : LeadPost w none (.returned (.tuple #[.string (bs []), .bool false])) w := ⟨[], rfl, by simp, (fun x hx => by cases hx), Since.refl w⟩
  have hb : (n == 1) = false := beq_eq_false_iff_ne.2 h2
  clear h2
  go_enter Tryd.func75, Tryd.ntmps75
  go_wp2
  go_ret2
  exact R
set_option maxHeartbeats 2000000 in
set_option maxRecDepth 100000 in
theorem leadL (leaf : Value) (b off m M cap s : Nat) (hM : M = m + 1) (x : List UInt8) (i n : Int) (w : World) (h0 : 0 ≤ i) (h1 : i < n) (h2 : n ≠ 1) (hn : n ≤ 9223372036854775807) (hm : m ≤ 1000000000) (hs : spl n.toNat = s) (hi : i < s) (r : Option (List UInt8 × List (List UInt8)))
    (hc : w.cell? ⟨b, off + m, none⟩ = some (.string (bs x)))
    (hs2 : ∀ W, (Instr.slice 34 (.slice (some ⟨b, off, none⟩) M cap) none (some (.int .i64 m)) none).run Tryd.prog W = .ok (.slice (some ⟨b, off, none⟩) m cap) W)
    (H1 : Hid (Calls Tryd.prog 75 #[leaf, .slice (some ⟨b, off, none⟩) m cap, .int .i64 i, .int .i64 s] w (LeadPost w r)))
    (H2 : Hid (∀ t, t.length ≤ 32 → ∀ W, Since w W → Calls Tryd.prog 64 #[.string (bs t), .string (bs x)] W fun e w' => e = .returned (.string (bs (shaOf (nodeOf t x)))) ∧ Since w w')) :
    Calls Tryd.prog 75 #[leaf, .slice (some ⟨b, off, none⟩) M cap, .int .i64 i, .int .i64 n] w (LeadPost w (r.map fun t => (shaOf (nodeOf t.1 x), t.2 ++ [nodeOf t.1 x]))) := by
  have K0 := splitC n w hn
  rw [hs] at K0
  have K := Lib.hid K0
  have hb : (n == 1) = false := beq_eq_false_iff_ne.2 h2
  have hl0 : ((M : Int) == 0) = false := by simp; omega
  have hmi : IntKind.i64.wrap ((M : Int) - 1) = (m : Int) := by rw [IntWalk.i64_in _ (by omega)]; omega
  have hm0 : (0 : Int) ≤ m := by omega
  have hm1 : (m : Int) < (M : Int) := by omega
  have HS := Lib.hid (show r.isSome = (r.map fun t => (shaOf (nodeOf t.1 x), t.2 ++ [nodeOf t.1 x])).isSome by cases r <;> rfl)
  clear K0 hs h2 hm hM
  go_enter Tryd.func75, Tryd.ntmps75
  go_wp2_with fail
  refine K.out.mono ?_
  rintro e w1 ⟨rfl, rfl⟩
  clear K
  go_wp2_with fail
  refine H1.out.mono ?_
  rintro e w2 ⟨t, rfl, tl, tx, s2⟩
  have c2 := s2.cell hc
  have TX := Lib.hid tx
  clear H1 hc tx
  generalize r.isSome = rs at *
  go_wp2_with fail
  refine (H2.out t tl w2 s2).mono ?_
  rintro e w3 ⟨rfl, s3⟩
  have FIN := Lib.hid (show LeadPost w (r.map fun t => (shaOf (nodeOf t.1 x), t.2 ++ [nodeOf t.1 x])) (.returned (.tuple #[.string (bs (shaOf (nodeOf t x))), .bool rs])) w3 from
    ⟨_, by rw [HS.out], by rw [shaOf_len]; omega, fun y hy => by
      rw [Option.map_eq_some_iff] at hy
      obtain ⟨z, hz, rfl⟩ := hy
      show shaOf (nodeOf z.1 x) = _
      rw [TX.out z hz], s3⟩)
  generalize shaOf (nodeOf t x) = out at *
  clear H2 TX HS tl
  go_wp2
  go_ret2
  exact FIN.out
set_option maxHeartbeats 2000000 in
set_option maxRecDepth 100000 in
theorem leadRt (leaf : Value) (b off m M cap s : Nat) (hM : M = m + 1) (x : List UInt8) (i n : Int) (w : World) (h0 : 0 ≤ i) (h1 : i < n) (h2 : n ≠ 1) (hn : n ≤ 9223372036854775807) (hm : m ≤ 1000000000) (hs : spl n.toNat = s) (hi : ¬ i < s) (r : Option (List UInt8 × List (List UInt8)))
    (hc : w.cell? ⟨b, off + m, none⟩ = some (.string (bs x)))
    (hs2 : ∀ W, (Instr.slice 34 (.slice (some ⟨b, off, none⟩) M cap) none (some (.int .i64 m)) none).run Tryd.prog W = .ok (.slice (some ⟨b, off, none⟩) m cap) W)
    (H1 : Hid (Calls Tryd.prog 75 #[leaf, .slice (some ⟨b, off, none⟩) m cap, .int .i64 (i - s), .int .i64 (n - s)] w (LeadPost w r)))
    (H2 : Hid (∀ t, t.length ≤ 32 → ∀ W, Since w W → Calls Tryd.prog 64 #[.string (bs x), .string (bs t)] W fun e w' => e = .returned (.string (bs (shaOf (nodeOf x t)))) ∧ Since w w')) :
    Calls Tryd.prog 75 #[leaf, .slice (some ⟨b, off, none⟩) M cap, .int .i64 i, .int .i64 n] w (LeadPost w (r.map fun t => (shaOf (nodeOf x t.1), t.2 ++ [nodeOf x t.1]))) := by
  have K0 := splitC n w hn
  rw [hs] at K0
  have K := Lib.hid K0
  have hb : (n == 1) = false := beq_eq_false_iff_ne.2 h2
  have hl0 : ((M : Int) == 0) = false := by simp; omega
  have hmi : IntKind.i64.wrap ((M : Int) - 1) = (m : Int) := by rw [IntWalk.i64_in _ (by omega)]; omega
  have hwi : IntKind.i64.wrap (i - (s : Int)) = i - (s : Int) := IntWalk.i64_in _ (by omega)
  have hwn : IntKind.i64.wrap (n - (s : Int)) = n - (s : Int) := IntWalk.i64_in _ (by omega)
  have hm0 : (0 : Int) ≤ m := by omega
  have hm1 : (m : Int) < (M : Int) := by omega
  have HS := Lib.hid (show r.isSome = (r.map fun t => (shaOf (nodeOf x t.1), t.2 ++ [nodeOf x t.1])).isSome by cases r <;> rfl)
  clear K0 hs h2 hm hM
  go_enter Tryd.func75, Tryd.ntmps75
  go_wp2_with fail
  refine K.out.mono ?_
  rintro e w1 ⟨rfl, rfl⟩
  clear K
  go_wp2_with fail
  refine H1.out.mono ?_
  rintro e w2 ⟨t, rfl, tl, tx, s2⟩
  have c2 := s2.cell hc
  have TX := Lib.hid tx
  clear H1 hc tx
  generalize r.isSome = rs at *
  go_wp2_with fail
  refine (H2.out t tl w2 s2).mono ?_
  rintro e w3 ⟨rfl, s3⟩
  have FIN := Lib.hid (show LeadPost w (r.map fun t => (shaOf (nodeOf x t.1), t.2 ++ [nodeOf x t.1])) (.returned (.tuple #[.string (bs (shaOf (nodeOf x t))), .bool rs])) w3 from
    ⟨_, by rw [HS.out], by rw [shaOf_len]; omega, fun y hy => by
      rw [Option.map_eq_some_iff] at hy
      obtain ⟨z, hz, rfl⟩ := hy
      show shaOf (nodeOf x z.1) = _
      rw [TX.out z hz], s3⟩)
  generalize shaOf (nodeOf x t) = out at *
  clear H2 TX HS tl
  go_wp2
  go_ret2
  exact FIN.out
set_option maxRecDepth 100000 in
theorem leadC (leaf : List UInt8) (hlf : leaf.length = 32) (p : List (List UInt8)) : ∀ (v : Value) (i n : Int) (w : World), Txs w w.heap.size v (bss p) → Roomy v → Roots w → n ≤ 9223372036854775807 → p.length ≤ 1000000 → (∀ y ∈ p, y.length ≤ 1000) →
    Calls Tryd.prog 75 #[.string (bs leaf), v, .int .i64 i, .int .i64 n] w (LeadPost w (lead leaf p i n)) := by
  induction p using snocInd with
  | h0 =>
    intro v i n w hT hR hr hn _ _
    obtain ⟨A, cap, rfl, _⟩ := hT
    by_cases h : 0 ≤ i ∧ i < n
    · by_cases h1 : n = 1
      · subst h1
        obtain rfl : i = 0 := by omega
        rw [lead_nil, if_pos (by omega)]
        exact leadOne leaf A 0 cap w (by omega) _ rfl (fun x hx => by cases hx; rfl)
      · rw [lead_nil, if_neg (fun e => h1 e.2.2)]
        exact leadNone _ A cap i n w h.1 h.2 h1
    · rw [lead_out h]
      exact leadOut _ _ i n w h
  | h1 p x ih =>
    intro v i n w hT hR hr hn hp hy
    have hp' : p.length + 1 ≤ 1000000 := by rw [List.length_append] at hp; exact hp
    have hT0 := hT
    obtain ⟨A, cap, rfl, hc⟩ := hT0
    have hll : (bss (p ++ [x])).length = p.length + 1 := by rw [bss_len, List.length_append]; rfl
    have hcap : (bss (p ++ [x])).length ≤ cap := by
      obtain ⟨A0, n0, c0, e, h⟩ := hR
      cases e
      exact h
    by_cases h : 0 ≤ i ∧ i < n
    · by_cases h1 : n = 1
      · subst h1
        obtain rfl : i = 0 := by omega
        rw [lead_snoc, if_neg (fun e => e.2.2 rfl), hll]
        exact leadOne leaf A (p.length + 1) cap w (by omega) none (by simp) (fun x hx => by cases hx)
      · obtain ⟨b, off, rfl, hb, c0⟩ := hc p.length (by omega)
        have ec : (bss (p ++ [x]))[p.length]'(by omega) = bs x := by simp [bss]
        rw [ec] at c0
        obtain ⟨hs2, P2⟩ := txs_upto hT hcap p.length (by omega)
        have e1 : (bss (p ++ [x])).take p.length = bss p := by rw [← bss_take, List.take_left]
        rw [e1] at P2
        rw [hll] at hs2 hcap ⊢
        rw [lead_snoc, if_pos ⟨h.1, h.2, h1⟩]
        have hxl := hy x (by simp)
        by_cases hlt : i < (spl n.toNat : Nat)
        · rw [if_pos hlt]
          exact leadL _ b off p.length _ cap _ rfl x i n w h.1 h.2 h1 hn (by omega) rfl hlt _ c0 hs2
            (Lib.hid (ih _ i _ w P2 ⟨_, _, _, rfl, by omega⟩ hr (by have := (spl_pos (n := n.toNat) (by omega) (by omega)).2.1; omega) (by omega) (fun y hy' => hy y (by simp [hy']))))
            (Lib.hid fun t ht W hW => (nodeC t x W (roots_since hr hW) (by omega) hxl).mono fun e w' ⟨he, hb⟩ => ⟨he, since_of (step_below hW.below hb)⟩)
        · rw [if_neg hlt]
          exact leadRt _ b off p.length _ cap _ rfl x i n w h.1 h.2 h1 hn (by omega) rfl hlt _ c0 hs2
            (Lib.hid (ih _ _ _ w P2 ⟨_, _, _, rfl, by omega⟩ hr (by omega) (by omega) (fun y hy' => hy y (by simp [hy']))))
            (Lib.hid fun t ht W hW => (nodeC x t W (roots_since hr hW) hxl (by omega)).mono fun e w' ⟨he, hb⟩ => ⟨he, since_of (step_below hW.below hb)⟩)
    · rw [lead_out h]
      exact leadOut _ _ i n w h

set_option maxHeartbeats 2000000 in
set_option maxRecDepth 100000 in
theorem reaches_this (root lf : List UInt8) (p : KV) (v : Value) (i n : Int) (w : World) (r : Option (List UInt8 × List (List UInt8))) (out : Bool)
    (H0 : Hid (∀ W, Since w W → Calls Tryd.prog 63 #[.agg #[.string p.1, .string p.2]] W fun e w' => e = .returned (.string (bs lf)) ∧ Since w w'))
    (H1 : Hid (∀ W, Since w W → Calls Tryd.prog 75 #[.string (bs lf), v, .int .i64 i, .int .i64 n] W (LeadPost W r)))
    (H2 : Hid (∀ t, t.length ≤ 32 → ∀ W, Since w W → Calls Tryd.prog 41 #[.int .i64 n, .string (bs t)] W fun e w' => e = .returned (.string (bs (shaOf (topOf n t)))) ∧ Since w w'))
    (hno : r = none → out = false) (hyes : ∀ x, r = some x → out = decide (shaOf (topOf n x.1) = root)) :
    Calls Tryd.prog 40 #[.string (bs root), .agg #[.string p.1, .string p.2], v, .int .i64 i, .int .i64 n] w fun e w' => e = .returned (.bool out) ∧ Since w w' := by
  obtain ⟨p1, p2⟩ := p
  have HB := Lib.hid (Blk.new w 32 #[.string p1, .string p2])
  have HW := Lib.hid (since_of ((Below.refl w.heap.size w).alloc (Nat.le_refl _) (.cells #[.string p1, .string p2] 32)))
  have HN := Lib.hid hno
  have HY := Lib.hid hyes
  clear hno hyes
  simp only at H0
  go_enter Tryd.func40, Tryd.ntmps40
  go_wp2_with fail
  refine (H0.out _ HW.out).mono ?_
  rintro e w1 ⟨rfl, s1⟩
  clear H0 HB HW
  go_wp2_with fail
  refine (H1.out w1 s1).mono ?_
  rintro e w2 ⟨t, rfl, tl, tx, s2⟩
  have S2 := Lib.hid (since_of (step_below s1.below s2.below))
  have TX := Lib.hid tx
  clear H1 tx s1 s2
  cases r with
  | none =>
    obtain rfl : out = false := HN.out rfl
    simp only [Option.isSome_none]
    go_wp2
    go_ret
    exact ⟨rfl, S2.out⟩
  | some x =>
    have hx := TX.out x rfl
    have hy := HY.out x rfl
    rw [hx] at hy
    simp only [Option.isSome_some]
    clear HN HY TX hx
    go_wp2_with fail
    refine (H2.out t tl w2 S2.out).mono ?_
    rintro e w3 ⟨rfl, s3⟩
    generalize shaOf (topOf n t) = y at *
    by_cases he : y = root
    · subst he
      rw [decide_eq_true rfl] at hy
      subst hy
      go_wp2
      go_ret
      exact ⟨rfl, s3⟩
    · rw [decide_eq_false he] at hy
      subst hy
      have hne := str_ne (bs_ne he)
      clear he
      go_wp2
      go_ret
      exact ⟨rfl, s3⟩
theorem reachC (root : List UInt8) (p : KV) (q : List (List UInt8)) (v : Value) (i n : Int) (w : World) (hT : Txs w w.heap.size v (bss q)) (hR : Roomy v) (hr : Roots w) (hn : n ≤ 9223372036854775807) (hq : q.length ≤ 1000000) (hy : ∀ y ∈ q, y.length ≤ 1000) :
    Calls Tryd.prog 40 #[.string (bs root), .agg #[.string p.1, .string p.2], v, .int .i64 i, .int .i64 n] w fun e w' => e = .returned (.bool (reach root p q i n)) ∧ Since w w' :=
  reaches_this root _ p v i n w (lead (shaOf (leafOf p)) q i n) _
    (Lib.hid fun W hW => (leafC p W (roots_since hr hW)).mono fun e w' ⟨he, hb⟩ => ⟨he, since_of (step_below hW.below hb)⟩)
    (Lib.hid fun W hW => leadC _ (shaOf_len _) q v i n W ((hT.below hW.below).more hW.2.2.2.1) hR (roots_since hr hW) hn hq hy)
    (Lib.hid fun t ht W hW => (topC n t W (roots_since hr hW) (by omega)).mono fun e w' ⟨he, hb⟩ => ⟨he, since_of (step_below hW.below hb)⟩)
    (fun h => reach_none h) (fun x h => reach_some h)
end Go.Proofs.YtkinnlfjcmhcoaaDoor.W
/-
  From a walk that turns nothing that was there to a row: each argument reads behind the call as it read before.
-/
namespace Go.Proofs.YtkinnlfjcmhcoaaDoor.W
open Go.ChangeShapes Go.WideShapes Go.ChangeAt Go.RowKit

theorem own : ownKnob Tryd.prog.godebug = none := by kernel_rfl
theorem laidOut : laidOutB Tryd.prog = true := by kernel_rfl

/-- every argument, one behind the other -/
theorem trodAll_under {H : Type} {enc : TypeId × Value → H} {P : Program} (hl : laidOutB P = true) {W W' : World} (hb : Below W.heap.size W W') (ts : List TypeId) : ∀ (vs : List Value) (ds : List (DataW H)) (p : List MemPlace),
    (ts.all fun t => P.readableRec t && decide (t < P.types.size)) = true → DataW.TrodAll enc P W 0 (fun _ => true) true ts vs ds p → DataW.TrodAll enc P W' 0 (fun b => decide (b < W.heap.size)) true ts vs ds p := by
  induction ts with
  | nil =>
    intro vs ds p _ h
    obtain ⟨rfl, rfl, rfl⟩ := trodAll_nil h
    exact trodAll_mk0
  | cons t ts ih =>
    intro vs ds p hr h
    rw [List.all_cons, Bool.and_eq_true, Bool.and_eq_true, decide_eq_true_eq] at hr
    obtain ⟨v0, vs0, d0, ds0, p0, q0, rfl, rfl, rfl, h0, r0⟩ := trodAll_cons h
    have lt0 : ∀ x ∈ p0, x.block < W.heap.size := by obtain ⟨m, hm⟩ := h0; exact DataW.trod_lt m _ _ _ hm
    exact trodAll_cons_mk (Below.trod hl hr.1.1 hr.1.2 h0 hb lt0) (ih vs0 ds0 q0 hr.2 r0)

/-- an address whose cells lie: no spot within a cell -/
theorem plain_addr {W : World} {a : Addr} {v : Value} (h : W.cell? (a.add 0) = some v) : ∃ b off, a = ⟨b, off, none⟩ := by
  obtain ⟨b, off, spot⟩ := a
  have hspot : spot = none := by simpa [Addr.add] using World.cell?_spot h
  subst hspot
  exact ⟨b, off, rfl⟩
theorem add_plain (b off i : Nat) : (⟨b, off, none⟩ : Addr).add i = ⟨b, off + i, none⟩ := by unfold Addr.add; split <;> simp_all

end Go.Proofs.YtkinnlfjcmhcoaaDoor.W
/-
  A slice of structs of one-cell fields that came in as an argument.
-/
namespace Go.Proofs.YtkinnlfjcmhcoaaDoor.W
open Go.ChangeShapes Go.WideShapes Go.ChangeAt Go.RowKit Go.Deep

section
variable {H : Type} {enc : TypeId × Value → H} {P : Program} {w : World} {held : Bool}
/-- the cells of each struct, and that each field reads -/
theorem open_recs {t e : TypeId} {fs : Array Field} {A : Option Addr} {len cap : Nat} {d : DataW H} {p : List MemPlace} (ht : P.underlying t = some (.slice e)) (he : P.underlying e = some (.struct fs)) (hone : oneCellFields P fs = true) (hC : P.cellsOf e = fs.size) (h0 : 0 < fs.size)
    (h : DataW.Trod enc P w 0 (fun _ => true) held t (.slice A len cap) d p) :
    len ≤ cap ∧ len ≤ maxLen ∧ ∀ i, i < len → ∃ b off, A = some ⟨b, off, none⟩ ∧ ∀ (j : Nat) (f : Field), fs[j]? = some f → ∃ v n y, w.cell? ⟨b, off + (i * fs.size + j), none⟩ = some v ∧ DataW.trod enc P w 0 (fun _ => true) held n f.type [v] = some y := by
  obtain ⟨fuel, hf⟩ := h
  rcases open_slice ht hf with ⟨hcs, _⟩ | ⟨a, l, c, m, n, D, Pl, hcs, _, hl, hm, hmm, _, hx⟩
  · simp [Value.cells] at hcs
    obtain ⟨rfl, rfl, rfl⟩ := hcs
    exact ⟨Nat.le_refl _, Nat.zero_le _, fun i hi => absurd hi (by omega)⟩
  · simp [Value.cells] at hcs
    obtain ⟨rfl, rfl, rfl⟩ := hcs
    simp only [if_true] at hmm
    subst hmm
    refine ⟨hl, by omega, fun i hi => ?_⟩
    obtain ⟨cs, hc, hs⟩ := hx i (by omega)
    obtain ⟨ys, n', _, _, hlen, hyl, hfs⟩ := DataW.trod_struct he hs
    obtain ⟨_, _, hat⟩ := World.cells?_some hc
    rw [hC] at hat hlen
    have hp : ∃ b off, a = ⟨b, off, none⟩ := by
      obtain ⟨cs0, hc0, _⟩ := hx 0 (by omega)
      obtain ⟨_, hl0, hat0⟩ := World.cells?_some hc0
      rw [hC] at hat0 hl0
      have h1 := hat0 0 h0
      rw [List.getElem?_eq_getElem (by omega), add_add, show 0 * fs.size + 0 = 0 by omega] at h1
      exact plain_addr h1
    obtain ⟨b, off, rfl⟩ := hp
    refine ⟨b, off, rfl, fun j f hj => ?_⟩
    have hjl : j < fs.size := (Array.getElem?_eq_some_iff.1 hj).1
    obtain ⟨ho, hk⟩ := hone_of hone j f hj
    have hrd := hfs j f hj
    rw [ho, hk, show (cs.drop j).take 1 = [cs[j]'(by omega)] by rw [List.drop_eq_getElem_cons (by omega)]; rfl, List.getElem?_eq_getElem (by omega)] at hrd
    have h1 := hat j hjl
    rw [List.getElem?_eq_getElem (by omega), add_add, add_plain] at h1
    exact ⟨_, _, _, h1, hrd⟩
end
end Go.Proofs.YtkinnlfjcmhcoaaDoor.W
/-
  A list out of what is known of each place.
-/
namespace Go.Proofs.YtkinnlfjcmhcoaaDoor.W
theorem list_of {α : Type} (n : Nat) (Q : Nat → α → Prop) (h : ∀ i, i < n → ∃ x, Q i x) : ∃ l : List α, l.length = n ∧ ∀ i (hi : i < l.length), Q i l[i] := by
  induction n with
  | zero => exact ⟨[], rfl, fun i hi => absurd hi (by simp)⟩
  | succ n ih =>
    obtain ⟨l, hl, hq⟩ := ih (fun i hi => h i (by omega))
    obtain ⟨x, hx⟩ := h n (by omega)
    refine ⟨l ++ [x], by simp [hl], fun i hi => ?_⟩
    by_cases e : i < l.length
    · rw [List.getElem_append_left e]; exact hq i e
    · have : i = l.length := by simp at hi; omega
      subst this
      rw [List.getElem_append_right (by omega)]
      simp only [Nat.sub_self, List.getElem_cons_zero]
      rw [hl]
      exact hx
end Go.Proofs.YtkinnlfjcmhcoaaDoor.W
/-
  A slice of pairs that came in as an argument.
-/
namespace Go.Proofs.YtkinnlfjcmhcoaaDoor.W
open Go.ChangeShapes Go.WideShapes Go.ChangeAt Go.RowKit Go.Deep

noncomputable def pairFields : Array Field := match Tryd.prog.underlying 32 with
  | some (.struct fs) => fs
  | _ => #[]
theorem pair_und : Tryd.prog.underlying 32 = some (.struct pairFields) := by kernel_rfl
section
variable {H : Type} {enc : TypeId × Value → H} {w : World} {held : Bool}
theorem open_prs {A : Option Addr} {len cap : Nat} {d : DataW H} {p : List MemPlace} (h : DataW.Trod enc Tryd.prog w 0 (fun _ => true) held 22 (.slice A len cap) d p) :
    ∃ l : List KV, Prs w (.slice A len cap) l ∧ l.length ≤ maxLen := by
  obtain ⟨hc, hm, hr⟩ := open_recs Tryd.underlying22 pair_und (by kernel_rfl) (by kernel_rfl) (by rw [show pairFields.size = 2 by kernel_rfl]; decide) h
  rw [show pairFields.size = 2 by kernel_rfl] at hr
  obtain ⟨l, hl, hq⟩ := list_of len (fun i (x : KV) => ∃ b off, A = some ⟨b, off, none⟩ ∧ w.cell? ⟨b, off + i * 2, none⟩ = some (.string x.1) ∧ w.cell? ⟨b, off + i * 2 + 1, none⟩ = some (.string x.2)) (fun i hi => by
    obtain ⟨b, off, rfl, hf⟩ := hr i hi
    obtain ⟨f0, e0, t0⟩ : ∃ f : Field, pairFields[0]? = some f ∧ Tryd.prog.underlying f.type = some .string := ⟨(pairFields[0]?).getD default, by kernel_rfl, by kernel_rfl⟩
    obtain ⟨f1, e1, t1⟩ : ∃ f : Field, pairFields[1]? = some f ∧ Tryd.prog.underlying f.type = some .string := ⟨(pairFields[1]?).getD default, by kernel_rfl, by kernel_rfl⟩
    obtain ⟨v0, n0, y0, c0, r0⟩ := hf 0 f0 e0
    obtain ⟨v1, n1, y1, c1, r1⟩ := hf 1 f1 e1
    obtain ⟨a0, q0, _, _⟩ := DataW.trod_string t0 r0
    obtain ⟨a1, q1, _, _⟩ := DataW.trod_string t1 r1
    cases q0
    cases q1
    exact ⟨(a0, a1), b, off, rfl, c0, by rw [Nat.add_assoc]; exact c1⟩)
  subst hl
  exact ⟨l, ⟨A, cap, rfl, hc, hq⟩, hm⟩
end
end Go.Proofs.YtkinnlfjcmhcoaaDoor.W
/-
  Slices of strings and of bytes that came in as arguments.
-/
namespace Go.Proofs.YtkinnlfjcmhcoaaDoor.W
open Go.ChangeShapes Go.WideShapes Go.ChangeAt Go.RowKit

section
variable {H : Type} {enc : TypeId × Value → H} {P : Program} {w : World} {held : Bool}
/-- a slice of strings that came in -/
theorem open_txs {t e : TypeId} {A : Option Addr} {len cap : Nat} {d : DataW H} {p : List MemPlace} (ht : P.underlying t = some (.slice e)) (he : P.underlying e = some .string) (hc : P.cellsOf e = 1)
    (h : DataW.Trod enc P w 0 (fun _ => true) held t (.slice A len cap) d p) : ∃ ss : List ByteArray, Txs w w.heap.size (.slice A len cap) ss ∧ ss.length ≤ maxLen := by
  obtain ⟨fuel, hf⟩ := h
  rcases open_strings ht he hc hf with ⟨hcs, _⟩ | ⟨a, l, c, ss, hcs, _, hl, hm, hz, _, hcell, _⟩
  · simp [Value.cells] at hcs
    obtain ⟨rfl, rfl, rfl⟩ := hcs
    exact ⟨[], Txs.nil _ _ _ _, by simp⟩
  · simp [Value.cells] at hcs
    obtain ⟨rfl, rfl, rfl⟩ := hcs
    have hz' : ss.length = cap := by simpa using hz
    have e : (ss.take len).length = len := by rw [List.length_take]; omega
    refine ⟨ss.take len, ⟨some a, cap, by rw [e], fun i hi => ?_⟩, by rw [e]; omega⟩
    have hi' : i < ss.length := by rw [List.length_take] at hi; omega
    obtain ⟨b, off, rfl⟩ := plain_addr (hcell 0 (by omega))
    have h1 := hcell i hi'
    rw [add_plain] at h1
    refine ⟨b, off, rfl, ?_, ?_⟩
    · have := World.block_lt_of_cell? w _ h1
      exact this
    · rw [h1, List.getElem_take]
      simp [List.getD, hi']
/-- a slice of bytes that came in -/
def Bytes (w : World) (B : Nat) (v : Value) (l : List UInt8) : Prop :=
  ∃ A cap, v = .slice A l.length cap ∧ ∀ i (h : i < l.length), ∃ b off, A = some ⟨b, off, none⟩ ∧ b < B ∧ w.cell? ⟨b, off + i, none⟩ = some (.int .u8 l[i].toNat)
theorem open_u8s {t e : TypeId} {A : Option Addr} {len cap : Nat} {d : DataW H} {p : List MemPlace} (ht : P.underlying t = some (.slice e)) (he : P.underlying e = some (.int .u8)) (hc : P.cellsOf e = 1)
    (h : DataW.Trod enc P w 0 (fun _ => true) held t (.slice A len cap) d p) : ∃ l : List UInt8, Bytes w w.heap.size (.slice A len cap) l ∧ l.length ≤ maxLen := by
  obtain ⟨fuel, hf⟩ := h
  rcases open_ints ht he hc hf with ⟨hcs, _⟩ | ⟨a, l, c, zs, hcs, _, hl, hm, hz, _, hcell, hwz⟩
  · simp [Value.cells] at hcs
    obtain ⟨rfl, rfl, rfl⟩ := hcs
    exact ⟨[], ⟨none, 0, rfl, fun i h => absurd h (by simp)⟩, by simp⟩
  · simp [Value.cells] at hcs
    obtain ⟨rfl, rfl, rfl⟩ := hcs
    have hz' : zs.length = cap := by simpa using hz
    have e : ((zs.take len).map fun n => UInt8.ofNat n.toNat).length = len := by rw [List.length_map, List.length_take]; omega
    refine ⟨(zs.take len).map fun n => UInt8.ofNat n.toNat, ⟨some a, cap, by rw [e], fun i hi => ?_⟩, by rw [e]; omega⟩
    have hi' : i < zs.length := by rw [List.length_map, List.length_take] at hi; omega
    obtain ⟨b, off, rfl⟩ := plain_addr (hcell 0 (by omega))
    have h1 := hcell i hi'
    rw [add_plain] at h1
    refine ⟨b, off, rfl, ?_, ?_⟩
    · have := World.block_lt_of_cell? w _ h1
      exact this
    · have hw := bounds_u8 (hwz zs[i] (List.getElem_mem hi'))
      rw [h1, List.getElem_map, List.getElem_take, toNat_ofNat (by omega)]
      simp [List.getD, hi']
      omega
end
end Go.Proofs.YtkinnlfjcmhcoaaDoor.W
/-
  A proof that came in as an argument.
-/
namespace Go.Proofs.YtkinnlfjcmhcoaaDoor.W
open Go.ChangeShapes Go.WideShapes Go.ChangeAt Go.RowKit Go.Deep

noncomputable def pfFields : Array Field := match Tryd.prog.underlying 28 with
  | some (.struct fs) => fs
  | _ => #[]
theorem pf_und : Tryd.prog.underlying 28 = some (.struct pfFields) := by kernel_rfl
section
variable {H : Type} {enc : TypeId × Value → H} {w : World} {held : Bool}
set_option maxRecDepth 100000 in
/-- a slice of slices of strings -/
theorem open_pths {A : Option Addr} {len cap : Nat} {d : DataW H} {p : List MemPlace} (h : DataW.Trod enc Tryd.prog w 0 (fun _ => true) held 26 (.slice A len cap) d p) :
    ∃ L : List (List (List UInt8)), Pths w (.slice A len cap) L ∧ L.length ≤ maxLen := by
  obtain ⟨fuel, hf⟩ := h
  rcases open_slice Tryd.underlying26 hf with ⟨hcs, _⟩ | ⟨a, l, c, m, n, D, Pl, hcs, _, hl, hm, hmm, _, hx⟩
  · simp [Value.cells] at hcs
    obtain ⟨rfl, rfl, rfl⟩ := hcs
    exact ⟨[], Pths.nil _ _ _, by simp⟩
  · simp [Value.cells] at hcs
    obtain ⟨rfl, rfl, rfl⟩ := hcs
    simp only [if_true] at hmm
    subst hmm
    have hC : Tryd.prog.cellsOf 34 = 1 := by kernel_rfl
    obtain ⟨L, hL, hq⟩ := list_of len (fun i (q : List (List UInt8)) => ∃ b off u, a = ⟨b, off, none⟩ ∧ w.cell? ⟨b, off + i, none⟩ = some u ∧ Txs w w.heap.size u (bss q) ∧ Roomy u) (fun i hi => by
      obtain ⟨cs, hc, hs⟩ := hx i (by omega)
      obtain ⟨_, hcl, hat⟩ := World.cells?_some hc
      rw [hC] at hat hcl
      have h1 := hat 0 (by omega)
      obtain ⟨u, rfl⟩ : ∃ u, cs = [u] := by
        match cs, hcl with
        | [u], _ => exact ⟨u, rfl⟩
      rw [List.getElem?_cons_zero, Nat.mul_one] at h1
      obtain ⟨b, off, e⟩ : ∃ b off, a = ⟨b, off, none⟩ := by
        obtain ⟨cs0, hc0, _⟩ := hx 0 (by omega)
        obtain ⟨_, hl0, hat0⟩ := World.cells?_some hc0
        rw [hC] at hat0 hl0
        have h2 := hat0 0 (by omega)
        rw [List.getElem?_eq_getElem (by omega), add_add, show 0 * 1 + 0 = 0 by omega] at h2
        exact plain_addr h2
      subst e
      rw [add_add, add_plain, Nat.add_zero] at h1
      obtain ⟨A2, len2, cap2, rfl, hroom⟩ : ∃ A2 len2 cap2, u = .slice A2 len2 cap2 ∧ len2 ≤ cap2 := by
        rcases open_slice Tryd.underlying34 hs with ⟨hcs2, _⟩ | ⟨a2, l2, c2, _, _, _, _, hcs2, _, hle, _⟩
        · exact ⟨none, 0, 0, by simpa using hcs2, Nat.le_refl _⟩
        · exact ⟨some a2, l2, c2, by simpa using hcs2, hle⟩
      obtain ⟨ss, hT, _⟩ := open_txs Tryd.underlying34 Tryd.underlying9 (by kernel_rfl) (held := held) (d := D i) (p := Pl i) ⟨n, by simpa [Value.cells] using hs⟩
      exact ⟨unb ss, b, off, _, rfl, h1, by rw [bss_unb]; exact hT, _, _, _, rfl, hroom⟩)
    subst hL
    refine ⟨L, ⟨some a, _, rfl, hl, fun i q hi => ?_⟩, by omega⟩
    obtain ⟨hlt, rfl⟩ := List.getElem?_eq_some_iff.1 hi
    obtain ⟨b, off, u, rfl, h1, h2, h3⟩ := hq i hlt
    exact ⟨b, off, u, rfl, h1, h2, h3⟩
theorem array5 {α : Type} {cs : Array α} (h : cs.size = 5) : ∃ c0 c1 c2 c3 c4, cs = #[c0, c1, c2, c3, c4] := by
  obtain ⟨l⟩ := cs
  match l, h with
  | [c0, c1, c2, c3, c4], _ => exact ⟨c0, c1, c2, c3, c4, rfl⟩
structure PfIn (x : Pf) : Prop where
  n0 : -9223372036854775808 ≤ x.n
  n1 : x.n ≤ 9223372036854775807
  p0 : -9223372036854775808 ≤ x.pos
  p1 : x.pos ≤ 9223372036854775807
  ln : x.near.length ≤ maxLen
  lp : x.paths.length ≤ maxLen
set_option maxRecDepth 100000 in
theorem open_prf {r : Reach} {b0 : Nat} {v : Value} {d : DataW H} {p : List MemPlace} (hv : Value.okWide Tryd.prog w r b0 28 v) (h : DataW.Trod enc Tryd.prog w 0 (fun _ => true) held 28 v d p) : ∃ x : Pf, Prf w v x ∧ PfIn x := by
  obtain ⟨cs, rfl, hsz⟩ := okWide_struct pf_und hv
  obtain ⟨c0, c1, c2, c3, c4, rfl⟩ := array5 (hsz.trans (by kernel_rfl))
  obtain ⟨fuel, hf⟩ := h
  obtain ⟨xs, n, _, _, _, hlen, hat⟩ := DataW.trod_struct pf_und hf
  have hone : oneCellFields Tryd.prog pfFields = true := by kernel_rfl
  have hfive : pfFields.size = 5 := by kernel_rfl
  have get : ∀ j, j < 5 → ∃ y, DataW.trod enc Tryd.prog w 0 (fun _ => true) held n ((pfFields[j]?).getD default).type [[c0, c1, c2, c3, c4].getD j c0] = some y := by
    intro j hj
    have e : pfFields[j]? = some ((pfFields[j]?).getD default) := by
      rw [Array.getElem?_eq_getElem (by omega)]
      rfl
    obtain ⟨ho, hk⟩ := hone_of hone j _ e
    have h1 := hat j _ e
    rw [ho, hk, List.getElem?_eq_getElem (by omega)] at h1
    refine ⟨xs[j]'(by omega), ?_⟩
    rw [← h1]
    congr 1
    match j, hj with
    | 0, _ => rfl
    | 1, _ => rfl
    | 2, _ => rfl
    | 3, _ => rfl
    | 4, _ => rfl
  obtain ⟨y0, r0⟩ := get 0 (by omega)
  obtain ⟨y1, r1⟩ := get 1 (by omega)
  obtain ⟨y2, r2⟩ := get 2 (by omega)
  obtain ⟨y3, r3⟩ := get 3 (by omega)
  obtain ⟨y4, r4⟩ := get 4 (by omega)
  clear get hat
  obtain ⟨a0, q0, _, w0⟩ := DataW.trod_int (k := .i64) (by kernel_rfl) r0
  obtain ⟨a1, q1, _, w1⟩ := DataW.trod_int (k := .i64) (by kernel_rfl) r1
  obtain ⟨a2, q2, _⟩ := DataW.trod_bool (by kernel_rfl) r2
  have t3 : ((pfFields[3]?).getD default).type = 22 := by kernel_rfl
  have t4 : ((pfFields[4]?).getD default).type = 26 := by kernel_rfl
  rw [t3] at r3
  rw [t4] at r4
  simp only [List.getD_cons_zero, List.getD_cons_succ, List.cons.injEq, and_true] at q0 q1 q2 r3 r4
  subst q0 q1 q2
  obtain ⟨A3, len3, cap3, rfl⟩ : ∃ A2 len2 cap2, c3 = .slice A2 len2 cap2 := by
    rcases open_slice Tryd.underlying22 r3 with ⟨hcs2, _⟩ | ⟨a2, l2, c2, _, _, _, _, hcs2, _⟩
    · exact ⟨none, 0, 0, by simpa using hcs2⟩
    · exact ⟨some a2, l2, c2, by simpa using hcs2⟩
  obtain ⟨A4, len4, cap4, rfl⟩ : ∃ A2 len2 cap2, c4 = .slice A2 len2 cap2 := by
    rcases open_slice Tryd.underlying26 r4 with ⟨hcs2, _⟩ | ⟨a2, l2, c2, _, _, _, _, hcs2, _⟩
    · exact ⟨none, 0, 0, by simpa using hcs2⟩
    · exact ⟨some a2, l2, c2, by simpa using hcs2⟩
  obtain ⟨l, hP, hlm⟩ := open_prs (held := held) (d := y3.1) (p := y3.2) ⟨n, by simpa [Value.cells] using r3⟩
  obtain ⟨L, hL, hLm⟩ := open_pths (held := held) (d := y4.1) (p := y4.2) ⟨n, by simpa [Value.cells] using r4⟩
  have b0 := bounds_i64 w0
  have b1 := bounds_i64 w1
  exact ⟨⟨a0, a1, a2, l, L⟩, ⟨_, _, rfl, hP, hL⟩, ⟨b0.1, b0.2, b1.1, b1.2, hlm, hLm⟩⟩
end
end Go.Proofs.YtkinnlfjcmhcoaaDoor.W
/-
  proof.sides, increasing, Has.
-/
namespace Go.Proofs.YtkinnlfjcmhcoaaDoor.W
open Go.RowKit

def sLo (a : Int) : Int := if 0 < a then a - 1 else a
def sHi (a n : Int) : Int := if a < n then a + 1 else a
set_option maxHeartbeats 1000000 in
theorem sidesC (a n : Int) (w : World) (h0 : -9223372036854775808 ≤ a) (h2 : a ≤ 9223372036854775807) (h1 : n ≤ 9223372036854775807) :
    Calls Tryd.prog 34 #[.int .i64 a, .int .i64 n] w fun e w' => e = .returned (.tuple #[.int .i64 (sLo a), .int .i64 (sHi a n)]) ∧ w = w' := by
  by_cases ha : 0 < a
  · have e1 : sLo a = a - 1 := if_pos ha
    have w1 : IntKind.i64.wrap (a - 1) = a - 1 := IntWalk.i64_in _ (by omega)
    by_cases hn : a < n
    · have e2 : sHi a n = a + 1 := if_pos hn
      have w2 : IntKind.i64.wrap (a + 1) = a + 1 := IntWalk.i64_in _ (by omega)
      rw [e1, e2]
      clear e1 e2
      go_enter Tryd.func34, Tryd.ntmps34
      go_wp2
      go_ret2
      exact ⟨rfl, rfl⟩
    · have e2 : sHi a n = a := if_neg hn
      rw [e1, e2]
      clear e1 e2
      go_enter Tryd.func34, Tryd.ntmps34
      go_wp2
      go_ret2
      exact ⟨rfl, rfl⟩
  · have e1 : sLo a = a := if_neg ha
    by_cases hn : a < n
    · have e2 : sHi a n = a + 1 := if_pos hn
      have w2 : IntKind.i64.wrap (a + 1) = a + 1 := IntWalk.i64_in _ (by omega)
      rw [e1, e2]
      clear e1 e2
      go_enter Tryd.func34, Tryd.ntmps34
      go_wp2
      go_ret2
      exact ⟨rfl, rfl⟩
    · have e2 : sHi a n = a := if_neg hn
      rw [e1, e2]
      clear e1 e2
      go_enter Tryd.func34, Tryd.ntmps34
      go_wp2
      go_ret2
      exact ⟨rfl, rfl⟩

theorem adj_not2 {l : List KV} {k : Nat} (hk : 1 ≤ k) (h : k < l.length) (hn : kc (l[k - 1]'(by omega)).1 l[k].1 ≠ -1) : ¬ Up l := fun hu => hn (up_at hu (k - 1) k (by omega) h)
instance upDec (l : List KV) : Decidable (Up l) := by unfold Up; infer_instance
set_option maxHeartbeats 2000000 in
set_option maxRecDepth 100000 in
theorem increasingC (v : Value) (l : List KV) (w : World) (hP : Prs w v l) (hz : l.length ≤ 1000000000) :
    Calls Tryd.prog 29 #[v] w fun e w' => e = .returned (.bool (decide (Up l))) ∧ Since w w' := by
  obtain ⟨A, cap, rfl, hcap, hc⟩ := hP
  have HC := Lib.hid hc
  obtain ⟨r, hr⟩ : ∃ r, r = decide (Up l) := ⟨_, rfl⟩
  rw [← hr]
  have HR := Lib.hid hr
  clear hc hr hcap
  go_enter Tryd.func29, Tryd.ntmps29
  go_wp2
  go_loopw [3] (fun i wr => ∃ k : Nat, 1 ≤ k ∧ i = .int .i64 k ∧ Hid (Adj l k ∧ (k ≤ l.length ∨ k = 1)) ∧ Since w wr) (fun i _ => l.length - (intOf i).toNat)
  case atStart => exact ⟨1, Nat.le_refl _, rfl, Lib.hid ⟨fun i h hi => absurd hi (by omega), .inr rfl⟩, Since.refl w⟩
  case round =>
    obtain ⟨k, hk, rfl, HT, hS⟩ := hrel
    by_cases hlt : k < l.length
    · obtain ⟨b1, off1, rfl, d1, d3⟩ := HC.out k hlt
      obtain ⟨b2, off2, e2, d2, d4⟩ := HC.out (k - 1) (by omega)
      cases e2
      have c1 := hS.cell d1
      have c2 := hS.cell d2
      rw [show ((k - 1 : Nat)) * 2 = (k - 1) * 2 from rfl] at c2
      have hi0 : (0 : Int) ≤ k := by omega
      have hi1 : (k : Int) < (l.length : Int) := by omega
      have hw : IntKind.i64.wrap ((k : Int) - 1) = ((k - 1 : Nat) : Int) := by rw [IntWalk.i64_in _ (by omega)]; omega
      have hj0 : (0 : Int) ≤ ((k - 1 : Nat) : Int) := by omega
      have hj1 : ((k - 1 : Nat) : Int) < (l.length : Int) := by omega
      have hwk : IntKind.i64.wrap ((k : Int) + 1) = (k : Int) + 1 := IntWalk.i64_in _ (by omega)
      have HF := Lib.hid (fun h => adj_succ HT.out.1 hk hlt h)
      have HN := Lib.hid (fun hn => adj_not2 (l := l) hk hlt hn)
      have hless := less_str (l[k - 1]'(by omega)).1 l[k].1
      obtain ⟨x, hx⟩ : ∃ x, x = (l[k - 1]'(by omega)).1 := ⟨_, rfl⟩
      obtain ⟨y, hy⟩ : ∃ y, y = l[k].1 := ⟨_, rfl⟩
      rw [← hx] at c2 hless HF HN
      rw [← hy] at c1 hless HF HN
      clear d1 d2 d3 d4 hx hy
      generalize k - 1 = k1 at *
      by_cases h1 : kc x y = -1
      · rw [decide_eq_true h1] at hless
        go_wp2
        go_region
        go_wp2
        go_roundw
        case rel => exact ⟨k + 1, by omega, by simp, Lib.hid ⟨HF.out h1, .inl (by omega)⟩, since_of (Below.drewN hS.below 1)⟩
        case measure => simp [intOf]; omega
      · rw [decide_eq_false h1] at hless
        have h3 : r = false := by rw [HR.out]; exact decide_eq_false (HN.out h1)
        subst h3
        go_wp2
        go_region
        go_wp2
        go_ret
        exact ⟨rfl, since_of (Below.drewN hS.below 1)⟩
    · have h3 : r = true := by
        rw [HR.out]
        refine decide_eq_true (up_of_adj l ?_)
        intro i hi _
        exact HT.out.1 i hi (by rcases HT.out.2 with h | h <;> omega)
      subst h3
      have hi1 : ¬ (k : Int) < (l.length : Int) := by omega
      go_wp2
      go_ret
      exact ⟨rfl, hS⟩

/-! ### Has -/
set_option maxHeartbeats 1000000 in
set_option maxRecDepth 100000 in
theorem hasNo (root p1 p2 : ByteArray) (n pos : Int) (t : Bool) (A1 A2 : Option Addr) (m1 c1 m2 c2 : Nat) (w : World) (h : t = false ∨ m1 ≠ 0 ∨ m2 ≠ 1) :
    Calls Tryd.prog 16 #[.string root, .agg #[.string p1, .string p2], .agg #[.int .i64 n, .int .i64 pos, .bool t, .slice A1 m1 c1, .slice A2 m2 c2]] w fun e w' => e = .returned (.bool false) ∧ Since w w' := by
  have R : Since w ((w.alloc (.cells #[.string p1, .string p2] 32)).alloc (.cells #[.int .i64 n, .int .i64 pos, .bool t, .slice A1 m1 c1, .slice A2 m2 c2] 28)) := since_of (by go_grown)
  have HR := Lib.hid R
  clear R
  cases t with
  | false =>
    clear h
    go_enter Tryd.func16, Tryd.ntmps16
    go_wp2
    go_ret
    exact ⟨rfl, HR.out⟩
  | true =>
    by_cases h1 : m1 = 0
    · subst h1
      have h2 : ((m2 : Int) != 1) = true := by rw [bne_iff_ne]; rcases h with h | h | h <;> first | cases h | omega
      clear h
      go_enter Tryd.func16, Tryd.ntmps16
      go_wp2
      go_ret
      exact ⟨rfl, HR.out⟩
    · have h2 : ((m1 : Int) != 0) = true := by rw [bne_iff_ne]; omega
      clear h h1
      go_enter Tryd.func16, Tryd.ntmps16
      go_wp2
      go_ret
      exact ⟨rfl, HR.out⟩
set_option maxHeartbeats 2000000 in
set_option maxRecDepth 100000 in
theorem hasYes (root p1 p2 : ByteArray) (n pos : Int) (A1 : Option Addr) (c1 b off c2 : Nat) (u : Value) (w : World) (out : Bool) (hc : w.cell? ⟨b, off, none⟩ = some u)
    (H : Hid (∀ W, Since w W → Calls Tryd.prog 40 #[.string root, .agg #[.string p1, .string p2], u, .int .i64 pos, .int .i64 n] W fun e w' => e = .returned (.bool out) ∧ Since W w')) :
    Calls Tryd.prog 16 #[.string root, .agg #[.string p1, .string p2], .agg #[.int .i64 n, .int .i64 pos, .bool true, .slice A1 0 c1, .slice (some ⟨b, off, none⟩) 1 c2]] w fun e w' => e = .returned (.bool out) ∧ Since w w' := by
  have R : Since w ((w.alloc (.cells #[.string p1, .string p2] 32)).alloc (.cells #[.int .i64 n, .int .i64 pos, .bool true, .slice A1 0 c1, .slice (some ⟨b, off, none⟩) 1 c2] 28)) := since_of (by go_grown)
  have k1 := (Blk.new w 32 #[.string p1, .string p2]).alloc (.cells #[.int .i64 n, .int .i64 pos, .bool true, .slice A1 0 c1, .slice (some ⟨b, off, none⟩) 1 c2] 28)
  have k2 := Blk.new (w.alloc (.cells #[.string p1, .string p2] 32)) 28 #[.int .i64 n, .int .i64 pos, .bool true, .slice A1 0 c1, .slice (some ⟨b, off, none⟩) 1 c2]
  rw [show (w.alloc (.cells #[.string p1, .string p2] 32)).heap.size = w.heap.size + 1 by simp] at k2
  have q0 := k1.cell 0
  have q1 := k1.cell 1
  have q2 := k2.cell 0
  have q3 := k2.cell 1
  have q4 := k2.cell 4
  have q5 := R.cell hc
  have HR := Lib.hid R
  clear R k1 k2 hc
  go_enter Tryd.func16, Tryd.ntmps16
  go_wp2
  generalize (w.alloc (.cells #[.string p1, .string p2] 32)).alloc (.cells #[.int .i64 n, .int .i64 pos, .bool true, .slice A1 0 c1, .slice (some ⟨b, off, none⟩) 1 c2] 28) = V at *
  have r0 := HR.out
  simp only [List.getElem?_toArray, List.getElem?_cons_zero, List.getElem?_cons_succ] at q0 q1 q2 q3 q4
  go_region_held3 (fun W => W.cell? ⟨w.heap.size, 0, none⟩ = some (.string p1) ∧ W.cell? ⟨w.heap.size, 1, none⟩ = some (.string p2) ∧ W.cell? ⟨w.heap.size + 1, 0, none⟩ = some (.int .i64 n) ∧ W.cell? ⟨w.heap.size + 1, 1, none⟩ = some (.int .i64 pos) ∧ W.cell? ⟨w.heap.size + 1, 4, none⟩ = some (.slice (some ⟨b, off, none⟩) 1 c2) ∧ W.cell? ⟨b, off, none⟩ = some u)
    (first | exact ⟨s5.cell q0, s5.cell q1, s5.cell q2, s5.cell q3, s5.cell q4, s5.cell q5⟩ | go_keep)
    (first
      | (go_at_call 40; refine (H.out _ (by exact r0)).mono ?_; clear H; rintro en w5 ⟨rfl, s5⟩))
  all_goals go_wp2
  all_goals go_ret
  all_goals exact ⟨rfl, since_of (step_below (Below.drewN r0.below 1) s5.below)⟩
theorem hasC (root : List UInt8) (p : KV) (x : Pf) (v : Value) (w : World) (hP : Prf w v x) (hr : Roots w) (hn : x.n ≤ 9223372036854775807) (hq : ∀ q ∈ x.paths, q.length ≤ 1000000 ∧ ∀ y ∈ q, y.length ≤ 1000) :
    Calls Tryd.prog 16 #[.string (bs root), .agg #[.string p.1, .string p.2], v] w fun e w' => e = .returned (.bool (hasP root p x)) ∧ Since w w' := by
  obtain ⟨n, pos, there, near, paths⟩ := x
  obtain ⟨nv, pv, rfl, ⟨A1, c1, rfl, _, _⟩, ⟨A2, c2, rfl, _, hc⟩⟩ := hP
  simp only at hn hq hc ⊢
  by_cases h : there = true ∧ near = [] ∧ paths.length = 1
  · obtain ⟨rfl, rfl, h3⟩ := h
    obtain ⟨q, rfl⟩ := List.length_eq_one_iff.1 h3
    obtain ⟨b, off, u, rfl, d, hT, hR⟩ := hc 0 q rfl
    have h4 := hq q (by simp)
    rw [Nat.add_zero] at d
    exact hasYes (bs root) p.1 p.2 n pos A1 c1 b off c2 u w _ d (Lib.hid fun W hW => reachC root p q u pos n W ((hT.below hW.below).more hW.2.2.2.1) hR (roots_since hr hW) hn h4.1 h4.2)
  · have e : hasP root p ⟨n, pos, there, near, paths⟩ = false := by
      match there, near, paths with
      | false, _, _ => rfl
      | true, _ :: _, _ => rfl
      | true, [], [] => rfl
      | true, [], [_] => exact absurd ⟨rfl, rfl, rfl⟩ h
      | true, [], _ :: _ :: _ => rfl
    rw [e]
    refine hasNo (bs root) p.1 p.2 n pos there A1 A2 near.length c1 paths.length c2 w ?_
    cases there with
    | false => exact .inl rfl
    | true =>
      right
      by_cases h1 : near = []
      · exact .inr fun h2 => h ⟨rfl, h1, h2⟩
      · exact .inl fun h2 => h1 (List.eq_nil_of_length_eq_zero h2)
end Go.Proofs.YtkinnlfjcmhcoaaDoor.W
/-
  The reference's Rises; footbridgelaw12.few, small: are pairs not too many, and too long; is a proof not too great?
-/
namespace Go.Proofs.YtkinnlfjcmhcoaaDoor.W
open Go.RowKit

set_option maxHeartbeats 2000000 in
set_option maxRecDepth 100000 in
theorem risesC (v : Value) (l : List KV) (w : World) (hP : Prs w v l) (hz : l.length ≤ 1000000000) :
    Calls Tryd.prog 22 #[v] w fun e w' => e = .returned (.bool (decide (Up l))) ∧ Since w w' := by
  obtain ⟨A, cap, rfl, hcap, hc⟩ := hP
  have HC := Lib.hid hc
  obtain ⟨r, hr⟩ : ∃ r, r = decide (Up l) := ⟨_, rfl⟩
  rw [← hr]
  have HR := Lib.hid hr
  clear hc hr hcap
  go_enter Tryd.func22, Tryd.ntmps22
  go_wp2
  go_loopw [3] (fun i wr => ∃ k : Nat, 1 ≤ k ∧ i = .int .i64 k ∧ Hid (Adj l k ∧ (k ≤ l.length ∨ k = 1)) ∧ Since w wr) (fun i _ => l.length - (intOf i).toNat)
  case atStart => exact ⟨1, Nat.le_refl _, rfl, Lib.hid ⟨fun i h hi => absurd hi (by omega), .inr rfl⟩, Since.refl w⟩
  case round =>
    obtain ⟨k, hk, rfl, HT, hS⟩ := hrel
    by_cases hlt : k < l.length
    · obtain ⟨b1, off1, rfl, d1, d3⟩ := HC.out k hlt
      obtain ⟨b2, off2, e2, d2, d4⟩ := HC.out (k - 1) (by omega)
      cases e2
      have c1 := hS.cell d1
      have c2 := hS.cell d2
      rw [show ((k - 1 : Nat)) * 2 = (k - 1) * 2 from rfl] at c2
      have hi0 : (0 : Int) ≤ k := by omega
      have hi1 : (k : Int) < (l.length : Int) := by omega
      have hw : IntKind.i64.wrap ((k : Int) - 1) = ((k - 1 : Nat) : Int) := by rw [IntWalk.i64_in _ (by omega)]; omega
      have hj0 : (0 : Int) ≤ ((k - 1 : Nat) : Int) := by omega
      have hj1 : ((k - 1 : Nat) : Int) < (l.length : Int) := by omega
      have hwk : IntKind.i64.wrap ((k : Int) + 1) = (k : Int) + 1 := IntWalk.i64_in _ (by omega)
      have HF := Lib.hid (fun h => adj_succ HT.out.1 hk hlt h)
      have HN := Lib.hid (fun hn => adj_not2 (l := l) hk hlt hn)
      have hless := less_str (l[k - 1]'(by omega)).1 l[k].1
      obtain ⟨x, hx⟩ : ∃ x, x = (l[k - 1]'(by omega)).1 := ⟨_, rfl⟩
      obtain ⟨y, hy⟩ : ∃ y, y = l[k].1 := ⟨_, rfl⟩
      rw [← hx] at c2 hless HF HN
      rw [← hy] at c1 hless HF HN
      clear d1 d2 d3 d4 hx hy
      generalize k - 1 = k1 at *
      by_cases h1 : kc x y = -1
      · rw [decide_eq_true h1] at hless
        go_wp2
        go_region
        go_wp2
        go_roundw
        case rel => exact ⟨k + 1, by omega, by simp, Lib.hid ⟨HF.out h1, .inl (by omega)⟩, since_of (Below.drewN hS.below 1)⟩
        case measure => simp [intOf]; omega
      · rw [decide_eq_false h1] at hless
        have h3 : r = false := by rw [HR.out]; exact decide_eq_false (HN.out h1)
        subst h3
        go_wp2
        go_region
        go_wp2
        go_ret
        exact ⟨rfl, since_of (Below.drewN hS.below 1)⟩
    · have h3 : r = true := by
        rw [HR.out]
        refine decide_eq_true (up_of_adj l ?_)
        intro i hi _
        exact HT.out.1 i hi (by rcases HT.out.2 with h | h <;> omega)
      subst h3
      have hi1 : ¬ (k : Int) < (l.length : Int) := by omega
      go_wp2
      go_ret
      exact ⟨rfl, hS⟩

/-! ### few -/
abbrev Brief (l : List KV) : Prop := ∀ p ∈ l, p.1.size ≤ 100 ∧ p.2.size ≤ 100
theorem brief_not {l : List KV} (k : Nat) (h : k < l.length) (hn : 100 < l[k].1.size ∨ 100 < l[k].2.size) : ¬ Brief l := fun hs => by
  have := hs l[k] (List.getElem_mem h)
  omega
theorem brief_take {l : List KV} (k : Nat) (h : k < l.length) (hs : Brief (l.take k)) (h1 : l[k].1.size ≤ 100) (h2 : l[k].2.size ≤ 100) : Brief (l.take (k + 1)) := by
  intro p hp
  rw [List.take_succ_eq_append_getElem h, List.mem_append, List.mem_singleton] at hp
  rcases hp with hp | rfl
  · exact hs p hp
  · exact ⟨h1, h2⟩
set_option maxHeartbeats 1000000 in
set_option maxRecDepth 100000 in
theorem few12C (v : Value) (l : List KV) (m : Nat) (w : World) (hP : Prs w v l) (hm : m ≤ 1000) :
    Calls Tryd.prog 8 #[v, .int .i64 m] w fun e w' => e = .returned (.bool (decide (l.length ≤ m ∧ Brief l))) ∧ Below w.heap.size w w' := by
  obtain ⟨A, cap, rfl, hcap, hc⟩ := hP
  have HC := Lib.hid hc
  obtain ⟨r, hr⟩ : ∃ r, r = decide (l.length ≤ m ∧ Brief l) := ⟨_, rfl⟩
  rw [← hr]
  have HR := Lib.hid hr
  clear hc hr hcap
  by_cases hlen : l.length ≤ m
  · have hd : decide (m < l.length) = false := decide_eq_false (by omega)
    go_enter Tryd.func8, Tryd.ntmps8
    go_wp2
    go_loopw [5] (fun i wr => ∃ k : Nat, k ≤ l.length ∧ i = .int .i64 k ∧ Hid (Brief (l.take k)) ∧ Below w.heap.size w wr) (fun i _ => l.length - (intOf i).toNat)
    case atStart => exact ⟨0, Nat.zero_le _, rfl, Lib.hid (fun p hp => by simp at hp), Below.refl _ _⟩
    case round =>
      obtain ⟨k, hk, rfl, HT, hbel⟩ := hrel
      by_cases hlt : k < l.length
      · obtain ⟨b1, off1, rfl, d1, d2⟩ := HC.out k hlt
        have c1 := (since_of hbel).cell d1
        have c2 := (since_of hbel).cell d2
        have hi0 : (0 : Int) ≤ k := by omega
        have hi1 : (k : Int) < (l.length : Int) := by omega
        have HF := Lib.hid (brief_take k hlt HT.out)
        have HN := Lib.hid (brief_not k hlt)
        obtain ⟨⟨x1, x2⟩, hx⟩ : ∃ x : KV, x = l[k] := ⟨_, rfl⟩
        rw [← hx] at c1 c2 HF HN
        simp only at c1 c2 HF HN
        clear d1 d2 hx
        by_cases h1 : x1.size ≤ 100
        · by_cases h2 : x2.size ≤ 100
          · go_wp2
            go_roundw
            case rel =>
              exact ⟨k + 1, by omega, by go_num, Lib.hid (HF.out h1 h2), hbel⟩
            case measure => simp [intOf]; omega
          · have h3 : r = false := by rw [HR.out]; exact decide_eq_false (fun e => HN.out (.inr (by omega)) e.2)
            subst h3
            go_wp2
            go_ret
            exact ⟨rfl, hbel⟩
        · have h3 : r = false := by rw [HR.out]; exact decide_eq_false (fun e => HN.out (.inl (by omega)) e.2)
          subst h3
          go_wp2
          go_ret
          exact ⟨rfl, hbel⟩
      · obtain rfl : k = l.length := by omega
        have h3 : r = true := by rw [HR.out]; exact decide_eq_true ⟨hlen, by have := HT.out; rwa [List.take_length] at this⟩
        subst h3
        go_wp2
        go_ret
        exact ⟨rfl, hbel⟩
  · have h3 : r = false := by rw [HR.out]; exact decide_eq_false (fun e => hlen e.1)
    subst h3
    go_enter Tryd.func8, Tryd.ntmps8
    go_wp2
    go_ret
    exact ⟨rfl, Below.refl _ _⟩

/-! ### small -/
/-- a proof that is not too great -/
def Slim (x : Pf) : Prop := (x.near.length ≤ 4 ∧ x.paths.length ≤ 4) ∧ Short x.near ∧ ∀ q ∈ x.paths, q.length ≤ 60 ∧ ∀ y ∈ q, y.length ≤ 100
instance slimDec (x : Pf) : Decidable (Slim x) := by unfold Slim; infer_instance
end Go.Proofs.YtkinnlfjcmhcoaaDoor.W
/-
  footbridgelaw12.small: is a proof not too great?
-/
namespace Go.Proofs.YtkinnlfjcmhcoaaDoor.W
open Go.RowKit

theorem sh_not {l : List KV} (k : Nat) (h : k < l.length) (hn : 200 < l[k].1.size ∨ 200 < l[k].2.size) : ¬ Short l := fun hs => by
  have := hs l[k] (List.getElem_mem h)
  omega
theorem sh_take {l : List KV} (k : Nat) (h : k < l.length) (hs : Short (l.take k)) (h1 : l[k].1.size ≤ 200) (h2 : l[k].2.size ≤ 200) : Short (l.take (k + 1)) := by
  intro p hp
  rw [List.take_succ_eq_append_getElem h, List.mem_append, List.mem_singleton] at hp
  rcases hp with hp | rfl
  · exact hs p hp
  · exact ⟨h1, h2⟩
abbrev Thin (q : List (List UInt8)) : Prop := ∀ y ∈ q, y.length ≤ 100
abbrev Thin1 (q : List (List UInt8)) : Prop := q.length ≤ 60 ∧ Thin q
theorem thin_take {q : List (List UInt8)} (k : Nat) (h : k < q.length) (hs : Thin (q.take k)) (h1 : q[k].length ≤ 100) : Thin (q.take (k + 1)) := by
  intro p hp
  rw [List.take_succ_eq_append_getElem h, List.mem_append, List.mem_singleton] at hp
  rcases hp with hp | rfl
  · exact hs p hp
  · exact h1
theorem lean_take {L : List (List (List UInt8))} (k : Nat) (h : k < L.length) (hs : ∀ q ∈ L.take k, Thin1 q) (h1 : Thin1 L[k]) : ∀ q ∈ L.take (k + 1), Thin1 q := by
  intro p hp
  rw [List.take_succ_eq_append_getElem h, List.mem_append, List.mem_singleton] at hp
  rcases hp with hp | rfl
  · exact hs p hp
  · exact h1
set_option maxHeartbeats 4000000 in
set_option maxRecDepth 100000 in
theorem smallC (v : Value) (x : Pf) (w : World) (hP : Prf w v x) (hm : x.near.length ≤ maxLen) (hm2 : x.paths.length ≤ maxLen) :
    Calls Tryd.prog 13 #[v] w fun e w' => e = .returned (.bool (decide (Slim x))) ∧ Since w w' := by
  obtain ⟨r, hr⟩ : ∃ r, r = decide (Slim x) := ⟨_, rfl⟩
  rw [← hr]
  obtain ⟨n, pos, t, near, paths⟩ := x
  obtain ⟨nv, pv, rfl, ⟨A1, c1, rfl, _, hc1⟩, ⟨A2, c2, rfl, _, hc⟩⟩ := hP
  have HR := Lib.hid hr
  unfold Slim at HR
  simp only at HR hm hm2 hc hc1 ⊢
  have HC1 := Lib.hid hc1
  have HC := Lib.hid hc
  have k0 := Blk.new w 28 #[.int .i64 n, .int .i64 pos, .bool t, .slice A1 near.length c1, .slice A2 paths.length c2]
  have R : Since w (w.alloc (.cells #[.int .i64 n, .int .i64 pos, .bool t, .slice A1 near.length c1, .slice A2 paths.length c2] 28)) := since_of ((Below.refl _ w).alloc (Nat.le_refl _) _)
  have q3 := (k0.cell 3).trans (by rfl : _ = some (Value.slice A1 near.length c1))
  have q4 := (k0.cell 4).trans (by rfl : _ = some (Value.slice A2 paths.length c2))
  have HV := Lib.hid R
  clear hr hc hc1 k0 R hm hm2
  by_cases h1 : near.length ≤ 4
  · by_cases h2 : paths.length ≤ 4
    · go_enter Tryd.func13, Tryd.ntmps13
      go_wp2
      generalize w.alloc (.cells #[.int .i64 n, .int .i64 pos, .bool t, .slice A1 near.length c1, .slice A2 paths.length c2] 28) = V at *
      go_loopw [3] (fun i wr => ∃ k : Nat, k ≤ near.length ∧ i = .int .i64 k ∧ Hid (Short (near.take k)) ∧ Since V wr) (fun i _ => near.length - (intOf i).toNat)
      case atStart => exact ⟨0, Nat.zero_le _, rfl, Lib.hid (fun p hp => by simp at hp), Since.refl V⟩
      case round =>
        obtain ⟨k, hk, rfl, HT, hS⟩ := hrel
        have y3 := hS.cell q3
        by_cases hlt : k < near.length
        · obtain ⟨b1, o1, rfl, d1, d2⟩ := HC1.out k hlt
          have SW := since_of (step_below HV.out.below hS.below)
          have z1 := SW.cell d1
          have z2 := SW.cell d2
          have hi0 : (0 : Int) ≤ k := by omega
          have hi1 : (k : Int) < (near.length : Int) := by omega
          have HF := Lib.hid (sh_take k hlt HT.out)
          have HN := Lib.hid (sh_not k hlt)
          obtain ⟨⟨x1, x2⟩, hx⟩ : ∃ x : KV, x = near[k] := ⟨_, rfl⟩
          rw [← hx] at z1 z2 HF HN
          simp only at z1 z2 HF HN
          clear d1 d2 hx SW
          by_cases g1 : x1.size ≤ 200
          · by_cases g2 : x2.size ≤ 200
            · go_wp2
              go_roundw
              case rel => exact ⟨k + 1, by omega, by go_num, Lib.hid (HF.out g1 g2), hS⟩
              case measure => simp [intOf]; omega
            · have h3 : r = false := by rw [HR.out]; exact decide_eq_false (fun e => HN.out (.inr (by omega)) e.2.1)
              subst h3
              go_wp2
              go_ret
              exact ⟨rfl, since_of (step_below HV.out.below hS.below)⟩
          · have h3 : r = false := by rw [HR.out]; exact decide_eq_false (fun e => HN.out (.inl (by omega)) e.2.1)
            subst h3
            go_wp2
            go_ret
            exact ⟨rfl, since_of (step_below HV.out.below hS.below)⟩
        · obtain rfl : k = near.length := by omega
          have HSH := Lib.hid (show Short near by have := HT.out; rwa [List.take_length] at this)
          have y4 := hS.cell q4
          have HV2 := Lib.hid (show Since w wr from since_of (step_below HV.out.below hS.below))
          clear HT HC1 HV
          rename World => w1
          go_wp2
          go_loopw [4, 5] (fun i _ wr => ∃ k : Nat, k ≤ paths.length ∧ i = .int .i64 k ∧ Hid (∀ q ∈ paths.take k, Thin1 q) ∧ Since w1 wr) (fun i _ _ => paths.length - (intOf i).toNat)
          case atStart => exact ⟨0, Nat.zero_le _, rfl, Lib.hid (fun p hp => by simp at hp), Since.refl w1⟩
          case round =>
            obtain ⟨k, hk2, rfl, HT2, hS2⟩ := hrel
            have y4' := hS2.cell y4
            by_cases hlt : k < paths.length
            · obtain ⟨b2, o2, u, rfl, d3, hT, _⟩ := HC.out k _ (List.getElem?_eq_getElem hlt)
              obtain ⟨A5, c5, rfl, hX⟩ := txAt_of hT
              have HX := Lib.hid hX
              have z3 := (since_of (step_below HV2.out.below hS2.below)).cell d3
              have hi0 : (0 : Int) ≤ k := by omega
              have hi1 : (k : Int) < (paths.length : Int) := by omega
              have HF := Lib.hid (lean_take k hlt HT2.out)
              have HM := Lib.hid (List.getElem_mem hlt)
              obtain ⟨q, hq⟩ : ∃ q, q = paths[k] := ⟨_, rfl⟩
              rw [← hq] at z3 HX HF HM
              clear d3 hT hX hq
              by_cases g1 : q.length ≤ 60
              · have HV3 := Lib.hid (since_of (step_below HV2.out.below hS2.below))
                have g5 : (q.length : Int) ≤ 60 := by omega
                rename World => w2
                go_wp2
                go_loopw [5] (fun i wr => ∃ j : Nat, j ≤ q.length ∧ i = .int .i64 j ∧ Hid (Thin (q.take j)) ∧ Since w2 wr) (fun i _ => q.length - (intOf i).toNat)
                case atStart => exact ⟨0, Nat.zero_le _, rfl, Lib.hid (fun p hp => by simp at hp), Since.refl w2⟩
                case round =>
                  obtain ⟨j, hj, rfl, HJ, hS3⟩ := hrel
                  have y5 := hS3.cell y4'
                  have z5 := hS3.cell z3
                  by_cases hlj : j < q.length
                  · obtain ⟨b6, o6, rfl, d6⟩ := HX.out j hlj
                    have z6 := (since_of (step_below HV3.out.below hS3.below)).cell d6
                    have ji0 : (0 : Int) ≤ j := by omega
                    have ji1 : (j : Int) < (q.length : Int) := by omega
                    have HJ1 := Lib.hid (thin_take j hlj HJ.out)
                    have HJ2 := Lib.hid (List.getElem_mem hlj)
                    have hbs := bs_size q[j]
                    generalize q[j] = y at *
                    by_cases g3 : y.length ≤ 100
                    · have g4 : (bs y).size ≤ 100 := by omega
                      go_wp2
                      go_roundw
                      case rel => exact ⟨j + 1, by omega, by go_num, Lib.hid (HJ1.out g3), hS3⟩
                      case measure => simp [intOf]; omega
                    · have g4 : ¬ (bs y).size ≤ 100 := by omega
                      have h3 : r = false := by rw [HR.out]; exact decide_eq_false (fun e => g3 ((e.2.2 q HM.out).2 y HJ2.out))
                      subst h3
                      go_wp2
                      go_ret
                      exact ⟨rfl, since_of (step_below HV3.out.below hS3.below)⟩
                  · obtain rfl : j = q.length := by omega
                    have HQ1 := Lib.hid (show Thin1 q from ⟨g1, by have := HJ.out; rwa [List.take_length] at this⟩)
                    go_wp2
                    go_roundw
                    case rel => exact ⟨k + 1, by omega, by go_num, Lib.hid (HF.out HQ1.out), since_of (step_below hS2.below hS3.below)⟩
                    case measure => simp [intOf]; omega
              · have h3 : r = false := by rw [HR.out]; exact decide_eq_false (fun e => g1 (e.2.2 q HM.out).1)
                subst h3
                have g5 : (60 : Int) < (q.length : Int) := by omega
                go_wp2
                go_ret
                exact ⟨rfl, since_of (step_below HV2.out.below hS2.below)⟩
            · obtain rfl : k = paths.length := by omega
              have h3 : r = true := by rw [HR.out]; exact decide_eq_true ⟨⟨h1, h2⟩, HSH.out, by have := HT2.out; rwa [List.take_length] at this⟩
              subst h3
              go_wp2
              go_ret
              exact ⟨rfl, since_of (step_below HV2.out.below hS2.below)⟩
    · have h3 : r = false := by rw [HR.out]; exact decide_eq_false (fun e => h2 e.1.2)
      subst h3
      go_enter Tryd.func13, Tryd.ntmps13
      go_wp2
      go_ret
      exact ⟨rfl, HV.out⟩
  · have h3 : r = false := by rw [HR.out]; exact decide_eq_false (fun e => h1 e.1.1)
    subst h3
    go_enter Tryd.func13, Tryd.ntmps13
    go_wp2
    go_ret
    exact ⟨rfl, HV.out⟩
end Go.Proofs.YtkinnlfjcmhcoaaDoor.W
/-
  package proof's writer: a strings.Builder inside a struct; add, done.
-/
namespace Go.Proofs.YtkinnlfjcmhcoaaDoor.W
open Go.RowKit

/-- the writer at block b (one of the call's own: from B on) holds the bytes l and the error e -/
def WrAt (B b : Nat) (l : List UInt8) (e : Int) (w : World) : Prop :=
  B ≤ b ∧ B ≤ w.heap.size ∧ ∃ p v, (p = .pointer none ∨ p = .pointer (some ⟨b, 0, none⟩)) ∧ Blk w b 78 #[p, v, .int .i64 e] ∧ w.ownsRow B 5 1 v l.length (cells l)
theorem infoBld : (Tryd.prog.info? 76).map (fun i => i.size) = some 2 := by kernel_rfl
theorem liesBld : liesAt Tryd.prog Tryd.prog.depth 78 (3 / Tryd.prog.cellsOf 78) 0 76 1 = true := by kernel_rfl
theorem own_type_ne {w : World} {B b k n : Nat} {v : Value} {xs : List Value} {cs : Array Value} (hown : w.ownsRow B 5 k v n xs) (hb : Blk w b 78 cs) : v.ownBlock ≠ some b := by
  rcases hown.2 with ⟨rfl, _⟩ | ⟨g, cap, cur, rfl, _, hg, _⟩
  · simp [Value.ownBlock]
  · intro h
    simp only [Value.ownBlock, Option.some.injEq] at h
    subst h
    unfold Blk at hb
    rw [hg] at hb
    simp only [Option.some.injEq, Obj.cells.injEq] at hb
    exact absurd hb.2.1 (by decide)
theorem own_any_ne {w : World} {B b k n : Nat} {t : TypeId} {v : Value} {xs : List Value} {cs : Array Value} (hown : w.ownsRow B 5 k v n xs) (ht : t ≠ 5) (hb : Blk w b t cs) : v.ownBlock ≠ some b := by
  rcases hown.2 with ⟨rfl, _⟩ | ⟨g, cap, cur, rfl, _, hg, _⟩
  · simp [Value.ownBlock]
  · intro h
    simp only [Value.ownBlock, Option.some.injEq] at h
    subst h
    unfold Blk at hb
    rw [hg] at hb
    simp only [Option.some.injEq, Obj.cells.injEq] at hb
    exact ht hb.2.1.symm
/-- a step of the writer at b: whatever is no row of bytes and not the writer stays -/
def Keeps (b : Nat) (W w' : World) : Prop := ∀ g t cs, t ≠ 5 → g ≠ b → Blk W g t cs → Blk w' g t cs
theorem own_set {w : World} {B b k n i : Nat} {v u : Value} {xs : List Value} (hown : w.ownsRow B 5 k v n xs) (hne : v.ownBlock ≠ some b) : (w.setCell ⟨b, i, none⟩ u).ownsRow B 5 k v n xs :=
  hown.kept (row := some b) ⟨rfl, rfl, rfl, by simp [World.setCell], fun k _ hk => Below.heap_setCell _ _ _ _ (fun e => hk (by simp [e]))⟩ (Or.inr hne)

set_option maxHeartbeats 1000000 in
set_option maxRecDepth 100000 in
theorem checkUsed (b : Nat) (w : World) (h0 : w.cell? ⟨b, 0, none⟩ = some (.pointer (some ⟨b, 0, none⟩))) :
    Calls Tryd.prog 91 #[.pointer (some ⟨b, 0, none⟩)] w fun e w' => e = .returned (.tuple #[]) ∧ w' = w := by
  obtain ⟨j, hj, _⟩ := Option.map_eq_some_iff.1 infoBld
  go_enter Tryd.func91, Tryd.ntmps91
  go_wp2
  rw [Lib.run_neq_ptr_same w _ Tryd.underlying73 hj]
  go_wp2
  go_end0
  exact ⟨rfl, rfl⟩
set_option maxHeartbeats 1000000 in
set_option maxRecDepth 100000 in
theorem checkFresh (b : Nat) (w : World) (h0 : w.cell? ⟨b, 0, none⟩ = some (.pointer none)) (hsh : w.shape? b = some (78, 3)) (hfz : w.frozen? ⟨b, 0, none⟩ = false) :
    Calls Tryd.prog 91 #[.pointer (some ⟨b, 0, none⟩)] w fun e w' => e = .returned (.tuple #[]) ∧ w' = w.setCell ⟨b, 0, none⟩ (.pointer (some ⟨b, 0, none⟩)) := by
  obtain ⟨j, hj, hjs⟩ := Option.map_eq_some_iff.1 infoBld
  go_enter Tryd.func91, Tryd.ntmps91
  go_wp2
  rw [Lib.run_to_unsafe w ⟨b, 0, none⟩ Tryd.underlying73 Tryd.underlying144 hj (by rw [hjs]; decide) hsh (Nat.zero_lt_succ 2)]
  simp only [Result.andThen]
  rw [Oper.upon_value]
  go_wp2
  rw [run_callFunc_extern Tryd.func97 (by kernel_rfl) (by kernel_rfl) (by kernel_rfl) (e := Extern.AbiNoEscape.same) (by kernel_rfl)]
  rw [Lib.run_noEscape]
  simp only [Result.andThen]
  rw [Oper.upon_value]
  go_wp2
  rw [Lib.run_from_unsafe w ⟨b, 0, none⟩ Tryd.underlying144 Tryd.underlying73 hj hsh liesBld]
  simp only [Result.andThen]
  rw [Oper.upon_value]
  go_wp2
  go_end0
  exact ⟨rfl, rfl⟩
theorem checkC {B b : Nat} {l : List UInt8} {e : Int} {w : World} (h : WrAt B b l e w) :
    Calls Tryd.prog 91 #[.pointer (some ⟨b, 0, none⟩)] w fun en w' => en = .returned (.tuple #[]) ∧ w.grownBy w' (some b) ∧ ∃ v, Blk w' b 78 #[.pointer (some ⟨b, 0, none⟩), v, .int .i64 e] ∧ w'.ownsRow B 5 1 v l.length (cells l) := by
  obtain ⟨h1, h2, p, v, hp, hb, hown⟩ := h
  have hne := own_type_ne hown hb
  rcases hp with rfl | rfl
  · refine (checkFresh b w (hb.cell 0) (by unfold Blk at hb; simp [World.shape?, hb]) (hb.frozen 0)).mono ?_
    rintro en w' ⟨rfl, rfl⟩
    exact ⟨rfl, only_set (only_refl w (some b)) 0 _, v, hb.set_ 0 _, own_set hown hne⟩
  · refine (checkUsed b w (hb.cell 0)).mono ?_
    rintro en w' ⟨rfl, rfl⟩
    exact ⟨rfl, only_refl _ _, v, hb, hown⟩
set_option maxHeartbeats 2000000 in
set_option maxRecDepth 100000 in
theorem writeC {B b : Nat} {l : List UInt8} {e : Int} {w : World} (h : WrAt B b l e w) (s : ByteArray) (hlen : l.length + s.size ≤ 1000000000) :
    Calls Tryd.prog 77 #[.pointer (some ⟨b, 0, none⟩), .string s] w fun en w' => en = .returned (.tuple #[.int .i64 s.size, .nilIface]) ∧ WrAt B b (l ++ s.data.toList) e w' ∧ Below B w w' ∧ Keeps b w w' := by
  obtain ⟨i0, hi, hz0, hz1, hz2⟩ := info_parts infoU8
  have hBb := h.1
  have hBw := h.2.1
  have K := Lib.hid (checkC h)
  clear h
  go_enter Tryd.func77, Tryd.ntmps77
  go_wp2_with fail
  refine K.out.mono ?_
  rintro en w1 ⟨rfl, hg1, v, hbk, hown⟩
  have hb1 := Lib.hid (below_of_only hg1 hBb hBw)
  have HG1 := Lib.hid hg1
  have hne := own_type_ne hown hbk
  have c0 : w1.cell? ⟨b, 0, none⟩ = some (.pointer (some ⟨b, 0, none⟩)) := hbk.cell 0
  have c1 : w1.cell? ⟨b, 1, none⟩ = some v := hbk.cell 1
  clear K hg1
  go_wp2_with (at_builtin; refine Lib.wpList_append_own_string _ rfl _ _ 74 9 rfl B 5 i0 Tryd.underlying74 Tryd.underlying9 hi hz0 hz1 hz2 _ _ _ rfl hown s rfl ?c3 ?c4 ?c5 ?_)
  case c3 => unfold maxLen; omega
  case c4 => omega
  case c5 => have := hb1.out.size; omega
  intro v' w2 hown' hgrow _
  have hb2 : Blk w2 b 78 #[.pointer (some ⟨b, 0, none⟩), v, .int .i64 e] := hbk.grown hgrow (fun e => hne e.symm)
  have d0 : w2.cell? ⟨b, 0, none⟩ = some (.pointer (some ⟨b, 0, none⟩)) := hb2.cell 0
  have d1 : w2.cell? ⟨b, 1, none⟩ = some v := hb2.cell 1
  have f1 : w2.frozen? ⟨b, 1, none⟩ = false := hb2.frozen 1
  obtain ⟨ao, n', cap, rfl⟩ : ∃ ao n' cap, v' = .slice ao n' cap := by
    rcases hown'.2 with ⟨hv, _⟩ | ⟨g, cap, cur, hv, _⟩
    · exact ⟨_, _, _, hv⟩
    · exact ⟨_, _, _, hv⟩
  have R : WrAt B b (l ++ s.data.toList) e (w2.setCell ⟨b, 1, none⟩ (.slice ao n' cap)) ∧ Below B w (w2.setCell ⟨b, 1, none⟩ (.slice ao n' cap)) ∧ Keeps b w (w2.setCell ⟨b, 1, none⟩ (.slice ao n' cap)) := by
    have hbel : Below B w w2 := hb1.out.grown hgrow (by have := hb1.out.size; omega) (fun k hk => (hown.lt k hk).1)
    refine ⟨⟨hBb, by have := hbel.size; simp [World.setCell]; omega, _, _, .inr rfl, hb2.set_ 1 _, own_set ?_ (own_type_ne hown' hb2)⟩, hbel.setCell (p := ⟨b, 1, none⟩) hBb _, fun g t cs h1 h2 h3 => ?_⟩
    rotate_left
    · have h4 := h3.grown HG1.out (fun e => h2 (by injection e))
      exact (h4.grown hgrow (fun e => own_any_ne hown h1 h4 e.symm)).far (p := ⟨b, 1, none⟩) h2 _
    rw [List.length_append, cells_append, size_list]
    exact hown'
  clear hown hown' hgrow hb1 hbk hb2 c0 c1 HG1
  go_wp2
  go_ret2
  exact ⟨rfl, R⟩

/-! ### String -/
set_option maxHeartbeats 2000000 in
set_option maxRecDepth 100000 in
theorem stringC {B b : Nat} {l : List UInt8} {e : Int} {w : World} (h : WrAt B b l e w) :
    Calls Tryd.prog 80 #[.pointer (some ⟨b, 0, none⟩)] w fun en w' => en = .returned (.string (bs l)) ∧ Below B w w' := by
  obtain ⟨hBb, hBw, p, v, _, hbk, hown⟩ := h
  have c1 : w.drew.cell? ⟨b, 1, none⟩ = some v := hbk.cell 1
  have c1' : w.cell? ⟨b, 1, none⟩ = some v := hbk.cell 1
  by_cases h0 : l = []
  · subst h0
    have hUS : ∀ W q, (Builtin.unsafeString_ #[139, 3] 9 #[.pointer q, .int .i64 0]).run Tryd.prog W = .ok (.string .empty) W := fun W q => Lib.run_unsafeString_none W _ _ _ q
    rcases hown.2 with ⟨rfl, _⟩ | ⟨g, cap, cur, rfl, hbg, hg, _, _, _, _⟩
    · have hSD : (Builtin.unsafeSliceData_ #[74] 139 #[.slice none 0 0]).run Tryd.prog w.drew = .ok (.pointer none) w.drew := rfl
      clear hown hbk
      go_enter Tryd.func80, Tryd.ntmps80
      go_wp2
      go_region
      all_goals (go_wp2; go_ret; exact ⟨rfl, Below.drewN (Below.refl B w) 1⟩)
    · by_cases hc0 : cap = 0
      · subst hc0
        have hSD : (Builtin.unsafeSliceData_ #[74] 139 #[.slice (some ⟨g, 0, none⟩) 0 0]).run Tryd.prog w.drew = .ok (.pointer (some ⟨w.drew.heap.size, 0, none⟩)) (w.drew.alloc (.view ⟨g, 0, none⟩ 5)) :=
          Lib.run_unsafeSliceData_zero w.drew _ _ 5 Tryd.underlying139 ⟨g, 0, none⟩ 0 (5, cur.size) (by have hg' : w.drew.heap[g]? = some (.cells cur 5 (0, 0)) := hg; simp [World.shape?, hg'])
        have c2 : (w.drew.alloc (.view ⟨g, 0, none⟩ 5)).cell? ⟨b, 1, none⟩ = some (.slice (some ⟨g, 0, none⟩) 0 0) := (show Blk w.drew b _ _ from hbk).alloc _ |>.cell 1
        have c3 : (w.alloc (.view ⟨g, 0, none⟩ 5)).drew.cell? ⟨b, 1, none⟩ = some (.slice (some ⟨g, 0, none⟩) 0 0) := c2
        clear hown hbk hg
        go_enter Tryd.func80, Tryd.ntmps80
        go_wp2
        go_region
        all_goals (go_wp2; go_ret; exact ⟨rfl, (Below.drewN (Below.refl B w) 1).alloc hBw _⟩)
      · have hSD : (Builtin.unsafeSliceData_ #[74] 139 #[.slice (some ⟨g, 0, none⟩) 0 cap]).run Tryd.prog w.drew = .ok (.pointer (some ⟨g, 0, none⟩)) w.drew :=
          Lib.run_unsafeSliceData_row _ _ _ _ _ _ hc0
        clear hc0 hown hbk hg
        go_enter Tryd.func80, Tryd.ntmps80
        go_wp2
        go_region
        all_goals (go_wp2; go_ret; exact ⟨rfl, Below.drewN (Below.refl B w) 1⟩)
  · have hl0 : l.length ≠ 0 := by simpa using h0
    obtain ⟨g, cap, cur, rfl, hbg, hg, hnc, hcm, hcs, htake⟩ : ∃ g cap cur, v = .slice (some ⟨g, 0, none⟩) l.length cap ∧ B ≤ g ∧ w.heap[g]? = some (.cells cur 5 (0, 0)) ∧ l.length ≤ cap ∧ cap ≤ maxLen ∧ cur.size = cap * 1 ∧ cur.toList.take (l.length * 1) = cells l := by
      rcases hown.2 with ⟨_, hz⟩ | ⟨g, cap, cur, hv, r⟩
      · exact absurd hz hl0
      · exact ⟨g, cap, cur, hv, r⟩
    have hSD : (Builtin.unsafeSliceData_ #[74] 139 #[.slice (some ⟨g, 0, none⟩) l.length cap]).run Tryd.prog w.drew = .ok (.pointer (some ⟨g, 0, none⟩)) w.drew :=
      Lib.run_unsafeSliceData_row _ _ _ _ _ _ (by omega)
    have hUS : (Builtin.unsafeString_ #[139, 3] 9 #[.pointer (some ⟨g, 0, none⟩), .int .i64 l.length]).run Tryd.prog w.drew = .ok (.string ⟨l.toArray⟩) (w.drew.freeze ⟨g, 0, none⟩ l.length) := by
      refine Lib.run_unsafeString_row w.drew 139 3 9 5 Tryd.underlying139 (by kernel_rfl) g cur.size (by have hg' : w.drew.heap[g]? = some (.cells cur 5 (0, 0)) := hg; simp [World.shape?, hg']) l h0 (by omega) (by unfold maxLen at hcm; omega) ?_
      intro j x hx
      have := hown.cells (g := g) rfl j (.int .u8 x.toNat) (by simp [cells, hx])
      exact this
    clear hown hbk hg htake hcs
    go_enter Tryd.func80, Tryd.ntmps80
    go_wp2
    go_region
    all_goals (go_wp2; go_ret; exact ⟨rfl, Lib.below_freeze (Below.drewN (Below.refl B w) 1) (p := ⟨g, 0, none⟩) hbg _⟩)

/-! ### add, done -/
set_option maxHeartbeats 2000000 in
set_option maxRecDepth 100000 in
theorem addC {B b : Nat} {st : List UInt8 × Int} {w : World} (h : WrAt B b st.1 st.2 w) (p : List UInt8 × Int) (hlen : st.1.length + p.1.length ≤ 1000000000) :
    Calls Tryd.prog 42 #[.pointer (some ⟨b, 0, none⟩), .string (bs p.1), .int .i64 p.2] w fun en w' => en = .returned (.tuple #[]) ∧ WrAt B b (kadd st p).1 (kadd st p).2 w' ∧ Below B w w' ∧ Keeps b w w' := by
  obtain ⟨s1, s2⟩ := st
  obtain ⟨p1, p2⟩ := p
  simp only at h hlen ⊢
  have h2 := h
  obtain ⟨hBb, hBw, q, v, hq, hbk, hown⟩ := h2
  have c2 : w.cell? ⟨b, 2, none⟩ = some (.int .i64 s2) := hbk.cell 2
  have R0 := Lib.hid h
  by_cases he : s2 = 0
  · subst he
    have ek : kadd (s1, 0) (p1, p2) = (s1 ++ p1, p2) := by simp [kadd]
    rw [ek]
    have K := Lib.hid (writeC h (bs p1) (by rw [bs_size]; exact hlen))
    clear hbk hown h hq ek
    go_enter Tryd.func42, Tryd.ntmps42
    go_wp2_with fail
    refine K.out.mono ?_
    rintro en w1 ⟨rfl, hW, hb1, hk1⟩
    obtain ⟨_, hBw1, q1, v1, hq1, hbk1, hown1⟩ := hW
    have d2 : w1.cell? ⟨b, 2, none⟩ = some (.int .i64 0) := hbk1.cell 2
    have f2 : w1.frozen? ⟨b, 2, none⟩ = false := hbk1.frozen 2
    have R : WrAt B b (s1 ++ p1) p2 (w1.setCell ⟨b, 2, none⟩ (.int .i64 p2)) ∧ Below B w (w1.setCell ⟨b, 2, none⟩ (.int .i64 p2)) ∧ Keeps b w (w1.setCell ⟨b, 2, none⟩ (.int .i64 p2)) :=
      ⟨⟨hBb, by simpa [World.setCell] using hBw1, _, _, hq1, hbk1.set_ 2 _, own_set hown1 (own_type_ne hown1 hbk1)⟩, hb1.setCell (p := ⟨b, 2, none⟩) hBb _, fun g t cs h1 h2 h3 => (hk1 g t cs h1 h2 h3).far (p := ⟨b, 2, none⟩) h2 _⟩
    clear hbk1 hown1 hq1 hb1 K hk1
    go_wp2
    go_end0
    exact ⟨rfl, R⟩
  · have ek : kadd (s1, s2) (p1, p2) = (s1, s2) := by simp [kadd, he]
    rw [ek]
    have hne : (s2 != 0) = true := by rw [bne_iff_ne]; exact he
    clear hbk hown h hq ek he
    go_enter Tryd.func42, Tryd.ntmps42
    go_wp2
    refine bodyPost_ret (v := .tuple #[]) (by simp [results, Tryd.results42, go_sem]) rfl ?_
    exact ⟨rfl, R0.out, Below.refl _ _, fun _ _ _ _ _ h => h⟩
set_option maxHeartbeats 2000000 in
set_option maxRecDepth 100000 in
theorem doneC {B b : Nat} {st : List UInt8 × Int} {w : World} (h : WrAt B b st.1 st.2 w) :
    Calls Tryd.prog 46 #[.pointer (some ⟨b, 0, none⟩)] w fun en w' => en = .returned (retSE (fin st)) ∧ Below B w w' := by
  obtain ⟨s1, s2⟩ := st
  simp only at h ⊢
  have K := Lib.hid (stringC h)
  obtain ⟨hBb, hBw, q, v, hq, hbk, hown⟩ := h
  have c2 : w.cell? ⟨b, 2, none⟩ = some (.int .i64 s2) := hbk.cell 2
  unfold retSE
  by_cases he : s2 = 0
  · subst he
    have ek : fin (s1, 0) = (s1, 0) := by simp [fin]
    rw [ek]
    clear hbk hown hq ek
    go_enter Tryd.func46, Tryd.ntmps46
    go_wp2_with fail
    refine K.out.mono ?_
    rintro en w1 ⟨rfl, hb1⟩
    go_wp2
    go_ret2
    exact ⟨rfl, hb1⟩
  · have ek : fin (s1, s2) = ([], s2) := by simp [fin, he]
    rw [ek]
    have hne : (s2 != 0) = true := by rw [bne_iff_ne]; exact he
    clear hbk hown hq ek he K
    go_enter Tryd.func46, Tryd.ntmps46
    go_wp2
    go_region
    all_goals go_wp2
    all_goals go_ret2
    all_goals exact ⟨rfl, Below.drewN (Below.refl B w) 1⟩
end Go.Proofs.YtkinnlfjcmhcoaaDoor.W
/-
  proof.Put.
-/
namespace Go.Proofs.YtkinnlfjcmhcoaaDoor.W
open Go.RowKit

theorem Blk.cc {W : World} {b : Nat} {t : TypeId} {cs : Array Value} (h : Blk W b t cs) (i : Nat) {v : Value} (e : cs[i]? = some v) : W.cell? ⟨b, i, none⟩ = some v := (h.cell i).trans e
/-- the writer at block b, since an earlier world, beside the proof's block a: st: what it has written -/
structure Wr (w : World) (a b : Nat) (cs : Array Value) (st : List UInt8 × Int) (W : World) : Prop where
  at_ : WrAt b b st.1 st.2 W
  px : Blk W a 28 cs
  s : Since w W
  lt : a < b
  ge : w.heap.size ≤ b
theorem kadd_len1 (s p : List UInt8 × Int) : (kadd s p).1.length ≤ s.1.length + p.1.length := by
  unfold kadd
  split
  · omega
  · simp
theorem numSE (n : Int) (W : World) : Calls Tryd.prog 43 #[.int .i64 n] W fun e w' => e = .returned (.tuple #[.string (bs (encNum n).1), .int .i64 (encNum n).2]) ∧ Below W.heap.size W w' := wNum n W
theorem textSE (s : ByteArray) (W : World) : Calls Tryd.prog 44 #[.string s] W fun e w' => e = .returned (.tuple #[.string (bs (encText s).1), .int .i64 (encText s).2]) ∧ Below W.heap.size W w' := wText s W
theorem Wr.keep {w W W' : World} {a b : Nat} {cs : Array Value} {st : List UInt8 × Int} (h : Wr w a b cs st W) (k : Below W.heap.size W W') : Wr w a b cs st W' := by
  obtain ⟨⟨h1, h2, p, v, hp, hb, hown⟩, hpx, hs, hlt, hge⟩ := h
  have hsz := k.size
  exact ⟨⟨h1, by omega, p, v, hp, hb.below k hb.lt, hown.kept (row := none) ⟨k.os, k.tape, k.output, k.size, fun i hi _ => k.block i hi⟩ (by cases hv : v.ownBlock <;> simp)⟩, hpx.below k hpx.lt, since_of (step_below hs.below k), hlt, hge⟩
theorem Wr.add {w W : World} {a b : Nat} {cs : Array Value} {st : List UInt8 × Int} (h : Wr w a b cs st W) (p : List UInt8 × Int) (hlen : st.1.length + p.1.length ≤ 1000000000) :
    Calls Tryd.prog 42 #[.pointer (some ⟨b, 0, none⟩), .string (bs p.1), .int .i64 p.2] W fun en w' => en = .returned (.tuple #[]) ∧ Wr w a b cs (kadd st p) w' ∧ Keeps b W w' := by
  have hlt := h.lt
  exact (addC h.at_ p hlen).mono fun _ _ ⟨he, h2, h3, h4⟩ => ⟨he, ⟨h2, h.px.below h3 h.lt, since_of (h.s.below.trans (h3.mono h.ge)), h.lt, h.ge⟩, h4⟩
theorem len_items (l : List (List UInt8 × Int)) (s : List UInt8 × Int) (m : Nat) (h : ∀ p ∈ l, p.1.length ≤ m) : (l.foldl kadd s).1.length ≤ s.1.length + l.length * m := kadd_len l m h s
theorem nearItems_at {l : List KV} {k : Nat} (h : k < l.length) : nearItems (l.take (k + 1)) = nearItems (l.take k) ++ [encText l[k].1, encText l[k].2] := by
  rw [List.take_succ_eq_append_getElem h]
  unfold nearItems
  rw [List.flatMap_append]
  rfl
theorem pathItems_at {l : List (List (List UInt8))} {k : Nat} (h : k < l.length) : pathItems (l.take (k + 1)) = pathItems (l.take k) ++ [encJoin (bss l[k])] := by
  rw [List.take_succ_eq_append_getElem h]
  unfold pathItems
  rw [List.map_append]
  rfl
theorem nearItems_len (l : List KV) : (nearItems l).length = 2 * l.length ∧ ∀ p ∈ nearItems l, p.1.length ≤ 65544 := by
  induction l with
  | nil => exact ⟨rfl, fun p hp => by cases hp⟩
  | cons x l ih =>
    have e : nearItems (x :: l) = encText x.1 :: encText x.2 :: nearItems l := by simp [nearItems]
    rw [e]
    refine ⟨by simp only [List.length_cons, ih.1]; omega, fun p hp => ?_⟩
    simp only [List.mem_cons] at hp
    rcases hp with rfl | rfl | hp
    · exact encText_len _
    · exact encText_len _
    · exact ih.2 p hp
theorem pathItems_len (l : List (List (List UInt8))) : (pathItems l).length = l.length ∧ ∀ p ∈ pathItems l, p.1.length ≤ 17000000 := by
  refine ⟨by simp [pathItems], fun p hp => ?_⟩
  simp only [pathItems, List.mem_map] at hp
  obtain ⟨q, _, rfl⟩ := hp
  exact encJoin_len _
/-- what is written behind the head and k neighbours; behind k paths -/
def stN (s : List UInt8 × Int) (near : List KV) (k : Nat) : List UInt8 × Int := (nearItems (near.take k)).foldl kadd s
def stP (s : List UInt8 × Int) (paths : List (List (List UInt8))) (k : Nat) : List UInt8 × Int := (pathItems (paths.take k)).foldl kadd s
theorem stN_succ {s : List UInt8 × Int} {near : List KV} {k : Nat} (h : k < near.length) : stN s near (k + 1) = kadd (kadd (stN s near k) (encText near[k].1)) (encText near[k].2) := by
  unfold stN
  rw [nearItems_at h, List.foldl_append]
  rfl
theorem stP_succ {s : List UInt8 × Int} {paths : List (List (List UInt8))} {k : Nat} (h : k < paths.length) : stP s paths (k + 1) = kadd (stP s paths k) (encJoin (bss paths[k])) := by
  unfold stP
  rw [pathItems_at h, List.foldl_append]
  rfl
theorem stN_len (s : List UInt8 × Int) (near : List KV) (k : Nat) (h : near.length ≤ 4) : (stN s near k).1.length ≤ s.1.length + 600000 := by
  obtain ⟨h1, h2⟩ := nearItems_len (near.take k)
  have := kadd_len _ 65544 h2 s
  have h3 : (near.take k).length ≤ 4 := by rw [List.length_take]; omega
  unfold stN
  rw [h1] at this
  have h4 : 2 * (near.take k).length * 65544 ≤ 8 * 65544 := Nat.mul_le_mul_right _ (by omega)
  omega
theorem stP_len (s : List UInt8 × Int) (paths : List (List (List UInt8))) (k : Nat) (h : paths.length ≤ 4) : (stP s paths k).1.length ≤ s.1.length + 100000000 := by
  obtain ⟨h1, h2⟩ := pathItems_len (paths.take k)
  have := kadd_len _ 17000000 h2 s
  have h3 : (paths.take k).length ≤ 4 := by rw [List.length_take]; omega
  unfold stP
  rw [h1] at this
  have h4 : (paths.take k).length * 17000000 ≤ 4 * 17000000 := Nat.mul_le_mul_right _ (by omega)
  omega
def st4 (x : Pf) : List UInt8 × Int := kadd (kadd (kadd (kadd ([], 0) (encNum x.n)) (encNum x.pos)) (encNum (if x.there then 1 else 0))) (encNum x.near.length)
theorem items_fold (x : Pf) : (items x).foldl kadd ([], 0) = stP (kadd (stN (st4 x) x.near x.near.length) (encNum x.paths.length)) x.paths x.paths.length := by
  unfold items headItems stP stN st4
  rw [List.foldl_append, List.foldl_append, List.foldl_append, List.take_length, List.take_length]
  rfl
theorem st4_len (x : Pf) : (st4 x).1.length ≤ 32 := by
  unfold st4
  have h1 := kadd_len1 ([], 0) (encNum x.n)
  have h2 := kadd_len1 (kadd ([], 0) (encNum x.n)) (encNum x.pos)
  have h3 := kadd_len1 (kadd (kadd ([], 0) (encNum x.n)) (encNum x.pos)) (encNum (if x.there then 1 else 0))
  have h4 := kadd_len1 (kadd (kadd (kadd ([], 0) (encNum x.n)) (encNum x.pos)) (encNum (if x.there then 1 else 0))) (encNum x.near.length)
  have e1 := encNum_len x.n
  have e2 := encNum_len x.pos
  have e3 := encNum_len (if x.there then 1 else 0)
  have e4 := encNum_len x.near.length
  simp only [List.length_nil] at h1
  omega

set_option maxHeartbeats 1000000 in
set_option maxRecDepth 100000 in
theorem putNo (n pos : Int) (A1 : Option Addr) (m1 c1 : Nat) (pv : Value) (w : World) (h : m1 ≠ 0) :
    Calls Tryd.prog 18 #[.agg #[.int .i64 n, .int .i64 pos, .bool true, .slice A1 m1 c1, pv]] w fun e w' => e = .returned (retSE ([], 6)) ∧ Since w w' := by
  have h2 : ((m1 : Int) != 0) = true := by rw [bne_iff_ne]; omega
  have HR := Lib.hid (show Since w (w.alloc (.cells #[.int .i64 n, .int .i64 pos, .bool true, .slice A1 m1 c1, pv] 28)) from since_of ((Below.refl _ w).alloc (Nat.le_refl _) _))
  unfold retSE
  clear h
  go_enter Tryd.func18, Tryd.ntmps18
  go_wp2
  go_ret2
  exact ⟨rfl, HR.out⟩
theorem WrAt.blt {B b : Nat} {l : List UInt8} {e : Int} {w : World} (h : WrAt B b l e w) : b < w.heap.size := by
  obtain ⟨_, _, _, _, _, hb, _⟩ := h
  exact hb.lt
theorem wrStart {w : World} {t : Bool} {n pos : Int} {v3 v4 : Value} : Wr w w.heap.size (w.heap.size + 1) #[.int .i64 n, .int .i64 pos, .bool t, v3, v4] ([], 0) ((w.alloc (.cells #[.int .i64 n, .int .i64 pos, .bool t, v3, v4] 28)).alloc (.cells #[.pointer none, .slice none 0 0, .int .i64 0] 78)) := by
  have k0 := Blk.new w 28 #[.int .i64 n, .int .i64 pos, .bool t, v3, v4]
  have b0 : Below w.heap.size w (w.alloc (.cells #[.int .i64 n, .int .i64 pos, .bool t, v3, v4] 28)) := (Below.refl _ w).alloc (Nat.le_refl _) _
  have e1 : (w.alloc (.cells #[.int .i64 n, .int .i64 pos, .bool t, v3, v4] 28)).heap.size = w.heap.size + 1 := by simp
  generalize w.alloc (.cells #[.int .i64 n, .int .i64 pos, .bool t, v3, v4] 28) = W1 at *
  have k1 := Blk.new W1 78 #[.pointer none, .slice none 0 0, .int .i64 0]
  rw [e1] at k1
  exact ⟨⟨Nat.le_refl _, by simp; omega, _, _, .inl rfl, k1, World.ownsRow_nil _ _ _ _⟩, k0.alloc _, since_of (b0.alloc b0.size _), by omega, by omega⟩
set_option maxHeartbeats 4000000 in
set_option maxRecDepth 100000 in
theorem putYes (n pos : Int) (t : Bool) (A1 A2 : Option Addr) (c1 c2 : Nat) (near : List KV) (paths : List (List (List UInt8))) (w : World) (hno : t = true → near.length = 0) (hl1 : near.length ≤ 4) (hl2 : paths.length ≤ 4)
    (hc : ∀ k (h : k < near.length), ∃ b off, A1 = some ⟨b, off, none⟩ ∧ w.cell? ⟨b, off + k * 2, none⟩ = some (.string near[k].1) ∧ w.cell? ⟨b, off + k * 2 + 1, none⟩ = some (.string near[k].2))
    (hq : ∀ (k : Nat) q, paths[k]? = some q → ∃ b off u, A2 = some ⟨b, off, none⟩ ∧ w.cell? ⟨b, off + k, none⟩ = some u ∧
      ∀ W, Since w W → Calls Tryd.prog 45 #[u] W fun e w' => e = .returned (.tuple #[.string (bs (encJoin (bss q)).1), .int .i64 (encJoin (bss q)).2]) ∧ Below W.heap.size W w') :
    Calls Tryd.prog 18 #[.agg #[.int .i64 n, .int .i64 pos, .bool t, .slice A1 near.length c1, .slice A2 paths.length c2]] w fun e w' => e = .returned (retSE (fin ((items ⟨n, pos, t, near, paths⟩).foldl kadd ([], 0)))) ∧ Since w w' := by
  have k0 := Blk.new w 28 #[.int .i64 n, .int .i64 pos, .bool t, .slice A1 near.length c1, .slice A2 paths.length c2]
  have HV0 := Lib.hid (show Since w (w.alloc (.cells #[.int .i64 n, .int .i64 pos, .bool t, .slice A1 near.length c1, .slice A2 paths.length c2] 28)) from since_of ((Below.refl _ w).alloc (Nat.le_refl _) _))
  have q2 := k0.cc 2 rfl
  have q3 := k0.cc 3 rfl
  have HW0 := Lib.hid (wrStart (t := t) (w := w) (n := n) (pos := pos) (v3 := .slice A1 near.length c1) (v4 := .slice A2 paths.length c2))
  have HC := Lib.hid hc
  have HQ := Lib.hid hq
  have HIT := Lib.hid (items_fold ⟨n, pos, t, near, paths⟩)
  have HL4 := Lib.hid (st4_len ⟨n, pos, t, near, paths⟩)
  have HLN := Lib.hid (fun k => stN_len (st4 ⟨n, pos, t, near, paths⟩) near k hl1)
  unfold st4 at HIT HL4 HLN
  simp only at HIT HL4 HLN
  rw [HIT.out]
  have HLL := Lib.hid (And.intro hl1 hl2)
  clear k0 hc hq HIT
  unfold retSE
  cases t with
  | true =>
    have hz : near.length = 0 := hno rfl
    obtain rfl : near = [] := List.eq_nil_of_length_eq_zero hz
    have e0 : (((([] : List KV).length : Nat)) : Int) = 0 := rfl
    simp only [if_true] at HL4 HLN ⊢
    simp only [e0] at HL4 HLN HW0 HV0 ⊢
    simp only [List.length_nil] at HLN HW0 HV0 HLL ⊢
    clear hno hz
    go_enter Tryd.func18, Tryd.ntmps18
    go_wp2_with fail
    clear q2 q3 HV0
    generalize (w.alloc (.cells #[.int .i64 n, .int .i64 pos, .bool true, .slice A1 0 c1, .slice A2 paths.length c2] 28)).alloc (.cells #[.pointer none, .slice none 0 0, .int .i64 0] 78) = V0 at *
    have LS0 : (([], 0) : List UInt8 × Int).1.length ≤ 0 := Nat.le_refl _
    have W0 := HW0
    clear HW0
    refine (numSE n _).mono ?_
    rintro e v1 ⟨rfl, b1⟩
    have a1 := (W0.out.keep b1)
    have A1 := Lib.hid (a1.add (encNum n) (by have := LS0; have := encNum_len n; omega))
    have LS1 := Nat.le_trans (kadd_len1 ([], 0) (encNum n)) (Nat.add_le_add LS0 (encNum_len n))
    clear b1 a1 W0
    go_wp2_with fail
    refine A1.out.mono ?_
    rintro e w1 ⟨rfl, W1, k1⟩
    have W1 := Lib.hid W1
    have q0 := W1.out.px.cc 0 rfl
    have q1 := W1.out.px.cc 1 rfl
    have q3 := W1.out.px.cc 3 rfl
    have q4 := W1.out.px.cc 4 rfl
    clear A1 k1
    go_wp2_with fail
    refine (numSE pos _).mono ?_
    rintro e v2 ⟨rfl, b2⟩
    have a2 := (W1.out.keep b2)
    have A2 := Lib.hid (a2.add (encNum pos) (by have := LS1; have := encNum_len pos; omega))
    have LS2 := Nat.le_trans (kadd_len1 (kadd ([], 0) (encNum n)) (encNum pos)) (Nat.add_le_add LS1 (encNum_len pos))
    clear b2 a2 W1
    go_wp2_with fail
    refine A2.out.mono ?_
    rintro e w2 ⟨rfl, W2, k2⟩
    have W2 := Lib.hid W2
    have q0 := W2.out.px.cc 0 rfl
    have q1 := W2.out.px.cc 1 rfl
    have q3 := W2.out.px.cc 3 rfl
    have q4 := W2.out.px.cc 4 rfl
    clear A2 k2
    go_wp2_with fail
    refine (numSE 1 _).mono ?_
    rintro e v3 ⟨rfl, b3⟩
    have a3 := (W2.out.keep b3)
    have A3 := Lib.hid (a3.add (encNum 1) (by have := LS2; have := encNum_len 1; omega))
    have LS3 := Nat.le_trans (kadd_len1 (kadd (kadd ([], 0) (encNum n)) (encNum pos)) (encNum 1)) (Nat.add_le_add LS2 (encNum_len 1))
    clear b3 a3 W2
    go_wp2_with fail
    refine A3.out.mono ?_
    rintro e w3 ⟨rfl, W3, k3⟩
    have W3 := Lib.hid W3
    have q0 := W3.out.px.cc 0 rfl
    have q1 := W3.out.px.cc 1 rfl
    have q3 := W3.out.px.cc 3 rfl
    have q4 := W3.out.px.cc 4 rfl
    clear A3 k3
    go_wp2_with fail
    refine (numSE 0 _).mono ?_
    rintro e v4 ⟨rfl, b4⟩
    have a4 := (W3.out.keep b4)
    have A4 := Lib.hid (a4.add (encNum 0) (by have := LS3; have := encNum_len 0; omega))
    have LS4 := Nat.le_trans (kadd_len1 (kadd (kadd (kadd ([], 0) (encNum n)) (encNum pos)) (encNum 1)) (encNum 0)) (Nat.add_le_add LS3 (encNum_len 0))
    clear b4 a4 W3
    go_wp2_with fail
    refine A4.out.mono ?_
    rintro e w4 ⟨rfl, W4, k4⟩
    have W4 := Lib.hid W4
    have q0 := W4.out.px.cc 0 rfl
    have q1 := W4.out.px.cc 1 rfl
    have q3 := W4.out.px.cc 3 rfl
    have q4 := W4.out.px.cc 4 rfl
    clear A4 k4
    clear LS0 LS1 LS2 LS3 q0 q1
    generalize hS4 : (kadd (kadd (kadd (kadd ([], 0) (encNum n)) (encNum pos)) (encNum 1)) (encNum 0)) = S4 at *
    go_wp2_with fail
    go_loopw [7, 47] (fun _ i wr => ∃ k : Nat, k ≤ 0 ∧ i = .int .i64 k ∧ Hid (Wr w w.heap.size (w.heap.size + 1) #[.int .i64 n, .int .i64 pos, .bool true, .slice A1 0 c1, .slice A2 paths.length c2] (stN S4 [] k) wr)) (fun _ i _ => 0 - (intOf i).toNat)
    case atStart => exact ⟨0, Nat.zero_le _, rfl, W4⟩
    case round =>
      obtain ⟨k, hk, rfl, HI⟩ := hrel
      have hll := HLL.out
      by_cases hlt : k < 0
      · exact absurd hlt (Nat.not_lt_zero _)
      · obtain rfl : k = 0 := by omega
        have q4 := HI.out.px.cc 4 rfl
        have W5 := HI
        have LS5 : (stN S4 [] 0).1.length ≤ 1000000 := by have := HLN.out 0; omega
        generalize hS5 : stN S4 [] 0 = S5 at *
        clear HI HC W4
        go_wp2_with fail
        refine (numSE paths.length _).mono ?_
        rintro e v6 ⟨rfl, b6⟩
        have a6 := (W5.out.keep b6)
        have A6 := Lib.hid (a6.add (encNum paths.length) (by have := LS5; have := encNum_len paths.length; omega))
        have LS6 := Nat.le_trans (kadd_len1 S5 (encNum paths.length)) (Nat.add_le_add LS5 (encNum_len paths.length))
        clear b6 a6 W5
        go_wp2_with fail
        refine A6.out.mono ?_
        rintro e w6 ⟨rfl, W6, k6⟩
        have W6 := Lib.hid W6
        have q0 := W6.out.px.cc 0 rfl
        have q1 := W6.out.px.cc 1 rfl
        have q3 := W6.out.px.cc 3 rfl
        have q4 := W6.out.px.cc 4 rfl
        clear A6 k6
        clear q0 q1 q3
        generalize hS6 : kadd S5 (encNum paths.length) = S6 at *
        go_wp2_with fail
        go_loopw [9, 74] (fun _ i wr => ∃ k : Nat, k ≤ paths.length ∧ i = .int .i64 k ∧ Hid (Wr w w.heap.size (w.heap.size + 1) #[.int .i64 n, .int .i64 pos, .bool true, .slice A1 0 c1, .slice A2 paths.length c2] (stP S6 paths k) wr)) (fun _ i _ => paths.length - (intOf i).toNat)
        case atStart => exact ⟨0, Nat.zero_le _, rfl, W6⟩
        case round =>
          obtain ⟨k, hk, rfl, HI⟩ := hrel
          have hll := HLL.out
          by_cases hlt : k < paths.length
          · obtain ⟨g2, o2, u, rfl, d3, H⟩ := HQ.out k _ (List.getElem?_eq_getElem hlt)
            have z3 := HI.out.s.cell d3
            have HSS := Lib.hid (stP_succ (s := S6) hlt)
            have LN := Lib.hid (stP_len S6 paths k hll.2)
            have E1 := encJoin_len (bss paths[k])
            have HJ := Lib.hid H
            generalize encJoin (bss paths[k]) = ej at *
            have i0 : (0 : Int) ≤ (k : Int) := by omega
            have i1 : (k : Int) < (paths.length : Int) := by omega
            clear d3 H W6
            go_wp2_with fail
            refine (HJ.out _ HI.out.s).mono ?_
            rintro e v7 ⟨rfl, b7⟩
            have A7 := Lib.hid ((HI.out.keep b7).add ej (by have := LN.out; omega))
            clear b7 HJ
            go_wp2_with fail
            refine A7.out.mono ?_
            rintro e w7 ⟨rfl, W7, k7⟩
            rw [← HSS.out] at W7
            have W7 := Lib.hid W7
            clear A7 k7 HSS z3
            go_wp2
            go_roundw
            case rel => exact ⟨k + 1, by omega, by go_num, W7⟩
            case measure => simp [intOf]; omega
          · obtain rfl : k = paths.length := by omega
            have D := Lib.hid (doneC HI.out.at_)
            have HD := HI
            clear HI HQ
            unfold retSE at D
            go_wp2_with fail
            refine D.out.mono ?_
            rintro e w9 ⟨rfl, b9⟩
            go_wp2
            go_ret2
            subst hS6 hS5 hS4
            exact ⟨rfl, since_of (HD.out.s.below.trans (b9.mono HD.out.ge))⟩
  | false =>
    simp only [Bool.false_eq_true, if_false] at HL4 HLN ⊢
    clear hno
    go_enter Tryd.func18, Tryd.ntmps18
    go_wp2_with fail
    clear q2 q3 HV0
    generalize (w.alloc (.cells #[.int .i64 n, .int .i64 pos, .bool false, .slice A1 near.length c1, .slice A2 paths.length c2] 28)).alloc (.cells #[.pointer none, .slice none 0 0, .int .i64 0] 78) = V0 at *
    have LS0 : (([], 0) : List UInt8 × Int).1.length ≤ 0 := Nat.le_refl _
    have W0 := HW0
    clear HW0
    refine (numSE n _).mono ?_
    rintro e v1 ⟨rfl, b1⟩
    have a1 := (W0.out.keep b1)
    have A1 := Lib.hid (a1.add (encNum n) (by have := LS0; have := encNum_len n; omega))
    have LS1 := Nat.le_trans (kadd_len1 ([], 0) (encNum n)) (Nat.add_le_add LS0 (encNum_len n))
    clear b1 a1 W0
    go_wp2_with fail
    refine A1.out.mono ?_
    rintro e w1 ⟨rfl, W1, k1⟩
    have W1 := Lib.hid W1
    have q0 := W1.out.px.cc 0 rfl
    have q1 := W1.out.px.cc 1 rfl
    have q3 := W1.out.px.cc 3 rfl
    have q4 := W1.out.px.cc 4 rfl
    clear A1 k1
    go_wp2_with fail
    refine (numSE pos _).mono ?_
    rintro e v2 ⟨rfl, b2⟩
    have a2 := (W1.out.keep b2)
    have A2 := Lib.hid (a2.add (encNum pos) (by have := LS1; have := encNum_len pos; omega))
    have LS2 := Nat.le_trans (kadd_len1 (kadd ([], 0) (encNum n)) (encNum pos)) (Nat.add_le_add LS1 (encNum_len pos))
    clear b2 a2 W1
    go_wp2_with fail
    refine A2.out.mono ?_
    rintro e w2 ⟨rfl, W2, k2⟩
    have W2 := Lib.hid W2
    have q0 := W2.out.px.cc 0 rfl
    have q1 := W2.out.px.cc 1 rfl
    have q3 := W2.out.px.cc 3 rfl
    have q4 := W2.out.px.cc 4 rfl
    clear A2 k2
    go_wp2_with fail
    refine (numSE 0 _).mono ?_
    rintro e v3 ⟨rfl, b3⟩
    have a3 := (W2.out.keep b3)
    have A3 := Lib.hid (a3.add (encNum 0) (by have := LS2; have := encNum_len 0; omega))
    have LS3 := Nat.le_trans (kadd_len1 (kadd (kadd ([], 0) (encNum n)) (encNum pos)) (encNum 0)) (Nat.add_le_add LS2 (encNum_len 0))
    clear b3 a3 W2
    go_wp2_with fail
    refine A3.out.mono ?_
    rintro e w3 ⟨rfl, W3, k3⟩
    have W3 := Lib.hid W3
    have q0 := W3.out.px.cc 0 rfl
    have q1 := W3.out.px.cc 1 rfl
    have q3 := W3.out.px.cc 3 rfl
    have q4 := W3.out.px.cc 4 rfl
    clear A3 k3
    go_wp2_with fail
    refine (numSE near.length _).mono ?_
    rintro e v4 ⟨rfl, b4⟩
    have a4 := (W3.out.keep b4)
    have A4 := Lib.hid (a4.add (encNum near.length) (by have := LS3; have := encNum_len near.length; omega))
    have LS4 := Nat.le_trans (kadd_len1 (kadd (kadd (kadd ([], 0) (encNum n)) (encNum pos)) (encNum 0)) (encNum near.length)) (Nat.add_le_add LS3 (encNum_len near.length))
    clear b4 a4 W3
    go_wp2_with fail
    refine A4.out.mono ?_
    rintro e w4 ⟨rfl, W4, k4⟩
    have W4 := Lib.hid W4
    have q0 := W4.out.px.cc 0 rfl
    have q1 := W4.out.px.cc 1 rfl
    have q3 := W4.out.px.cc 3 rfl
    have q4 := W4.out.px.cc 4 rfl
    clear A4 k4
    clear LS0 LS1 LS2 LS3 q0 q1
    generalize hS4 : (kadd (kadd (kadd (kadd ([], 0) (encNum n)) (encNum pos)) (encNum 0)) (encNum near.length)) = S4 at *
    go_wp2_with fail
    go_loopw [7, 47] (fun _ i wr => ∃ k : Nat, k ≤ near.length ∧ i = .int .i64 k ∧ Hid (Wr w w.heap.size (w.heap.size + 1) #[.int .i64 n, .int .i64 pos, .bool false, .slice A1 near.length c1, .slice A2 paths.length c2] (stN S4 near k) wr)) (fun _ i _ => near.length - (intOf i).toNat)
    case atStart => exact ⟨0, Nat.zero_le _, rfl, W4⟩
    case round =>
      obtain ⟨k, hk, rfl, HI⟩ := hrel
      have hll := HLL.out
      by_cases hlt : k < near.length
      · obtain ⟨g1, o1, rfl, d1, d2⟩ := HC.out k hlt
        have z1 := HI.out.s.cell d1
        have z2 := HI.out.s.cell d2
        have HSS := Lib.hid (stN_succ (s := S4) hlt)
        have LN := Lib.hid (HLN.out k)
        have E1 := encText_len near[k].1
        have E2 := encText_len near[k].2
        obtain ⟨p, hp⟩ : ∃ p, p = near[k] := ⟨_, rfl⟩
        rw [← hp] at z1 z2 HSS E1 E2
        obtain ⟨p1, p2⟩ := p
        simp only at z1 z2 HSS E1 E2
        clear d1 d2 hp
        have i0 : (0 : Int) ≤ (k : Int) := by omega
        have i1 : (k : Int) < (near.length : Int) := by omega
        have hb0 := HI.out.at_.blt
        have B0 := Blk.new wr 32 #[.string p1, .string p2]
        have WA := Lib.hid (HI.out.keep ((Below.refl _ wr).alloc (Nat.le_refl _) (.cells #[.string p1, .string p2] 32)))
        have y1 := B0.cc 0 rfl
        have HB0 := Lib.hid B0
        clear B0 W4
        go_wp2_with fail
        refine (textSE p1 _).mono ?_
        rintro e v5 ⟨rfl, b5⟩
        have B5 := Lib.hid (HB0.out.below b5 HB0.out.lt)
        have A5 := Lib.hid ((WA.out.keep b5).add (encText p1) (by have := LN.out; omega))
        clear WA b5 HB0 y1
        go_wp2_with fail
        refine A5.out.mono ?_
        rintro e w5 ⟨rfl, W5, k5⟩
        have W5 := Lib.hid W5
        have B6 := Lib.hid (k5 _ _ _ (by decide) (by omega) B5.out)
        have y2 := B6.out.cc 1 rfl
        have LK := kadd_len1 (stN S4 near k) (encText p1)
        clear A5 k5 B5
        go_wp2_with fail
        refine (textSE p2 _).mono ?_
        rintro e v7 ⟨rfl, b7⟩
        have A7 := Lib.hid ((W5.out.keep b7).add (encText p2) (by have := LN.out; omega))
        clear W5 b7 B6 y2
        go_wp2_with fail
        refine A7.out.mono ?_
        rintro e w7 ⟨rfl, W7, k7⟩
        rw [← HSS.out] at W7
        have W7 := Lib.hid W7
        clear A7 k7 HSS
        go_wp2
        go_roundw
        case rel => exact ⟨k + 1, by omega, by go_num, W7⟩
        case measure => simp [intOf]; omega
      · obtain rfl : k = near.length := by omega
        have q4 := HI.out.px.cc 4 rfl
        have W5 := HI
        have LS5 : (stN S4 near near.length).1.length ≤ 1000000 := by have := HLN.out near.length; omega
        generalize hS5 : stN S4 near near.length = S5 at *
        clear HI HC W4
        go_wp2_with fail
        refine (numSE paths.length _).mono ?_
        rintro e v6 ⟨rfl, b6⟩
        have a6 := (W5.out.keep b6)
        have A6 := Lib.hid (a6.add (encNum paths.length) (by have := LS5; have := encNum_len paths.length; omega))
        have LS6 := Nat.le_trans (kadd_len1 S5 (encNum paths.length)) (Nat.add_le_add LS5 (encNum_len paths.length))
        clear b6 a6 W5
        go_wp2_with fail
        refine A6.out.mono ?_
        rintro e w6 ⟨rfl, W6, k6⟩
        have W6 := Lib.hid W6
        have q0 := W6.out.px.cc 0 rfl
        have q1 := W6.out.px.cc 1 rfl
        have q3 := W6.out.px.cc 3 rfl
        have q4 := W6.out.px.cc 4 rfl
        clear A6 k6
        clear q0 q1 q3
        generalize hS6 : kadd S5 (encNum paths.length) = S6 at *
        go_wp2_with fail
        go_loopw [9, 74] (fun _ i wr => ∃ k : Nat, k ≤ paths.length ∧ i = .int .i64 k ∧ Hid (Wr w w.heap.size (w.heap.size + 1) #[.int .i64 n, .int .i64 pos, .bool false, .slice A1 near.length c1, .slice A2 paths.length c2] (stP S6 paths k) wr)) (fun _ i _ => paths.length - (intOf i).toNat)
        case atStart => exact ⟨0, Nat.zero_le _, rfl, W6⟩
        case round =>
          obtain ⟨k, hk, rfl, HI⟩ := hrel
          have hll := HLL.out
          by_cases hlt : k < paths.length
          · obtain ⟨g2, o2, u, rfl, d3, H⟩ := HQ.out k _ (List.getElem?_eq_getElem hlt)
            have z3 := HI.out.s.cell d3
            have HSS := Lib.hid (stP_succ (s := S6) hlt)
            have LN := Lib.hid (stP_len S6 paths k hll.2)
            have E1 := encJoin_len (bss paths[k])
            have HJ := Lib.hid H
            generalize encJoin (bss paths[k]) = ej at *
            have i0 : (0 : Int) ≤ (k : Int) := by omega
            have i1 : (k : Int) < (paths.length : Int) := by omega
            clear d3 H W6
            go_wp2_with fail
            refine (HJ.out _ HI.out.s).mono ?_
            rintro e v7 ⟨rfl, b7⟩
            have A7 := Lib.hid ((HI.out.keep b7).add ej (by have := LN.out; omega))
            clear b7 HJ
            go_wp2_with fail
            refine A7.out.mono ?_
            rintro e w7 ⟨rfl, W7, k7⟩
            rw [← HSS.out] at W7
            have W7 := Lib.hid W7
            clear A7 k7 HSS z3
            go_wp2
            go_roundw
            case rel => exact ⟨k + 1, by omega, by go_num, W7⟩
            case measure => simp [intOf]; omega
          · obtain rfl : k = paths.length := by omega
            have D := Lib.hid (doneC HI.out.at_)
            have HD := HI
            clear HI HQ
            unfold retSE at D
            go_wp2_with fail
            refine D.out.mono ?_
            rintro e w9 ⟨rfl, b9⟩
            go_wp2
            go_ret2
            subst hS6 hS5 hS4
            exact ⟨rfl, since_of (HD.out.s.below.trans (b9.mono HD.out.ge))⟩
set_option maxRecDepth 100000 in
theorem putC (x : Pf) (v : Value) (w : World) (hP : Prf w v x) (hl1 : x.near.length ≤ 4) (hl2 : x.paths.length ≤ 4) (hq : ∀ q ∈ x.paths, q.length ≤ 1000000) :
    Calls Tryd.prog 18 #[v] w fun e w' => e = .returned (retSE (encPf x)) ∧ Since w w' := by
  obtain ⟨n, pos, there, near, paths⟩ := x
  obtain ⟨nv, pv, rfl, ⟨A1, c1, rfl, _, hc1⟩, ⟨A2, c2, rfl, _, hc⟩⟩ := hP
  simp only at hl1 hl2 hq hc hc1 ⊢
  by_cases h : there = true ∧ near ≠ []
  · obtain ⟨rfl, hne⟩ := h
    have e : encPf ⟨n, pos, true, near, paths⟩ = ([], 6) := if_pos ⟨rfl, hne⟩
    rw [e]
    exact putNo n pos A1 near.length c1 _ w (fun h0 => hne (List.eq_nil_of_length_eq_zero h0))
  · have e : encPf ⟨n, pos, there, near, paths⟩ = fin ((items ⟨n, pos, there, near, paths⟩).foldl kadd ([], 0)) := by
      rw [fin_fold]
      exact if_neg h
    rw [e]
    refine putYes n pos there A1 A2 c1 c2 near paths w (fun ht => ?_) hl1 hl2 hc1 (fun k q hk => ?_)
    · by_cases h0 : near = []
      · rw [h0]; rfl
      · exact absurd ⟨ht, h0⟩ h
    · obtain ⟨b, off, u, rfl, d, hT, hR⟩ := hc k q hk
      have h4 := hq q (List.mem_of_getElem? hk)
      exact ⟨b, off, u, rfl, d, fun W hW => wJoin u (bss q) W ((hT.below hW.below).more hW.2.2.2.1) (by rw [bss_len]; omega)⟩
end Go.Proofs.YtkinnlfjcmhcoaaDoor.W
/-
  sort.Search with Build's closure: where a key stands among pairs that rise.
-/
namespace Go.Proofs.YtkinnlfjcmhcoaaDoor.W
open Go.RowKit

theorem lat_iff {l : List KV} (hu : Up l) (key : ByteArray) (i : Nat) (hi : i < l.length) : decide (kc l[i].1 key = -1) = !decide (latN l key ≤ i) := by
  by_cases h : latN l key ≤ i
  · rw [decide_eq_true h]
    refine decide_eq_false fun hk => ?_
    have h1 := latN_here l key (by omega)
    by_cases e : latN l key = i
    · subst e; exact h1 hk
    · exact h1 (kc_trans (up_at hu (latN l key) i (by omega) hi) hk)
  · rw [decide_eq_false h]
    exact decide_eq_true (latN_less l key i hi (by omega))
set_option maxHeartbeats 1000000 in
set_option maxRecDepth 100000 in
theorem closureC (b2 b3 b off cap n : Nat) (x key : ByteArray) (i : Nat) (W : World) (hi : i < n) (r : Bool) (hr : Op.bytesLess x.toList key.toList = !r)
    (h2 : W.cell? ⟨b2, 0, none⟩ = some (.slice (some ⟨b, off, none⟩) n cap)) (h3 : W.cell? ⟨b3, 0, none⟩ = some (.string key)) (hc : W.cell? ⟨b, off + i * 2, none⟩ = some (.string x)) :
    Calls Tryd.prog 31 #[.int .i64 i, .pointer (some ⟨b2, 0, none⟩), .pointer (some ⟨b3, 0, none⟩)] W fun e w' => e = .returned (.bool r) ∧ Since W w' := by
  have i0 : (0 : Int) ≤ (i : Int) := by omega
  have i1 : (i : Int) < (n : Int) := by omega
  have HB := Lib.hid (since_of (quiet_below W 1))
  clear hi
  cases r with
  | true =>
    simp only [Bool.not_true] at hr
    go_enter Tryd.func31, Tryd.ntmps31
    go_wp2
    go_region
    all_goals go_wp2
    all_goals go_ret
    all_goals exact ⟨rfl, HB.out⟩
  | false =>
    simp only [Bool.not_false] at hr
    go_enter Tryd.func31, Tryd.ntmps31
    go_wp2
    go_region
    all_goals go_wp2
    all_goals go_ret
    all_goals exact ⟨rfl, HB.out⟩
set_option maxHeartbeats 2000000 in
set_option maxRecDepth 100000 in
theorem searchC (p2 p3 : Value) (n N : Nat) (w : World) (hn : n ≤ 1000000000) (hN : N ≤ n)
    (hf : Hid (∀ W, Since w W → ∀ i : Nat, i < n → Calls Tryd.prog 31 #[.int .i64 i, p2, p3] W fun e w' => e = .returned (.bool (decide (N ≤ i))) ∧ Since W w')) :
    Calls Tryd.prog 30 #[.int .i64 n, .func (.func 31) #[] #[p2, p3]] w fun e w' => e = .returned (.int .i64 N) ∧ Since w w' := by
  have HZ := Lib.hid hn
  go_enter Tryd.func30, Tryd.ntmps30
  go_wp2
  go_loopw [5, 6] (fun s5 s6 wr => ∃ lo hi : Nat, s5 = .int .i64 lo ∧ s6 = .int .i64 hi ∧ lo ≤ N ∧ N ≤ hi ∧ hi ≤ n ∧ Since w wr) (fun s5 s6 _ => (intOf s6).toNat - (intOf s5).toNat)
  case atStart => exact ⟨0, n, rfl, rfl, Nat.zero_le _, hN, Nat.le_refl _, Since.refl w⟩
  case round =>
    obtain ⟨lo, hi, rfl, rfl, h1, h2, h3, hS⟩ := hrel
    by_cases hlt : lo < hi
    · have hc := hf.out wr hS ((lo + hi) / 2) (by omega)
      rw [show (((lo + hi) / 2 : Nat) : Int) = ((lo : Int) + (hi : Int)) / 2 by omega] at hc
      by_cases hp : N ≤ (lo + hi) / 2
      · rw [decide_eq_true hp] at hc
        have HC := Lib.hid hc
        have HP := Lib.hid hp
        clear hc hp
        go_wp2_with fail
        refine HC.out.mono ?_
        rintro e w5 ⟨rfl, s5⟩
        have S5 := Lib.hid (show Since w w5 from since_of (step_below hS.below s5.below))
        clear s5 hS
        go_wp2
        go_roundw
        case rel => have hp := HP.out; exact ⟨lo, (lo + hi) / 2, rfl, by rw [show ((lo : Int) + (hi : Int)) / 2 = (((lo + hi) / 2 : Nat) : Int) by omega], h1, hp, by omega, S5.out⟩
        case measure => simp [intOf]; omega
      · rw [decide_eq_false hp] at hc
        have HC := Lib.hid hc
        have HP := Lib.hid hp
        clear hc hp
        go_wp2_with fail
        refine HC.out.mono ?_
        rintro e w5 ⟨rfl, s5⟩
        have S5 := Lib.hid (show Since w w5 from since_of (step_below hS.below s5.below))
        clear s5 hS
        go_wp2
        go_roundw
        case rel => have hp := HP.out; exact ⟨(lo + hi) / 2 + 1, hi, by rw [show ((lo : Int) + (hi : Int)) / 2 + 1 = (((lo + hi) / 2 + 1 : Nat) : Int) by omega], rfl, by omega, h2, h3, S5.out⟩
        case measure => simp [intOf]; omega
    · obtain rfl : lo = N := by omega
      go_wp2
      go_ret
      exact ⟨rfl, hS⟩
theorem searchAt (b2 b3 : Nat) (A : Option Addr) (cap : Nat) (l : List KV) (key : ByteArray) (w : World) (hu : Up l) (hn : l.length ≤ 1000000000) (hP : Prs w (.slice A l.length cap) l) (h2 : w.cell? ⟨b2, 0, none⟩ = some (.slice A l.length cap)) (h3 : w.cell? ⟨b3, 0, none⟩ = some (.string key)) :
    Calls Tryd.prog 30 #[.int .i64 l.length, .func (.func 31) #[] #[.pointer (some ⟨b2, 0, none⟩), .pointer (some ⟨b3, 0, none⟩)]] w fun e w' => e = .returned (.int .i64 (latN l key)) ∧ Since w w' := by
  refine searchC _ _ l.length (latN l key) w hn (latN_le l key) (Lib.hid fun W hW i hi => ?_)
  obtain ⟨A0, cap0, e, _, hc⟩ := hP
  cases e
  obtain ⟨b, off, rfl, c0, _⟩ := hc i hi
  exact closureC b2 b3 b off cap l.length l[i].1 key i W hi _ (by rw [less_str, lat_iff hu key i hi]) (hW.cell h2) (hW.cell h3) (hW.cell c0)
end Go.Proofs.YtkinnlfjcmhcoaaDoor.W
