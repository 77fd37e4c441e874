/-
  The reference's Walk and leads: where a leaf and a path lead, and all that is hashed on the way.
-/
import Derived.OwnWalk
import Derived.Test.YtkinnlfjcmhcoaaDoorZ0e
import Derived.Test.YtkinnlfjcmhcoaaDoorYKTree
import Derived.Test.YtkinnlfjcmhcoaaDoorYXRMath
namespace Go.Proofs.YtkinnlfjcmhcoaaDoor.W
open Go.RowKit

/-- what the reference's Walk answers -/
def WalkPost (w : World) (r : Option (List UInt8 × List (List UInt8))) (m : Nat) (e : Ending) (w' : World) : Prop :=
  ∃ t u L, e = .returned (.tuple #[.string (bs t), u, .bool r.isSome]) ∧ t.length ≤ 32 ∧ L.length ≤ m ∧ (∀ y ∈ L, y.length ≤ 2000) ∧ (∀ x, r = some x → x = (t, L)) ∧ OwnStrs w.heap.size u (bss L) w w'
theorem walk_nil (w : World) (m : Nat) : WalkPost w none m (.returned (.tuple #[.string (bs []), .slice none 0 0, .bool false])) w := ⟨[], _, [], rfl, by simp, by simp, by simp, (fun x hx => by cases hx), OwnStrs_nil w⟩
set_option maxHeartbeats 1000000 in
set_option maxRecDepth 100000 in
theorem walkOut (leaf v : Value) (i n : Int) (m : Nat) (w : World) (h : ¬ (0 ≤ i ∧ i < n)) : Calls Tryd.prog 70 #[.int .i64 n, .int .i64 i, leaf, v] w (WalkPost w none m) := by
  have R := walk_nil w m
  by_cases h1 : i < 0
  · go_enter Tryd.func70, Tryd.ntmps70
    go_wp2
    go_ret3
    exact R
  · have h2 : n ≤ i := by omega
    clear h
    go_enter Tryd.func70, Tryd.ntmps70
    go_wp2
    go_ret3
    exact R
set_option maxHeartbeats 1000000 in
set_option maxRecDepth 100000 in
theorem walkOne (leaf : List UInt8) (A : Option Addr) (m cap k : Nat) (w : World) (hl : leaf.length ≤ 32) (r : Option (List UInt8 × List (List UInt8))) (hr : r.isSome = decide (m = 0)) (hr2 : ∀ x, r = some x → x = (leaf, [])) :
    Calls Tryd.prog 70 #[.int .i64 1, .int .i64 0, .string (bs leaf), .slice A m cap] w (WalkPost w r k) := by
  have R : WalkPost w r k (.returned (.tuple #[.string (bs leaf), .slice none 0 0, .bool r.isSome])) w := ⟨leaf, _, [], rfl, hl, by simp, by simp, hr2, OwnStrs_nil w⟩
  rw [hr] at R
  clear hr hr2
  cases m with
  | zero =>
    go_enter Tryd.func70, Tryd.ntmps70
    go_wp2
    go_ret3
    exact R
  | succ m =>
    have hb : (((m + 1 : Nat) : Int) == 0) = false := by simp; omega
    have hd : decide (m + 1 = 0) = false := by simp
    rw [hd] at R
    clear hd
    go_enter Tryd.func70, Tryd.ntmps70
    go_wp2
    go_ret3
    exact R
set_option maxHeartbeats 1000000 in
set_option maxRecDepth 100000 in
theorem walkNone (leaf : Value) (A : Option Addr) (cap m : Nat) (i n : Int) (w : World) (h0 : 0 ≤ i) (h1 : i < n) (h2 : n ≠ 1) : Calls Tryd.prog 70 #[.int .i64 n, .int .i64 i, leaf, .slice A 0 cap] w (WalkPost w none m) := by
  have R := walk_nil w m
  have hb : (n == 1) = false := beq_eq_false_iff_ne.2 h2
  clear h2
  go_enter Tryd.func70, Tryd.ntmps70
  go_wp2
  go_ret3
  exact R
theorem walk_fin {w w8 : World} {m M : Nat} {t z : List UInt8} {L : List (List UInt8)} {v7 : Value} {r : Option (List UInt8 × List (List UInt8))} {f : List UInt8 → List UInt8} (hM : M = m + 1) (ll : L.length ≤ m) (ly : ∀ y ∈ L, y.length ≤ 2000) (lx : ∀ x, r = some x → x = (t, L)) (hz : f t = z) (hzl : z.length ≤ 2000) (o : OwnStrs w.heap.size v7 (bss L ++ [bs z]) w w8) :
    WalkPost w (r.map fun t => (shaOf (f t.1), t.2 ++ [f t.1])) M (.returned (.tuple #[.string (bs (shaOf z)), v7, .bool r.isSome])) w8 := by
  subst hz hM
  refine ⟨_, v7, L ++ [f t], by cases r <;> rfl, by rw [shaOf_len]; omega, by rw [List.length_append, List.length_singleton]; omega, fun y hy => ?_, fun x hx => ?_, by rw [bss_append]; exact o⟩
  · rw [List.mem_append, List.mem_singleton] at hy
    rcases hy with hy | rfl
    · exact ly y hy
    · exact hzl
  · rw [Option.map_eq_some_iff] at hx
    obtain ⟨u, hu, rfl⟩ := hx
    obtain rfl := lx u hu
    rfl
set_option maxHeartbeats 2000000 in
set_option maxRecDepth 100000 in
theorem walkL (leaf : Value) (b off m M cap s : Nat) (hM : M = m + 1) (x : List UInt8) (i n : Int) (w : World) (h0 : 0 ≤ i) (h1 : i < n) (h2 : n ≠ 1) (hn : n ≤ 9223372036854775807) (hm : m ≤ 1000000) (hxl : x.length ≤ 1000) (hs : spl n.toNat = s) (hi : i < s) (r : Option (List UInt8 × List (List UInt8)))
    (hc : w.cell? ⟨b, off + m, none⟩ = some (.string (bs x)))
    (hs2 : ∀ W, (Instr.slice 34 (.slice (some ⟨b, off, none⟩) M cap) none (some (.int .i64 m)) none).run Tryd.prog W = .ok (.slice (some ⟨b, off, none⟩) m cap) W)
    (H1 : Hid (∀ W, Since w W → Calls Tryd.prog 70 #[.int .i64 s, .int .i64 i, leaf, .slice (some ⟨b, off, none⟩) m cap] W (WalkPost W r m))) :
    Calls Tryd.prog 70 #[.int .i64 n, .int .i64 i, leaf, .slice (some ⟨b, off, none⟩) M cap] w (WalkPost w (r.map fun t => (shaOf (nodeOf t.1 x), t.2 ++ [nodeOf t.1 x])) M) := by
  have K0 := rSplitC n w (by omega)
  rw [hs] at K0
  have K := Lib.hid K0
  have hb : (n == 1) = false := beq_eq_false_iff_ne.2 h2
  have hl0 : ((M : Int) == 0) = false := by simp; omega
  have hmi : IntKind.i64.wrap ((M : Int) - 1) = (m : Int) := by rw [IntWalk.i64_in _ (by omega)]; omega
  have hm0 : (0 : Int) ≤ m := by omega
  have hm1 : (m : Int) < (M : Int) := by omega
  have HM := Lib.hid (And.intro hM (And.intro hm hxl))
  have H3 := Lib.hid (fun (t : List UInt8) (ht : t.length ≤ 32) W => rNodeC t x W (by omega) hxl)
  have HF := Lib.hid (fun (w8 : World) (t z : List UInt8) (L : List (List UInt8)) (v7 : Value) => walk_fin (w := w) (w8 := w8) (m := m) (M := M) (t := t) (z := z) (L := L) (v7 := v7) (r := r) (f := fun t => nodeOf t x) hM)
  clear K0 hs h2 hm hM hxl
  go_enter Tryd.func70, Tryd.ntmps70
  go_wp2_with fail
  refine K.out.mono ?_
  rintro e w1 ⟨rfl, b1⟩
  have c1 := (since_of b1).cell hc
  have S1 := Lib.hid b1
  clear K hc b1
  go_wp2_with fail
  refine (H1.out w1 (since_of S1.out)).mono ?_
  rintro e w2 ⟨t, u, L, rfl, tl, ll, ly, lx, o2⟩
  have O2 := Lib.hid (OwnStrs.from S1.out o2)
  have TL := Lib.hid (And.intro tl (And.intro ll (And.intro ly lx)))
  clear H1 S1 tl ll ly lx o2 c1
  go_wp2_with fail
  refine (H3.out t TL.out.1 w2).mono ?_
  rintro e w3 ⟨rfl, b3⟩
  have O3 := Lib.hid (O2.out.after b3)
  have HZ := Lib.hid (nodeOf_len t x)
  clear b3 O2 H3
  generalize hz : nodeOf t x = z at *
  have HE := Lib.hid hz
  clear hz
  obtain ⟨rs, hrs⟩ : ∃ rs, r.isSome = rs := ⟨_, rfl⟩
  have HG := Lib.hid (fun (w8 : World) (v7 : Value) => HF.out w8 t z L v7 TL.out.2.1 TL.out.2.2.1 TL.out.2.2.2 HE.out (by rw [HZ.out]; have := TL.out.1; have := HM.out.2.2; omega))
  rw [hrs] at HG ⊢
  clear HF HE hrs
  go_wp2_with fail
  refine (rShaC z _ (Lib.hid rfl) w3 (by rw [HZ.out]; have := TL.out.1; have := HM.out.2.2; omega)).mono ?_
  rintro e w4 ⟨rfl, b4⟩
  have O4 := Lib.hid (O3.out.after b4)
  obtain ⟨out, ho⟩ : ∃ out, shaOf z = out := ⟨_, rfl⟩
  rw [ho] at HG ⊢
  clear b4 O3 ho
  go_wp2_with (at_builtin; refine wpList_append_str rfl _ _ rfl w.heap.size u _ rfl w w4 (bs z) O4.out rfl (by rw [bss_len]; have := TL.out.2.1; have := HM.out.2.1; omega) ?_; intro v7 w7 o7; have O7 := Lib.hid o7; clear o7 O4)
  go_ret3
  exact HG.out w7 v7 O7.out
set_option maxHeartbeats 2000000 in
set_option maxRecDepth 100000 in
theorem walkRt (leaf : Value) (b off m M cap s : Nat) (hM : M = m + 1) (x : List UInt8) (i n : Int) (w : World) (h0 : 0 ≤ i) (h1 : i < n) (h2 : n ≠ 1) (hn : n ≤ 9223372036854775807) (hm : m ≤ 1000000) (hxl : x.length ≤ 1000) (hs : spl n.toNat = s) (hi : ¬ i < s) (r : Option (List UInt8 × List (List UInt8)))
    (hc : w.cell? ⟨b, off + m, none⟩ = some (.string (bs x)))
    (hs2 : ∀ W, (Instr.slice 34 (.slice (some ⟨b, off, none⟩) M cap) none (some (.int .i64 m)) none).run Tryd.prog W = .ok (.slice (some ⟨b, off, none⟩) m cap) W)
    (H1 : Hid (∀ W, Since w W → Calls Tryd.prog 70 #[.int .i64 (n - s), .int .i64 (i - s), leaf, .slice (some ⟨b, off, none⟩) m cap] W (WalkPost W r m))) :
    Calls Tryd.prog 70 #[.int .i64 n, .int .i64 i, leaf, .slice (some ⟨b, off, none⟩) M cap] w (WalkPost w (r.map fun t => (shaOf (nodeOf x t.1), t.2 ++ [nodeOf x t.1])) M) := by
  have K0 := rSplitC n w (by omega)
  rw [hs] at K0
  have K := Lib.hid K0
  have hb : (n == 1) = false := beq_eq_false_iff_ne.2 h2
  have hl0 : ((M : Int) == 0) = false := by simp; omega
  have hmi : IntKind.i64.wrap ((M : Int) - 1) = (m : Int) := by rw [IntWalk.i64_in _ (by omega)]; omega
  have hwi : IntKind.i64.wrap (i - (s : Int)) = i - (s : Int) := IntWalk.i64_in _ (by omega)
  have hwn : IntKind.i64.wrap (n - (s : Int)) = n - (s : Int) := IntWalk.i64_in _ (by omega)
  have hm0 : (0 : Int) ≤ m := by omega
  have hm1 : (m : Int) < (M : Int) := by omega
  have HM := Lib.hid (And.intro hM (And.intro hm hxl))
  have H3 := Lib.hid (fun (t : List UInt8) (ht : t.length ≤ 32) W => rNodeC x t W hxl (by omega))
  have HF := Lib.hid (fun (w8 : World) (t z : List UInt8) (L : List (List UInt8)) (v7 : Value) => walk_fin (w := w) (w8 := w8) (m := m) (M := M) (t := t) (z := z) (L := L) (v7 := v7) (r := r) (f := fun t => nodeOf x t) hM)
  clear K0 hs h2 hm hM hxl
  go_enter Tryd.func70, Tryd.ntmps70
  go_wp2_with fail
  refine K.out.mono ?_
  rintro e w1 ⟨rfl, b1⟩
  have c1 := (since_of b1).cell hc
  have S1 := Lib.hid b1
  clear K hc b1
  go_wp2_with fail
  refine (H1.out w1 (since_of S1.out)).mono ?_
  rintro e w2 ⟨t, u, L, rfl, tl, ll, ly, lx, o2⟩
  have O2 := Lib.hid (OwnStrs.from S1.out o2)
  have TL := Lib.hid (And.intro tl (And.intro ll (And.intro ly lx)))
  clear H1 S1 tl ll ly lx o2 c1
  go_wp2_with fail
  refine (H3.out t TL.out.1 w2).mono ?_
  rintro e w3 ⟨rfl, b3⟩
  have O3 := Lib.hid (O2.out.after b3)
  have HZ := Lib.hid (nodeOf_len x t)
  clear b3 O2 H3
  generalize hz : nodeOf x t = z at *
  have HE := Lib.hid hz
  clear hz
  obtain ⟨rs, hrs⟩ : ∃ rs, r.isSome = rs := ⟨_, rfl⟩
  have HG := Lib.hid (fun (w8 : World) (v7 : Value) => HF.out w8 t z L v7 TL.out.2.1 TL.out.2.2.1 TL.out.2.2.2 HE.out (by rw [HZ.out]; have := TL.out.1; have := HM.out.2.2; omega))
  rw [hrs] at HG ⊢
  clear HF HE hrs
  go_wp2_with fail
  refine (rShaC z _ (Lib.hid rfl) w3 (by rw [HZ.out]; have := TL.out.1; have := HM.out.2.2; omega)).mono ?_
  rintro e w4 ⟨rfl, b4⟩
  have O4 := Lib.hid (O3.out.after b4)
  obtain ⟨out, ho⟩ : ∃ out, shaOf z = out := ⟨_, rfl⟩
  rw [ho] at HG ⊢
  clear b4 O3 ho
  go_wp2_with (at_builtin; refine wpList_append_str rfl _ _ rfl w.heap.size u _ rfl w w4 (bs z) O4.out rfl (by rw [bss_len]; have := TL.out.2.1; have := HM.out.2.1; omega) ?_; intro v7 w7 o7; have O7 := Lib.hid o7; clear o7 O4)
  go_ret3
  exact HG.out w7 v7 O7.out
set_option maxRecDepth 100000 in
theorem walkC (leaf : List UInt8) (hlf : leaf.length = 32) (p : List (List UInt8)) : ∀ (v : Value) (i n : Int) (w : World), Txs w w.heap.size v (bss p) → Roomy v → n ≤ 9223372036854775807 → p.length ≤ 1000000 → (∀ y ∈ p, y.length ≤ 1000) →
    Calls Tryd.prog 70 #[.int .i64 n, .int .i64 i, .string (bs leaf), v] w (WalkPost w (lead leaf p i n) p.length) := by
  induction p using snocInd with
  | h0 =>
    intro v i n w hT hR hn _ _
    obtain ⟨A, cap, rfl, _⟩ := hT
    by_cases h : 0 ≤ i ∧ i < n
    · by_cases h1 : n = 1
      · subst h1
        obtain rfl : i = 0 := by omega
        rw [lead_nil, if_pos (by omega)]
        exact walkOne leaf A 0 cap _ w (by omega) _ rfl (fun x hx => by cases hx; rfl)
      · rw [lead_nil, if_neg (fun e => h1 e.2.2)]
        exact walkNone _ A cap _ i n w h.1 h.2 h1
    · rw [lead_out h]
      exact walkOut _ _ i n _ w h
  | h1 p x ih =>
    intro v i n w hT hR hn hp hy
    have hp' : p.length + 1 ≤ 1000000 := by rw [List.length_append] at hp; exact hp
    have hT0 := hT
    obtain ⟨A, cap, rfl, hc⟩ := hT0
    have hll : (bss (p ++ [x])).length = p.length + 1 := by rw [bss_len, List.length_append]; rfl
    have hpl : (p ++ [x]).length = p.length + 1 := by rw [List.length_append]; rfl
    have hcap : (bss (p ++ [x])).length ≤ cap := by
      obtain ⟨A0, n0, c0, e, h⟩ := hR
      cases e
      exact h
    by_cases h : 0 ≤ i ∧ i < n
    · by_cases h1 : n = 1
      · subst h1
        obtain rfl : i = 0 := by omega
        rw [lead_snoc, if_neg (fun e => e.2.2 rfl), hll]
        exact walkOne leaf A (p.length + 1) cap _ w (by omega) none (by simp) (fun x hx => by cases hx)
      · obtain ⟨b, off, rfl, hb, c0⟩ := hc p.length (by omega)
        have ec : (bss (p ++ [x]))[p.length]'(by omega) = bs x := by simp [bss]
        rw [ec] at c0
        obtain ⟨hs2, P2⟩ := txs_upto hT hcap p.length (by omega)
        have e1 : (bss (p ++ [x])).take p.length = bss p := by rw [← bss_take, List.take_left]
        rw [e1] at P2
        rw [hll] at hs2 hcap ⊢
        rw [lead_snoc, if_pos ⟨h.1, h.2, h1⟩, hpl]
        have hxl := hy x (by simp)
        by_cases hlt : i < (spl n.toNat : Nat)
        · rw [if_pos hlt]
          exact walkL _ b off p.length _ cap _ rfl x i n w h.1 h.2 h1 hn (by omega) hxl rfl hlt _ c0 hs2
            (Lib.hid fun W hW => ih _ i _ W ((P2.below hW.below).more hW.2.2.2.1) ⟨_, _, _, rfl, by omega⟩ (by have := (spl_pos (n := n.toNat) (by omega) (by omega)).2.1; omega) (by omega) (fun y hy' => hy y (by simp [hy'])))
        · rw [if_neg hlt]
          exact walkRt _ b off p.length _ cap _ rfl x i n w h.1 h.2 h1 hn (by omega) hxl rfl hlt _ c0 hs2
            (Lib.hid fun W hW => ih _ _ _ W ((P2.below hW.below).more hW.2.2.2.1) ⟨_, _, _, rfl, by omega⟩ (by omega) (by omega) (fun y hy' => hy y (by simp [hy'])))
    · rw [lead_out h]
      exact walkOut _ _ i n _ w h

/-! ### leads -/
def LeadsPost (w : World) (root tx : List UInt8) (n : Int) (r : Option (List UInt8 × List (List UInt8))) (e : Ending) (w' : World) : Prop :=
  ∃ u L b, e = .returned (.tuple #[.bool b, u]) ∧ OwnStrs w.heap.size u (bss L) w w' ∧ ((r = none ∧ b = false ∧ L = []) ∨ ∃ x, r = some x ∧ b = decide (shaOf (topOf n x.1) = root) ∧ L = [tx] ++ x.2 ++ [topOf n x.1])
set_option maxHeartbeats 2000000 in
set_option maxRecDepth 100000 in
theorem leads_this (root lf tx : List UInt8) (p : KV) (v : Value) (i n : Int) (m : Nat) (w : World) (r : Option (List UInt8 × List (List UInt8))) (hm : m ≤ 1000000) (htx : tx.length ≤ 1000000) (hlf : shaOf tx = lf)
    (H0 : Hid (∀ W, Since w W → Calls Tryd.prog 69 #[.agg #[.string p.1, .string p.2]] W fun e w' => e = .returned (.string (bs tx)) ∧ Since w w'))
    (H1 : Hid (∀ W, Since w W → Calls Tryd.prog 70 #[.int .i64 n, .int .i64 i, .string (bs lf), v] W (WalkPost W r m)))
    (H2 : Hid (∀ t, t.length ≤ 32 → ∀ W, Calls Tryd.prog 38 #[.int .i64 n, .string (bs t)] W fun e w' => e = .returned (.string (bs (topOf n t))) ∧ Below W.heap.size W w')) :
    Calls Tryd.prog 36 #[.string (bs root), .agg #[.string p.1, .string p.2], .int .i64 n, .int .i64 i, v] w (LeadsPost w root tx n r) := by
  obtain ⟨p1, p2⟩ := p
  have HB := Lib.hid (Blk.new w 32 #[.string p1, .string p2])
  have HW := Lib.hid (since_of ((Below.refl w.heap.size w).alloc (Nat.le_refl _) (.cells #[.string p1, .string p2] 32)))
  have HM := Lib.hid (And.intro hm htx)
  have HS := Lib.hid (fun W => rShaC tx lf (Lib.hid hlf) W htx)
  simp only at H0
  clear hm htx hlf
  go_enter Tryd.func36, Tryd.ntmps36
  go_wp2_with fail
  refine (H0.out _ HW.out).mono ?_
  rintro e w1 ⟨rfl, s1⟩
  clear H0 HB HW
  go_wp2_with fail
  refine (HS.out w1).mono ?_
  rintro e w2 ⟨rfl, b2⟩
  have S2 := Lib.hid (step_below s1.below b2)
  clear HS s1 b2
  go_wp2_with fail
  refine (H1.out w2 (since_of S2.out)).mono ?_
  rintro e w3 ⟨t, u, L, rfl, tl, ll, ly, lx, o3⟩
  have O3 := Lib.hid (OwnStrs.from S2.out o3)
  have TL := Lib.hid (And.intro tl (And.intro ll (And.intro ly lx)))
  clear H1 S2 tl ll ly lx o3
  cases r with
  | none =>
    have R := Lib.hid (show LeadsPost w root tx n none (.returned (.tuple #[.bool false, .slice none 0 0])) w3 from ⟨_, [], _, rfl, OwnStrs.start O3.out.below, .inl ⟨rfl, rfl, rfl⟩⟩)
    simp only [Option.isSome_none]
    clear O3 TL
    go_wp2
    go_ret2
    exact R.out
  | some x =>
    obtain rfl := TL.out.2.2.2 x rfl
    simp only [Option.isSome_some]
    go_wp2_with fail
    refine (H2.out t TL.out.1 w3).mono ?_
    rintro e w4 ⟨rfl, b4⟩
    have O4 := Lib.hid (O3.out.after b4)
    have HT := Lib.hid (topOf_len n t)
    clear b4 O3 H2
    have HR := Lib.hid (show ∀ (u : Value) w', OwnStrs w.heap.size u ((([bs tx] ++ bss L) ++ [bs (topOf n t)])) w w' → LeadsPost w root tx n (some (t, L)) (Ending.returned (.tuple #[.bool (decide (shaOf (topOf n t) = root)), u])) w' from
      fun u w' o => ⟨u, [tx] ++ L ++ [topOf n t], _, rfl, by rw [bss_append, bss_append]; exact o, .inr ⟨(t, L), rfl, rfl, rfl⟩⟩)
    generalize topOf n t = z at *
    have HZ := Lib.hid (show z.length ≤ 1000000 by have := HT.out; have := TL.out.1; omega)
    have HL := Lib.hid (show (bss L).length ≤ 1000000 by rw [bss_len]; have := TL.out.2.1; have := HM.out.1; omega)
    clear HT TL HM
    go_wp2_with (at_builtin; first
      | (refine wpList_append_txs _ rfl _ _ rfl w.heap.size _ (.slice (some ⟨w4.heap.size, 0, none⟩) 1 1) u [bs tx] (bss L) rfl rfl w (own_one O4.out.below (bs tx)) (O4.out.alloc _).txs (by have := HL.out; simp; omega) ?_; intro v5 w5 o5 g5; have O5 := Lib.hid o5; clear o5 g5 O4)
      | (refine wpList_append_str rfl _ _ rfl w.heap.size v5 _ rfl w w5 (bs z) O5.out rfl (by have := HL.out; simp; omega) ?_; intro v7 w7 o7; have O7 := Lib.hid o7; clear o7 O5))
    refine (rShaC z _ (Lib.hid rfl) w7 HZ.out).mono ?_
    rintro e w8 ⟨rfl, b8⟩
    have FIN := Lib.hid (HR.out v7 w8 (O7.out.after b8))
    clear HR b8 O7
    generalize shaOf z = y at *
    by_cases he : y = root
    · subst he
      rw [decide_eq_true rfl] at FIN
      go_wp2
      go_ret2
      exact FIN.out
    · rw [decide_eq_false he] at FIN
      have hne := str_ne (bs_ne he)
      clear he
      go_wp2
      go_ret2
      exact FIN.out
theorem leadsC (root : List UInt8) (p : KV) (q : List (List UInt8)) (v : Value) (i n : Int) (w : World) (hT : Txs w w.heap.size v (bss q)) (hR : Roomy v) (hn : n ≤ 9223372036854775807) (hq : q.length ≤ 1000000) (hy : ∀ y ∈ q, y.length ≤ 1000) :
    Calls Tryd.prog 36 #[.string (bs root), .agg #[.string p.1, .string p.2], .int .i64 n, .int .i64 i, v] w fun e w' => ∃ u, e = .returned (.tuple #[.bool (reach root p q i n), u]) ∧ OwnStrs w.heap.size u (bss (reachTexts p q i n)) w w' := by
  have ll := leafOf_len p
  refine (leads_this root (shaOf (leafOf p)) (leafOf p) p v i n q.length w (lead (shaOf (leafOf p)) q i n) hq (by omega) rfl
    (Lib.hid fun W hW => (rLeafC p W).mono fun e w' ⟨he, hb⟩ => ⟨he, since_of (step_below hW.below hb)⟩)
    (Lib.hid fun W hW => walkC _ (shaOf_len _) q v i n W ((hT.below hW.below).more hW.2.2.2.1) hR hn hq hy)
    (Lib.hid fun t ht W => rTopC n t W (by omega))).mono ?_
  rintro e w' ⟨u, L, b, rfl, o, ⟨h1, rfl, rfl⟩ | ⟨x, h1, rfl, rfl⟩⟩
  · rw [reach_none h1]
    have e2 : reachTexts p q i n = [] := by unfold reachTexts; rw [h1]
    rw [e2]
    exact ⟨u, rfl, o⟩
  · rw [reach_some h1, reachTexts_some h1]
    exact ⟨u, rfl, o⟩
end Go.Proofs.YtkinnlfjcmhcoaaDoor.W
