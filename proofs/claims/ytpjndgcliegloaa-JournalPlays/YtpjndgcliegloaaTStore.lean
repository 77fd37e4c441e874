/-
  Package pairs: a store in memory; New, Len, Get, Set, Del, Copy, All.
-/
import Derived.Test.YtpjndgcliegloaaTOut
import Derived.Test.YtpjndgcliegloaaTGet
import Derived.Test.YtpjndgcliegloaaTAll
namespace Go.Proofs.Ytpjndgcliegloaa.W
open Go.RowKit

/-- the store at block b holds the pairs L -/
def IsStore (w : World) (b : Nat) (L : List KV) : Prop := ∃ p t, Blk w b 74 #[.pointer p, .int .i64 L.length] ∧ IsTree w p t ∧ t.list = L ∧ Up L
/-- block b is a store -/
def AStore (w : World) (b : Nat) : Prop := ∃ cs, Blk w b 74 cs
theorem IsStore.a {w : World} {b : Nat} {L : List KV} (h : IsStore w b L) : AStore w b := by obtain ⟨p, t, hb, _⟩ := h; exact ⟨_, hb⟩
theorem IsStore.lt {w : World} {b : Nat} {L : List KV} (h : IsStore w b L) : b < w.heap.size := by obtain ⟨p, t, hb, _⟩ := h; exact hb.lt
theorem IsStore.up {w : World} {b : Nat} {L : List KV} (h : IsStore w b L) : Up L := by obtain ⟨p, t, _, _, _, hu⟩ := h; exact hu
theorem blk_type {w : World} {b : Nat} {t u : TypeId} {cs ds : Array Value} (h : Blk w b t cs) (k : Blk w b u ds) : t = u := by
  unfold Blk at h k
  rw [h] at k
  cases k
  rfl
theorem kept_store {w w' : World} {b : Nat} (hb : AStore w b) (h : w.grownBy w' (some b)) : Kept w w' := fun g cs hg => hg.grown h (fun e => by
  cases e
  obtain ⟨ds, hd⟩ := hb
  have := blk_type hg hd
  revert this
  decide)
theorem IsStore.below {w w' : World} {b : Nat} {L : List KV} (h : IsStore w b L) (hb : Below w.heap.size w w') : IsStore w' b L := by
  obtain ⟨p, t, h1, h2, h3⟩ := h
  exact ⟨p, t, h1.below hb h1.lt, h2.below hb, h3⟩
theorem IsStore.other {w w' : World} {b c : Nat} {L : List KV} (h : IsStore w b L) (hc : AStore w c) (hg : w.grownBy w' (some c)) (hne : b ≠ c) : IsStore w' b L := by
  obtain ⟨p, t, h1, h2, h3⟩ := h
  exact ⟨p, t, h1.grown hg (fun e => hne (by cases e; rfl)), h2.kept (kept_store hc hg), h3⟩

theorem newC (w : World) : Calls Try.prog 22 #[] w fun e w' => e = .returned (.pointer (some ⟨w.heap.size, 0, none⟩)) ∧ IsStore w' w.heap.size [] ∧ Below w.heap.size w w' := by
  go_enter Try.func22, Try.ntmps22
  go_wp2
  go_ret
  exact ⟨rfl, ⟨none, .leaf, Blk.new w _ _, rfl, rfl, List.Pairwise.nil⟩, (Below.refl _ _).alloc (Nat.le_refl _) _⟩
theorem lenC (b : Nat) (L : List KV) (w : World) (h : IsStore w b L) : Calls Try.prog 40 #[.pointer (some ⟨b, 0, none⟩)] w fun e w' => e = .returned (.int .i64 L.length) ∧ w' = w := by
  obtain ⟨p, t, hb, _⟩ := h
  have c1 : w.cell? ⟨b, 1, none⟩ = some (.int .i64 L.length) := hb.cell 1
  go_enter Try.func40, Try.ntmps40
  go_wp2
  go_ret
  exact ⟨rfl, rfl⟩
theorem lenNil (w : World) : Calls Try.prog 40 #[.pointer none] w fun e w' => e = .returned (.int .i64 0) ∧ w' = w := by
  go_enter Try.func40, Try.ntmps40
  go_wp2
  go_ret
  exact ⟨rfl, rfl⟩
theorem treeC (b : Nat) (p : Option Addr) (v : Value) (w : World) (hb : Blk w b 74 #[.pointer p, v]) : Calls Try.prog 42 #[.pointer (some ⟨b, 0, none⟩)] w fun e w' => e = .returned (.pointer p) ∧ w' = w := by
  have c0 : w.cell? ⟨b, 0, none⟩ = some (.pointer p) := hb.cell 0
  go_enter Try.func42, Try.ntmps42
  go_wp2
  go_ret
  exact ⟨rfl, rfl⟩
theorem treeNil (w : World) : Calls Try.prog 42 #[.pointer none] w fun e w' => e = .returned (.pointer none) ∧ w' = w := by
  go_enter Try.func42, Try.ntmps42
  go_wp2
  go_ret
  exact ⟨rfl, rfl⟩

set_option maxHeartbeats 1000000 in
theorem sGetAt (s p : Option Addr) (k : ByteArray) (t : BT) (w : World) (H : Calls Try.prog 42 #[.pointer s] w fun e w' => e = .returned (.pointer p) ∧ w' = w) (hT : IsTree w p t) (hu : Up t.list) :
    Calls Try.prog 28 #[.pointer s, .string k] w fun e w' => e = .returned (retGet (lget t.list k)) ∧ w' = w := by
  have H1 := Lib.hid H
  have H2 := Lib.hid (getC k t p w hT hu)
  clear H hT hu
  unfold retGet at *
  generalize (lget t.list k).getD ⟨#[]⟩ = v at *
  generalize (lget t.list k).isSome = c at *
  go_enter Try.func28, Try.ntmps28
  go_wp2_with fail
  refine H1.out.mono ?_
  rintro e w' ⟨rfl, rfl⟩
  go_wp2_with fail
  refine H2.out.mono ?_
  rintro e w' ⟨rfl, rfl⟩
  go_wp2
  go_returns
  exact ⟨rfl, rfl⟩
theorem sGet (b : Nat) (k : ByteArray) (L : List KV) (w : World) (h : IsStore w b L) : Calls Try.prog 28 #[.pointer (some ⟨b, 0, none⟩), .string k] w fun e w' => e = .returned (retGet (lget L k)) ∧ w' = w := by
  obtain ⟨p, t, hb, hT, rfl, hu⟩ := h
  exact sGetAt _ p k t w (treeC b p _ w hb) hT hu
theorem sGetNil (k : ByteArray) (w : World) : Calls Try.prog 28 #[.pointer none, .string k] w fun e w' => e = .returned (retGet none) ∧ w' = w :=
  sGetAt none none k .leaf w (treeNil w) rfl List.Pairwise.nil

theorem sSetNil (k v : ByteArray) (w : World) : Calls Try.prog 23 #[.pointer none, .string k, .string v] w fun e w' => e = .returned (.bool false) ∧ w' = w := by
  go_enter Try.func23, Try.ntmps23
  go_wp2
  go_ret
  exact ⟨rfl, rfl⟩
set_option maxHeartbeats 1000000 in
theorem sSet (b : Nat) (k v : ByteArray) (L : List KV) (w : World) (h : IsStore w b L) (hz : L.length + 1 < 4611686018427387904) :
    Calls Try.prog 23 #[.pointer (some ⟨b, 0, none⟩), .string k, .string v] w fun e w' => e = .returned (.bool (!(lget L k).isSome)) ∧ IsStore w' b (lset L k v) ∧ w.grownBy w' (some b) := by
  obtain ⟨p, t, hb, hT, rfl, hu⟩ := h
  have H1 := Lib.hid (getC k t p w hT hu)
  have H2 := Lib.hid (withC (k, v) t p w hT hu hz)
  have HB := Lib.hid hb
  have hsz := lset_size hu k v
  have HU := Lib.hid (lset_up (k := k) (v := v) hu)
  have c0 : w.cell? ⟨b, 0, none⟩ = some (.pointer p) := hb.cell 0
  clear hb hT hu
  unfold retGet at *
  generalize (lget t.list k).getD ⟨#[]⟩ = r at *
  have hw : IntKind.i64.wrap ((t.list.length : Int) + 1) = (t.list.length : Int) + 1 := IntWalk.i64_in _ (by omega)
  cases hc : (lget t.list k).isSome with
  | true =>
    rw [hc] at H1 hsz
    simp only [if_true] at hsz
    go_enter Try.func23, Try.ntmps23
    go_wp2_with fail
    refine H1.out.mono ?_
    rintro e w' ⟨rfl, rfl⟩
    go_wp2_with fail
    refine H2.out.mono ?_
    rintro e w1 ⟨p', t', rfl, hT', hL', bel⟩
    have hb1 := HB.out.below bel HB.out.lt
    have f0 : w1.frozen? ⟨b, 0, none⟩ = false := hb1.frozen 0
    have d0 : w1.cell? ⟨b, 0, none⟩ = some (.pointer p) := hb1.cell 0
    go_wp2
    go_ret
    have g1 : w'.grownBy (w1.setCell ⟨b, 0, none⟩ (.pointer p')) (some b) := only_set (only_of_below (only_refl w' _) bel (Nat.le_refl _)) _ _
    have hb2 := hb1.set_ 0 (.pointer p')
    refine ⟨rfl, ⟨p', t', ?_, hT'.kept (kept_store ⟨_, hb1⟩ (only_set (only_refl w1 _) _ _)), hL', HU.out⟩, g1⟩
    rw [hsz]
    exact hb2
  | false =>
    rw [hc] at H1 hsz
    simp only [Bool.false_eq_true, if_false] at hsz
    go_enter Try.func23, Try.ntmps23
    go_wp2_with fail
    refine H1.out.mono ?_
    rintro e w' ⟨rfl, rfl⟩
    go_wp2_with fail
    refine H2.out.mono ?_
    rintro e w1 ⟨p', t', rfl, hT', hL', bel⟩
    have hb1 := HB.out.below bel HB.out.lt
    have f0 : w1.frozen? ⟨b, 0, none⟩ = false := hb1.frozen 0
    have d0 : w1.cell? ⟨b, 0, none⟩ = some (.pointer p) := hb1.cell 0
    have hb2 := hb1.set_ 0 (.pointer p')
    have f1 : (w1.setCell ⟨b, 0, none⟩ (.pointer p')).frozen? ⟨b, 1, none⟩ = false := hb2.frozen 1
    have d1 : (w1.setCell ⟨b, 0, none⟩ (.pointer p')).cell? ⟨b, 1, none⟩ = some (.int .i64 t.list.length) := hb2.cell 1
    go_wp2
    go_ret
    have g1 : w'.grownBy ((w1.setCell ⟨b, 0, none⟩ (.pointer p')).setCell ⟨b, 1, none⟩ (.int .i64 ((t.list.length : Int) + 1))) (some b) := only_set (only_set (only_of_below (only_refl w' _) bel (Nat.le_refl _)) _ _) _ _
    have hb3 := hb2.set_ 1 (.int .i64 ((t.list.length : Int) + 1))
    refine ⟨rfl, ⟨p', t', ?_, hT'.kept (kept_store ⟨_, hb1⟩ (only_set (only_set (only_refl w1 _) _ _) _ _)), hL', HU.out⟩, g1⟩
    rw [hsz]
    exact hb3

set_option maxHeartbeats 1000000 in
theorem sDelNo (s : Option Addr) (k : ByteArray) (w : World) (H : Calls Try.prog 28 #[.pointer s, .string k] w fun e w' => e = .returned (retGet none) ∧ w' = w) :
    Calls Try.prog 37 #[.pointer s, .string k] w fun e w' => e = .returned (.bool false) ∧ w' = w := by
  have H1 := Lib.hid H
  clear H
  unfold retGet at *
  simp only [Option.getD_none, Option.isSome_none] at *
  go_enter Try.func37, Try.ntmps37
  go_wp2_with fail
  refine H1.out.mono ?_
  rintro e w' ⟨rfl, rfl⟩
  go_wp2
  go_ret
  exact ⟨rfl, rfl⟩
theorem sDelNil (k : ByteArray) (w : World) : Calls Try.prog 37 #[.pointer none, .string k] w fun e w' => e = .returned (.bool false) ∧ w' = w := sDelNo none k w (sGetNil k w)
set_option maxHeartbeats 1000000 in
theorem sDel (b : Nat) (k : ByteArray) (L : List KV) (w : World) (h : IsStore w b L) (hz : L.length < 4611686018427387904) :
    Calls Try.prog 37 #[.pointer (some ⟨b, 0, none⟩), .string k] w fun e w' => e = .returned (.bool (lget L k).isSome) ∧ IsStore w' b (ldel L k) ∧ w.grownBy w' (some b) := by
  cases hc : lget L k with
  | none => exact (sDelNo _ k w (by rw [← hc]; exact sGet b k L w h)).mono fun e w' ⟨he, hw⟩ => ⟨he, by rw [hw, ldel_absent hc]; exact h, by rw [hw]; exact only_refl _ _⟩
  | some v =>
    have HG := sGet b k L w h
    rw [hc] at HG
    have H1 := Lib.hid HG
    obtain ⟨p, t, hb, hT, rfl, hu⟩ := h
    have H2 := Lib.hid (withoutC t k p w hT hu hz)
    have HB := Lib.hid hb
    have hsz := ldel_size hu k
    have HU := Lib.hid (ldel_up (k := k) hu)
    have c0 : w.cell? ⟨b, 0, none⟩ = some (.pointer p) := hb.cell 0
    clear hb hT hu HG
    rw [hc] at hsz
    simp only [Option.isSome_some, if_true] at hsz
    have hw : IntKind.i64.wrap ((t.list.length : Int) - 1) = ((ldel t.list k).length : Int) := by rw [IntWalk.i64_in _ (by omega)]; omega
    unfold retGet at *
    simp only [Option.getD_some, Option.isSome_some] at *
    go_enter Try.func37, Try.ntmps37
    go_wp2_with fail
    refine H1.out.mono ?_
    rintro e w' ⟨rfl, rfl⟩
    go_wp2_with fail
    refine H2.out.mono ?_
    rintro e w1 ⟨p', t', rfl, hT', hL', bel⟩
    have hb1 := HB.out.below bel HB.out.lt
    have f0 : w1.frozen? ⟨b, 0, none⟩ = false := hb1.frozen 0
    have d0 : w1.cell? ⟨b, 0, none⟩ = some (.pointer p) := hb1.cell 0
    have hb2 := hb1.set_ 0 (.pointer p')
    have f1 : (w1.setCell ⟨b, 0, none⟩ (.pointer p')).frozen? ⟨b, 1, none⟩ = false := hb2.frozen 1
    have d1 : (w1.setCell ⟨b, 0, none⟩ (.pointer p')).cell? ⟨b, 1, none⟩ = some (.int .i64 t.list.length) := hb2.cell 1
    go_wp2
    go_ret
    have g1 : w'.grownBy ((w1.setCell ⟨b, 0, none⟩ (.pointer p')).setCell ⟨b, 1, none⟩ (.int .i64 ((ldel t.list k).length : Int))) (some b) := only_set (only_set (only_of_below (only_refl w' _) bel (Nat.le_refl _)) _ _) _ _
    have hb3 := hb2.set_ 1 (.int .i64 ((ldel t.list k).length : Int))
    exact ⟨rfl, ⟨p', t', hb3, hT'.kept (kept_store ⟨_, hb1⟩ (only_set (only_set (only_refl w1 _) _ _) _ _)), hL', HU.out⟩, g1⟩

theorem copyNil (w : World) : Calls Try.prog 30 #[.pointer none] w fun e w' => e = .returned (.pointer none) ∧ w' = w := by
  go_enter Try.func30, Try.ntmps30
  go_wp2
  go_ret
  exact ⟨rfl, rfl⟩
set_option maxHeartbeats 1000000 in
theorem copyC (b : Nat) (L : List KV) (w : World) (h : IsStore w b L) :
    Calls Try.prog 30 #[.pointer (some ⟨b, 0, none⟩)] w fun e w' => e = .returned (.pointer (some ⟨w.heap.size, 0, none⟩)) ∧ IsStore w' w.heap.size L ∧ Below w.heap.size w w' := by
  obtain ⟨p, t, hb, hT, hL, hu⟩ := h
  have c0 : w.cell? ⟨b, 0, none⟩ = some (.pointer p) := hb.cell 0
  have c1 : w.cell? ⟨b, 1, none⟩ = some (.int .i64 L.length) := hb.cell 1
  go_enter Try.func30, Try.ntmps30
  go_wp2
  go_region_held3 (fun w' => w'.cell? ⟨b, 0, none⟩ = some (.pointer p) ∧ w'.cell? ⟨b, 1, none⟩ = some (.int .i64 L.length))
    (go_keep) (fail)
  all_goals go_wp2
  all_goals go_ret
  all_goals exact ⟨rfl, ⟨p, t, Blk.new w.drew _ _, hT.below (((Below.refl _ w).drew).alloc (Nat.le_refl _) _), hL, hu⟩, ((Below.refl _ w).drew).alloc (Nat.le_refl _) _⟩

set_option maxHeartbeats 1000000 in
theorem allAt (s p : Option Addr) (pf : ByteArray) (w : World) (H : ∀ W, Since w W → Calls Try.prog 42 #[.pointer s] W fun e w' => e = .returned (.pointer p) ∧ w' = W) :
    Calls Try.prog 41 #[.pointer s, .string pf] w fun e w' => e = .returned (.func (.func 49) #[] #[.pointer (some ⟨w.heap.size + 1, 0, none⟩), .pointer (some ⟨w.heap.size, 0, none⟩)]) ∧ w' = (w.alloc (.cells #[.string pf] 9)).alloc (.cells #[.pointer p] 72) := by
  have H1 := Lib.hid (H (w.alloc (.cells #[.string pf] 9)) (since_of ((Below.refl _ _).alloc (Nat.le_refl _) _)))
  clear H
  go_enter Try.func41, Try.ntmps41
  go_wp2_with fail
  refine H1.out.mono ?_
  rintro e w' ⟨rfl, rfl⟩
  go_wp2
  go_ret
  exact ⟨rfl, rfl⟩
/-- what All answers: a function value that goes over L -/
def Goes (L : List KV) (w : World) (e : Ending) (w' : World) : Prop := ∃ lb, e = .returned (.func (.func 49) #[] lb) ∧ Below w.heap.size w w' ∧
  ∀ (o : Nat → Prop), (∀ i, o i → w'.heap.size ≤ i ∨ ∃ u cs, Blk w i u cs ∧ u ≠ 86) → SeqOf Try.prog 49 lb L o w'
theorem allGoes (s p : Option Addr) (pf : ByteArray) (t : BT) (w : World) (H : ∀ W, Since w W → Calls Try.prog 42 #[.pointer s] W fun e w' => e = .returned (.pointer p) ∧ w' = W) (hT : IsTree w p t) (hu : Up t.list) :
    Calls Try.prog 41 #[.pointer s, .string pf] w (Goes (lall t.list pf) w) := by
  refine (allAt s p pf w H).mono fun e w' ⟨he, hw⟩ => ⟨_, he, ?_, fun o ho => ?_⟩
  · rw [hw]; exact ((Below.refl _ _).alloc (Nat.le_refl _) _).alloc (by simp) _
  · have hB : Below w.heap.size w w' := by rw [hw]; exact ((Below.refl _ _).alloc (Nat.le_refl _) _).alloc (by simp) _
    have h0 : Blk w' w.heap.size 9 #[.string pf] := by rw [hw]; exact (Blk.new w _ _).alloc _
    have h1 : w'.cell? ⟨w.heap.size + 1, 0, none⟩ = some (.pointer p) := by
      have := Blk.new (w.alloc (.cells #[.string pf] 9)) 72 #[.pointer p]
      rw [World.size_alloc, ← hw] at this
      exact this.cell 0
    have n0 : ¬ o w.heap.size := fun h => by
      rcases ho _ h with h | ⟨u, cs, hb, _⟩
      · have := h0.lt; omega
      · have := hb.lt; omega
    refine allSeq _ _ o p pf t w' (IsTree.off (fun g cs hg h => ?_) (hT.below hB)) hu h1 h0 n0
    rcases ho _ h with h | ⟨u, ds, hb, hne⟩
    · have := hg.lt; omega
    · exact hne (blk_type (hb.below hB hb.lt) hg)
theorem sAll (b : Nat) (pf : ByteArray) (L : List KV) (w : World) (h : IsStore w b L) : Calls Try.prog 41 #[.pointer (some ⟨b, 0, none⟩), .string pf] w (Goes (lall L pf) w) := by
  obtain ⟨p, t, hb, hT, rfl, hu⟩ := h
  exact allGoes _ p pf t w (fun W hs => treeC b p _ W (hb.below hs.below hb.lt)) hT hu
theorem sAllNil (pf : ByteArray) (w : World) : Calls Try.prog 41 #[.pointer none, .string pf] w (Goes [] w) :=
  allGoes none none pf .leaf w (fun W _ => treeNil W) rfl List.Pairwise.nil
end Go.Proofs.Ytpjndgcliegloaa.W
