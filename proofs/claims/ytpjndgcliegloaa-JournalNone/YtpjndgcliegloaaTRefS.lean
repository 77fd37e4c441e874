/-
  The reference of pairs: Set, Del.
-/
import Derived.Test.YtpjndgcliegloaaTRefG
namespace Go.Proofs.Ytpjndgcliegloaa.W
open Go.RowKit

theorem refS_und : Try.prog.underlying 26 = some (.slice (Try.prog.elem 26)) := by kernel_rfl
theorem refS_elem : Try.prog.elem 26 = 51 := by kernel_rfl
set_option maxHeartbeats 2000000 in
/-- the key is new -/
theorem rSetNew (A : Option Addr) (cap : Nat) (l : List KV) (k v : ByteArray) (i : Nat) (w : World) (hP : Prs w (.slice A l.length cap) l) (hi : i ≤ l.length) (hz : l.length + 1 ≤ 1000000000)
    (H : Calls Try.prog 29 #[.slice A l.length cap, .string k] w fun e w' => e = .returned (.int .i64 i) ∧ w' = w)
    (hn : i = l.length ∨ ∃ h : i < l.length, (l[i]'h).1 ≠ k) :
    Calls Try.prog 24 #[.slice A l.length cap, .string k, .string v] w fun e w' => ∃ v', e = .returned (.tuple #[v', .bool true]) ∧ OwnPrs w.heap.size v' (l.take i ++ [(k, v)] ++ l.drop i) w w' := by
  have H1 := Lib.hid H
  obtain ⟨A1, c1, hs1, P1⟩ := prs_from hP i hi
  obtain ⟨hs2, P2⟩ := prs_upto _ refS_und refS_elem hP i hi
  have HP1 := Lib.hid P1
  have HP2 := Lib.hid P2
  have HO := Lib.hid (OwnPrs_nil w)
  have hl1 : (l.take i).length = i := by rw [List.length_take]; omega
  have hl2 : (l.drop i).length = l.length - i := List.length_drop
  obtain ⟨A0, cap0, e0, hcap, hc⟩ := hP
  cases e0
  have HL := Lib.hid (And.intro hi (And.intro hz (And.intro hl1 hl2)))
  clear H P1 P2 hz hl1 hl2
  rcases hn with hn | ⟨hlt, hne⟩
  · have he : ((i : Int) == (l.length : Int)) = true := by simp; omega
    clear hn hc
    generalize l.drop i = M at *
    generalize l.take i = L at *
    go_enter Try.func24, Try.ntmps24
    go_wp2_with fail
    refine H1.out.mono ?_
    rintro e w' ⟨rfl, rfl⟩
    go_wp2_with (first
      | (at_builtin; refine wpList_append_ownPrs _ rfl _ _ 26 Try.underlying26 rfl w'.heap.size v2 _ (L ++ [(k, v)]) M rfl rfl w' o2.out (HP1.out.below (OwnPrs.below o2.out)) (by have := HL.out; simp; omega) ?_; intro v3 w3 o3)
      | (at_builtin; refine wpList_append_ownPrs _ rfl _ _ 26 Try.underlying26 rfl w'.heap.size v1 _ L [(k, v)] rfl rfl w' (o1.out.alloc _) (prs_built _ (k, v)) (by have := HL.out; simp; omega) ?_; intro v2 w2 o2; replace o2 := Lib.hid o2; clear o1)
      | (at_builtin; refine wpList_append_ownPrs _ rfl _ _ 26 Try.underlying26 rfl w'.heap.size (.slice none 0 0) _ [] L rfl rfl w' HO.out HP2.out (by have := HL.out; simp; omega) ?_; intro v1 w1 o1; replace o1 := Lib.hid o1))
    go_returns
    exact ⟨_, rfl, o3⟩
  · have he : ((i : Int) == (l.length : Int)) = false := by simp; omega
    obtain ⟨b, off, rfl, d1, d2⟩ := hc i hlt
    have hne := str_ne hne
    have hx0 : (0 : Int) ≤ i := by omega
    have hx1 : (i : Int) < l.length := by omega
    generalize (l[i]'hlt).1 = x at *
    clear hc d2
    generalize l.drop i = M at *
    generalize l.take i = L at *
    go_enter Try.func24, Try.ntmps24
    go_wp2_with fail
    refine H1.out.mono ?_
    rintro e w' ⟨rfl, rfl⟩
    go_wp2_with (first
      | (at_builtin; refine wpList_append_ownPrs _ rfl _ _ 26 Try.underlying26 rfl w'.heap.size v2 _ (L ++ [(k, v)]) M rfl rfl w' o2.out (HP1.out.below (OwnPrs.below o2.out)) (by have := HL.out; simp; omega) ?_; intro v3 w3 o3)
      | (at_builtin; refine wpList_append_ownPrs _ rfl _ _ 26 Try.underlying26 rfl w'.heap.size v1 _ L [(k, v)] rfl rfl w' (o1.out.alloc _) (prs_built _ (k, v)) (by have := HL.out; simp; omega) ?_; intro v2 w2 o2; replace o2 := Lib.hid o2; clear o1)
      | (at_builtin; refine wpList_append_ownPrs _ rfl _ _ 26 Try.underlying26 rfl w'.heap.size (.slice none 0 0) _ [] L rfl rfl w' HO.out HP2.out (by have := HL.out; simp; omega) ?_; intro v1 w1 o1; replace o1 := Lib.hid o1))
    go_returns
    exact ⟨_, rfl, o3⟩
set_option maxHeartbeats 2000000 in
/-- the key is there -/
theorem rSetOld (A : Option Addr) (cap : Nat) (l : List KV) (k v : ByteArray) (i : Nat) (w : World) (hP : Prs w (.slice A l.length cap) l) (hlt : i < l.length) (hz : l.length + 1 ≤ 1000000000)
    (H : Calls Try.prog 29 #[.slice A l.length cap, .string k] w fun e w' => e = .returned (.int .i64 i) ∧ w' = w)
    (hn : (l[i]'hlt).1 = k) :
    Calls Try.prog 24 #[.slice A l.length cap, .string k, .string v] w fun e w' => ∃ v', e = .returned (.tuple #[v', .bool false]) ∧ OwnPrs w.heap.size v' (l.take i ++ [(k, v)] ++ l.drop (i + 1)) w w' := by
  have H1 := Lib.hid H
  obtain ⟨A1, c1, hs1, P1⟩ := prs_from hP (i + 1) hlt
  obtain ⟨A3, c3, hs3, _⟩ := prs_from hP i (by omega)
  obtain ⟨hs2, P2⟩ := prs_upto _ refS_und refS_elem hP i (by omega)
  have HP1 := Lib.hid P1
  have HP2 := Lib.hid P2
  have HO := Lib.hid (OwnPrs_nil w)
  have hl1 : (l.take i).length = i := by rw [List.length_take]; omega
  have hl2 : (l.drop (i + 1)).length = l.length - (i + 1) := List.length_drop
  obtain ⟨A0, cap0, e0, hcap, hc⟩ := hP
  cases e0
  have HL := Lib.hid (And.intro hlt (And.intro hz (And.intro hl1 hl2)))
  have hw : IntKind.i64.wrap ((i : Int) + 1) = ((i + 1 : Nat) : Int) := by rw [IntWalk.i64_in _ (by omega)]; omega
  have he : ((i : Int) == (l.length : Int)) = false := by simp; omega
  obtain ⟨b, off, rfl, d1, d2⟩ := hc i hlt
  rw [hn] at d1
  have hx0 : (0 : Int) ≤ i := by omega
  have hx1 : (i : Int) < l.length := by omega
  clear hc d2 H P1 P2 hz hl1 hl2 hn
  generalize l.drop (i + 1) = M at *
  generalize l.take i = L at *
  generalize l.drop i = M' at *
  obtain ⟨j, hj⟩ : ∃ j, j = i + 1 := ⟨_, rfl⟩
  rw [← hj] at hw hs1
  clear hj
  go_enter Try.func24, Try.ntmps24
  go_wp2_with fail
  refine H1.out.mono ?_
  rintro e w' ⟨rfl, rfl⟩
  go_wp2_with (first
    | (at_builtin; refine wpList_append_ownPrs _ rfl _ _ 26 Try.underlying26 rfl w'.heap.size v2 _ (L ++ [(k, v)]) M rfl rfl w' o2.out (HP1.out.below (OwnPrs.below o2.out)) (by have := HL.out; simp; omega) ?_; intro v3 w3 o3)
    | (at_builtin; refine wpList_append_ownPrs _ rfl _ _ 26 Try.underlying26 rfl w'.heap.size v1 _ L [(k, v)] rfl rfl w' (o1.out.alloc _) (prs_built _ (k, v)) (by have := HL.out; simp; omega) ?_; intro v2 w2 o2; replace o2 := Lib.hid o2; clear o1)
    | (at_builtin; refine wpList_append_ownPrs _ rfl _ _ 26 Try.underlying26 rfl w'.heap.size (.slice none 0 0) _ [] L rfl rfl w' HO.out HP2.out (by have := HL.out; simp; omega) ?_; intro v1 w1 o1; replace o1 := Lib.hid o1))
  go_returns
  exact ⟨_, rfl, o3⟩
theorem rSet (s : Value) (l : List KV) (k v : ByteArray) (w : World) (hP : Prs w s l) (hu : Up l) (hz : l.length + 1 ≤ 1000000000) :
    Calls Try.prog 24 #[s, .string k, .string v] w fun e w' => ∃ v', e = .returned (.tuple #[v', .bool (!(lget l k).isSome)]) ∧ OwnPrs w.heap.size v' (lset l k v) w w' := by
  have H := rAt s l k w hP (by omega)
  have hP' := hP
  obtain ⟨A, cap, rfl, _, _⟩ := hP'
  rcases latN_parts hu k with ⟨h1, h2, h3⟩ | ⟨h1, h2, h3, h4⟩ | ⟨h1, h2, h3, h4, _⟩
  · have := rSetNew A cap l k v _ w hP (latN_le l k) hz H (.inl h1)
    rw [h1, List.take_length, List.drop_length, List.append_nil, ← h3 v] at this
    rw [h2]
    exact this
  · rw [h3, h4 v]
    exact rSetNew A cap l k v _ w hP (latN_le l k) hz H (.inr ⟨h1, h2⟩)
  · rw [h3, h4 v]
    exact rSetOld A cap l k v _ w hP h1 hz H h2

set_option maxHeartbeats 2000000 in
theorem rDelNo (A : Option Addr) (cap : Nat) (l : List KV) (k : ByteArray) (i : Nat) (w : World) (hP : Prs w (.slice A l.length cap) l)
    (H : Calls Try.prog 29 #[.slice A l.length cap, .string k] w fun e w' => e = .returned (.int .i64 i) ∧ w' = w)
    (hn : i = l.length ∨ ∃ h : i < l.length, (l[i]'h).1 ≠ k) :
    Calls Try.prog 25 #[.slice A l.length cap, .string k] w fun e w' => e = .returned (.tuple #[.slice A l.length cap, .bool false]) ∧ w' = w := by
  have H1 := Lib.hid H
  obtain ⟨A0, cap0, e0, hcap, hc⟩ := hP
  cases e0
  clear H
  rcases hn with hn | ⟨hlt, hne⟩
  · have he : ((i : Int) == (l.length : Int)) = true := by simp; omega
    clear hc hn
    go_enter Try.func25, Try.ntmps25
    go_wp2_with fail
    refine H1.out.mono ?_
    rintro e w' ⟨rfl, rfl⟩
    go_wp2
    go_returns
    exact ⟨rfl, rfl⟩
  · have he : ((i : Int) == (l.length : Int)) = false := by simp; omega
    obtain ⟨b, off, rfl, d1, d2⟩ := hc i hlt
    have hne := str_ne hne
    have hx0 : (0 : Int) ≤ i := by omega
    have hx1 : (i : Int) < l.length := by omega
    generalize (l[i]'hlt).1 = x at *
    clear hc d2
    go_enter Try.func25, Try.ntmps25
    go_wp2_with fail
    refine H1.out.mono ?_
    rintro e w' ⟨rfl, rfl⟩
    go_wp2
    go_returns
    exact ⟨rfl, rfl⟩
set_option maxHeartbeats 2000000 in
theorem rDelYes (A : Option Addr) (cap : Nat) (l : List KV) (k : ByteArray) (i : Nat) (w : World) (hP : Prs w (.slice A l.length cap) l) (hlt : i < l.length) (hz : l.length ≤ 1000000000)
    (H : Calls Try.prog 29 #[.slice A l.length cap, .string k] w fun e w' => e = .returned (.int .i64 i) ∧ w' = w)
    (hn : (l[i]'hlt).1 = k) :
    Calls Try.prog 25 #[.slice A l.length cap, .string k] w fun e w' => ∃ v', e = .returned (.tuple #[v', .bool true]) ∧ OwnPrs w.heap.size v' (l.take i ++ l.drop (i + 1)) w w' := by
  have H1 := Lib.hid H
  obtain ⟨A1, c1, hs1, P1⟩ := prs_from hP (i + 1) hlt
  obtain ⟨hs2, P2⟩ := prs_upto _ refS_und refS_elem hP i (by omega)
  have HP1 := Lib.hid P1
  have HP2 := Lib.hid P2
  have HO := Lib.hid (OwnPrs_nil w)
  have hl1 : (l.take i).length = i := by rw [List.length_take]; omega
  have hl2 : (l.drop (i + 1)).length = l.length - (i + 1) := List.length_drop
  obtain ⟨A0, cap0, e0, hcap, hc⟩ := hP
  cases e0
  have HL := Lib.hid (And.intro hlt (And.intro hz (And.intro hl1 hl2)))
  have hw : IntKind.i64.wrap ((i : Int) + 1) = ((i + 1 : Nat) : Int) := by rw [IntWalk.i64_in _ (by omega)]; omega
  have he : ((i : Int) == (l.length : Int)) = false := by simp; omega
  obtain ⟨b, off, rfl, d1, d2⟩ := hc i hlt
  rw [hn] at d1
  have hx0 : (0 : Int) ≤ i := by omega
  have hx1 : (i : Int) < l.length := by omega
  clear hc d2 H P1 P2 hz hl1 hl2 hn
  generalize l.drop (i + 1) = M at *
  generalize l.take i = L at *
  obtain ⟨j, hj⟩ : ∃ j, j = i + 1 := ⟨_, rfl⟩
  rw [← hj] at hw hs1
  clear hj
  go_enter Try.func25, Try.ntmps25
  go_wp2_with fail
  refine H1.out.mono ?_
  rintro e w' ⟨rfl, rfl⟩
  go_wp2_with (first
    | (at_builtin; refine wpList_append_ownPrs _ rfl _ _ 26 Try.underlying26 rfl w'.heap.size v1 _ L M rfl rfl w' o1.out (HP1.out.below (OwnPrs.below o1.out)) (by have := HL.out; simp; omega) ?_; intro v2 w2 o2; clear o1)
    | (at_builtin; refine wpList_append_ownPrs _ rfl _ _ 26 Try.underlying26 rfl w'.heap.size (.slice none 0 0) _ [] L rfl rfl w' HO.out HP2.out (by have := HL.out; simp; omega) ?_; intro v1 w1 o1; replace o1 := Lib.hid o1; clear HO))
  go_returns
  exact ⟨_, rfl, o2⟩
theorem rDel (s : Value) (l : List KV) (k : ByteArray) (w : World) (hP : Prs w s l) (hu : Up l) (hz : l.length ≤ 1000000000) :
    Calls Try.prog 25 #[s, .string k] w fun e w' => ∃ v', e = .returned (.tuple #[v', .bool (lget l k).isSome]) ∧ Prs w' v' (ldel l k) ∧ Below w.heap.size w w' := by
  have H := rAt s l k w hP hz
  have hP' := hP
  obtain ⟨A, cap, rfl, _, _⟩ := hP'
  rcases latN_parts hu k with ⟨h1, h2, h3⟩ | ⟨h1, h2, h3, h4⟩ | ⟨h1, h2, h3, h4, h5⟩
  · refine (rDelNo A cap l k _ w hP H (.inl h1)).mono ?_
    rintro e w' ⟨rfl, rfl⟩
    rw [ldel_absent h2, h2]
    exact ⟨_, rfl, hP, Below.refl _ _⟩
  · refine (rDelNo A cap l k _ w hP H (.inr ⟨h1, h2⟩)).mono ?_
    rintro e w' ⟨rfl, rfl⟩
    rw [ldel_absent h3, h3]
    exact ⟨_, rfl, hP, Below.refl _ _⟩
  · refine (rDelYes A cap l k _ w hP h1 hz H h2).mono ?_
    rintro e w' ⟨v', rfl, o⟩
    rw [h5, h3]
    exact ⟨_, rfl, o.prs, o.below⟩
end Go.Proofs.Ytpjndgcliegloaa.W
