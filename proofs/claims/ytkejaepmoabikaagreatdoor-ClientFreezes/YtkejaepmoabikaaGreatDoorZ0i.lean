import Derived.IntWalk
import Derived.Test.YtkejaepmoabikaaGreatDoorZ0b
import Derived.Test.YtkejaepmoabikaaGreatDoorZ0e
namespace Go.Proofs.YtkejaepmoabikaaGreatDoor.W
open Go.RowKit
open Lib renaming hid → qH
open _root_.Go.Proofs.Tryz renaming prog → qP
set_option maxHeartbeats 2000000
set_option maxRecDepth 100000
abbrev Small14 (l : List KV) : Prop := ∀ p ∈ l, p.1.size ≤ 150 ∧ p.2.size ≤ 300
theorem small_not {l : List KV} (k : Nat) (h : k < l.length) (hn : 150 < l[k].1.size ∨ 300 < l[k].2.size) : ¬ Small14 l := fun hs => by
 have := hs l[k] (List.getElem_mem h)
 omega
theorem small_take {l : List KV} (k : Nat) (h : k < l.length) (hs : Small14 (l.take k)) (h1 : l[k].1.size ≤ 150) (h2 : l[k].2.size ≤ 300) : Small14 (l.take (k + 1)) := by
 intro p hp
 rw [List.take_succ_eq_append_getElem h, List.mem_append, List.mem_singleton] at hp
 rcases hp with hp | rfl
 ·exact hs p hp
 ·exact ⟨h1, h2⟩
theorem few14C (v : Value) (l : List KV) (m : Nat) (w : World) (hP : Prs w v l) (hm : m ≤ 1000) :
  Calls qP 6 #[v, .int .i64 m] w fun e w' => e = .returned (.bool (decide (l.length ≤ m ∧ Small14 l))) ∧ Below w.heap.size w w' := by
 obtain ⟨A, cap, rfl, hcap, hc⟩ := hP
 have HC := qH hc
 obtain ⟨r, hr⟩ : ∃ r, r = decide (l.length ≤ m ∧ Small14 l) := ⟨_, rfl⟩
 rw [← hr]
 have HR := qH hr
 clear hc hr hcap
 by_cases hlen : l.length ≤ m
 ·have hd : decide (m < l.length) = false := decide_eq_false (by omega)
  go_enter Tryz.func6, Tryz.ntmps6
  go_wp2
  go_loopw [5] (fun i wr => ∃ k : Nat, k ≤ l.length ∧ i = .int .i64 k ∧ Hid (Small14 (l.take k)) ∧ Below w.heap.size w wr) (fun i _ => l.length - (intOf i).toNat)
  case atStart => exact ⟨0, Nat.zero_le _, rfl, qH (fun p hp => by simp at hp), Below.refl _ _⟩
  case round =>
   obtain ⟨k, hk, rfl, HT, hbel⟩ := hrel
   by_cases hlt : k < l.length
   ·obtain ⟨b1, off1, rfl, d1, d2⟩ := HC.out k hlt
    have c1 := (since_of hbel).cell d1
    have c2 := (since_of hbel).cell d2
    have hi0 : (0 : Int) ≤ k := by omega
    have hi1 : (k : Int) < (l.length : Int) := by omega
    have HF := qH (small_take k hlt HT.out)
    have HN := qH (small_not k hlt)
    obtain ⟨⟨x1, x2⟩, hx⟩ : ∃ x : KV, x = l[k] := ⟨_, rfl⟩
    rw [← hx] at c1 c2 HF HN
    simp only at c1 c2 HF HN
    clear d1 d2 hx
    by_cases h1 : x1.size ≤ 150
    ·by_cases h2 : x2.size ≤ 300
     ·go_wp2
      go_roundw
      case rel =>
       exact ⟨k + 1, by omega, by go_num, qH (HF.out h1 h2), hbel⟩
      case measure => simp [intOf]; omega
     ·have h3 : r = false := by rw [HR.out]; exact decide_eq_false (fun e => HN.out (.inr (by omega)) e.2)
      subst h3
      go_wp2
      go_ret
      exact ⟨rfl, hbel⟩
    ·have h3 : r = false := by rw [HR.out]; exact decide_eq_false (fun e => HN.out (.inl (by omega)) e.2)
     subst h3
     go_wp2
     go_ret
     exact ⟨rfl, hbel⟩
   ·obtain rfl : k = l.length := by omega
    have h3 : r = true := by rw [HR.out]; exact decide_eq_true ⟨hlen, by have := HT.out; rwa [List.take_length] at this⟩
    subst h3
    go_wp2
    go_ret
    exact ⟨rfl, hbel⟩
 ·have h3 : r = false := by rw [HR.out]; exact decide_eq_false (fun e => hlen e.1)
  subst h3
  go_enter Tryz.func6, Tryz.ntmps6
  go_wp2
  go_ret
  exact ⟨rfl, Below.refl _ _⟩
end Go.Proofs.YtkejaepmoabikaaGreatDoor.W
