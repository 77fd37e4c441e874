/-
  footbridgelaw11.few: are pairs not too many, and too long?
-/
import Derived.Test.YtbfpepiglcikbaaDoorKTree
import Derived.IntWalk
namespace Go.Proofs.YtbfpepiglcikbaaDoor.W
open Go.RowKit

theorem short_not {l : List KV} (k : Nat) (h : k < l.length) (hn : 200 < l[k].1.size ∨ 200 < l[k].2.size) : ¬ Short l := fun hs => by
  have := hs l[k] (List.getElem_mem h)
  omega
theorem short_take {l : List KV} (k : Nat) (h : k < l.length) (hs : Short (l.take k)) (h1 : l[k].1.size ≤ 200) (h2 : l[k].2.size ≤ 200) : Short (l.take (k + 1)) := by
  intro p hp
  rw [List.take_succ_eq_append_getElem h, List.mem_append, List.mem_singleton] at hp
  rcases hp with hp | rfl
  · exact hs p hp
  · exact ⟨h1, h2⟩
set_option maxHeartbeats 2000000 in
theorem fewC (v : Value) (l : List KV) (m : Nat) (w : World) (hP : Prs w v l) (hm : m ≤ 1000) :
    Calls Tryd.prog 6 #[v, .int .i64 m] w fun e w' => e = .returned (.bool (decide (l.length ≤ m ∧ Short l))) ∧ Below w.heap.size w w' := by
  obtain ⟨A, cap, rfl, hcap, hc⟩ := hP
  have HC := Lib.hid hc
  obtain ⟨r, hr⟩ : ∃ r, r = decide (l.length ≤ m ∧ Short l) := ⟨_, rfl⟩
  rw [← hr]
  have HR := Lib.hid hr
  clear hc hr hcap
  by_cases hlen : l.length ≤ m
  · have hd : decide (m < l.length) = false := decide_eq_false (by omega)
    go_enter Tryd.func6, Tryd.ntmps6
    go_wp2
    go_loopw [5] (fun i wr => ∃ k : Nat, k ≤ l.length ∧ i = .int .i64 k ∧ Hid (Short (l.take k)) ∧ Below w.heap.size w wr) (fun i _ => l.length - (intOf i).toNat)
    case atStart => exact ⟨0, Nat.zero_le _, rfl, Lib.hid (fun p hp => by simp at hp), Below.refl _ _⟩
    case round =>
      obtain ⟨k, hk, rfl, HT, hbel⟩ := hrel
      by_cases hlt : k < l.length
      · obtain ⟨b1, off1, rfl, d1, d2⟩ := HC.out k hlt
        have c1 := (since_of hbel).cell d1
        have c2 := (since_of hbel).cell d2
        have hi0 : (0 : Int) ≤ k := by omega
        have hi1 : (k : Int) < (l.length : Int) := by omega
        have HF := Lib.hid (short_take k hlt HT.out)
        have HN := Lib.hid (short_not k hlt)
        obtain ⟨⟨x1, x2⟩, hx⟩ : ∃ x : KV, x = l[k] := ⟨_, rfl⟩
        rw [← hx] at c1 c2 HF HN
        simp only at c1 c2 HF HN
        clear d1 d2 hx
        by_cases h1 : x1.size ≤ 200
        · by_cases h2 : x2.size ≤ 200
          · go_wp2
            go_roundw
            case rel =>
              exact ⟨k + 1, by omega, by go_num, Lib.hid (HF.out h1 h2), hbel⟩
            case measure => simp [intOf]; omega
          · have h3 : r = false := by rw [HR.out]; exact decide_eq_false (fun e => HN.out (.inr (by omega)) e.2)
            subst h3
            go_wp2
            go_ret
            exact ⟨rfl, hbel⟩
        · have h3 : r = false := by rw [HR.out]; exact decide_eq_false (fun e => HN.out (.inl (by omega)) e.2)
          subst h3
          go_wp2
          go_ret
          exact ⟨rfl, hbel⟩
      · obtain rfl : k = l.length := by omega
        have h3 : r = true := by rw [HR.out]; exact decide_eq_true ⟨hlen, by have := HT.out; rwa [List.take_length] at this⟩
        subst h3
        go_wp2
        go_ret
        exact ⟨rfl, hbel⟩
  · have h3 : r = false := by rw [HR.out]; exact decide_eq_false (fun e => hlen e.1)
    subst h3
    go_enter Tryd.func6, Tryd.ntmps6
    go_wp2
    go_ret
    exact ⟨rfl, Below.refl _ _⟩
end Go.Proofs.YtbfpepiglcikbaaDoor.W
