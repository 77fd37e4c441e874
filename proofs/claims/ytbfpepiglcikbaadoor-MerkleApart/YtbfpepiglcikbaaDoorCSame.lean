/-
  The reference of pairs: Same.
-/
import Derived.Test.YtbfpepiglcikbaaDoorTPrs
import Derived.Test.YtbfpepiglcikbaaDoorCEq
import Derived.Lib.Hide
import Derived.WalkKit
import Derived.IntWalk
import Derived.WalkLawsBesides
namespace Go.Proofs.YtbfpepiglcikbaaDoor.W
open Go.RowKit

theorem take_snoc_kv (l : List KV) (i : Nat) (h : i < l.length) : l.take (i + 1) = l.take i ++ [l[i]] := by rw [List.take_succ_eq_append_getElem h]
set_option maxHeartbeats 2000000 in
theorem rSame (a b : Value) (l m : List KV) (w : World) (hP : Prs w a l) (hQ : Prs w b m) (hz : l.length ≤ 1000000000) :
    Calls Tryd.prog 19 #[a, b] w fun e w' => e = .returned (.bool (decide (l = m))) ∧ Below w.heap.size w w' := by
  obtain ⟨A, cap, rfl, hcap, hc⟩ := hP
  obtain ⟨A', cap', rfl, hcap', hc'⟩ := hQ
  have HC := Lib.hid (And.intro hc hc')
  obtain ⟨r, hr⟩ : ∃ r, r = decide (l = m) := ⟨_, rfl⟩
  rw [← hr]
  have HR := Lib.hid hr
  clear hc hc' hr
  by_cases hlen : l.length = m.length
  · have HL := Lib.hid hlen
    rw [← hlen]
    have he : ((l.length : Int) == (l.length : Int)) = true := by simp
    clear hlen
    go_enter Tryd.func19, Tryd.ntmps19
    go_wp2
    go_loopw [5] (fun i wr => ∃ k : Nat, k ≤ l.length ∧ i = .int .i64 k ∧ Hid (l.take k = m.take k) ∧ Below w.heap.size w wr) (fun i _ => l.length - (intOf i).toNat)
    case atStart => exact ⟨0, Nat.zero_le _, rfl, Lib.hid rfl, Below.refl _ _⟩
    case round =>
      obtain ⟨k, hk, rfl, HT, hbel⟩ := hrel
      by_cases hlt : k < l.length
      · have hlt' : k < m.length := by have := HL.out; omega
        obtain ⟨b1, off1, rfl, d1, d2⟩ := HC.out.1 k hlt
        obtain ⟨b2, off2, rfl, d3, d4⟩ := HC.out.2 k hlt'
        have c1 := (since_of hbel).cell d1
        have c2 := (since_of hbel).cell d2
        have c3 := (since_of hbel).cell d3
        have c4 := (since_of hbel).cell d4
        have hi0 : (0 : Int) ≤ k := by omega
        have hi1 : (k : Int) < (l.length : Int) := by omega
        have hw : IntKind.i64.wrap ((k : Int) + 1) = (k : Int) + 1 := IntWalk.i64_in _ (by omega)
        have HF := Lib.hid (And.intro (take_snoc_kv l k hlt) (take_snoc_kv m k hlt'))
        have HG := Lib.hid (show l = m → l[k] = m[k] from fun e => by subst e; rfl)
        obtain ⟨⟨x1, x2⟩, hx⟩ : ∃ x : KV, x = l[k] := ⟨_, rfl⟩
        obtain ⟨⟨y1, y2⟩, hy⟩ : ∃ y : KV, y = m[k] := ⟨_, rfl⟩
        rw [← hx] at c1 c2 HF HG
        rw [← hy] at c3 c4 HF HG
        simp only at c1 c2 c3 c4 HF HG
        clear d1 d2 d3 d4 hx hy
        by_cases h1 : x1 = y1
        · by_cases h2 : x2 = y2
          · subst h1 h2
            go_wp2
            go_region
            go_wp2
            go_roundw
            case rel => exact ⟨k + 1, by omega, by simp, Lib.hid (by rw [HF.out.1, HF.out.2, HT.out]), hbel.drew⟩
            case measure => simp [intOf]; omega
          · have HN := Lib.hid (show r = false by rw [HR.out]; exact decide_eq_false (fun e => h2 (congrArg Prod.snd (HG.out e))))
            subst h1
            have h2 := str_ne h2
            go_wp2
            go_region
            go_wp2
            go_ret
            exact ⟨by rw [HN.out]; rfl, hbel.drew⟩
        · have HN := Lib.hid (show r = false by rw [HR.out]; exact decide_eq_false (fun e => h1 (congrArg Prod.fst (HG.out e))))
          have h1 := str_ne h1
          go_wp2
          go_region
          go_wp2
          go_ret
          exact ⟨by rw [HN.out]; rfl, hbel.drew⟩
      · obtain rfl : k = l.length := by omega
        have hi1 : ¬ (l.length : Int) < (l.length : Int) := by omega
        go_wp2
        go_ret
        have h1 : l = m := by have := HT.out; rw [List.take_length, HL.out, List.take_length] at this; exact this
        have h2 : r = true := by rw [HR.out]; exact decide_eq_true h1
        exact ⟨by rw [h2]; rfl, hbel⟩
  · have he : ((l.length : Int) == (m.length : Int)) = false := by simp; omega
    have HN := Lib.hid (show r = false by rw [HR.out]; exact decide_eq_false (fun e => hlen (by rw [e])))
    clear hlen HR
    go_enter Tryd.func19, Tryd.ntmps19
    go_wp2
    go_ret
    exact ⟨by rw [HN.out]; rfl, Below.refl _ _⟩
end Go.Proofs.YtbfpepiglcikbaaDoor.W
