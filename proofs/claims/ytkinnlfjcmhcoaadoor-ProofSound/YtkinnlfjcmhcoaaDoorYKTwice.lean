/-
  The reference's Twice: it finds two unlike texts of one hash, if there are two.
-/
import Derived.Test.YtkinnlfjcmhcoaaDoorYKTree
import Derived.Test.YtkinnlfjcmhcoaaDoorZ0c
namespace Go.Proofs.YtkinnlfjcmhcoaaDoor.W
open Go.RowKit

/-- what two places of the list hold is one text, if it has one hash -/
def okAt (L : List (List UInt8)) (p q : Nat) : Prop := ∀ (hp : p < L.length) (hq : q < L.length), shaOf L[p] = shaOf L[q] → L[p] = L[q]
theorem not_apart {L : List (List UInt8)} (h : ∀ p q, q < p → p < L.length → okAt L p q) : Apart L := by
  intro x hx y hy e
  obtain ⟨p, hp, rfl⟩ := List.getElem_of_mem hx
  obtain ⟨q, hq, rfl⟩ := List.getElem_of_mem hy
  by_cases hpq : p = q
  · subst hpq; rfl
  · by_cases hlt : q < p
    · exact h p q hlt hp hp hq e
    · exact (h q p (by omega) hq hq hp e.symm).symm
def hashes (L : List (List UInt8)) (k : Nat) : List (List UInt8) := (L.take k).map shaOf
theorem hashes_len (L : List (List UInt8)) (k : Nat) (h : k ≤ L.length) : (hashes L k).length = k := by simp [hashes]; omega
theorem hashes_succ (L : List (List UInt8)) (k : Nat) (h : k < L.length) : bss (hashes L (k + 1)) = bss (hashes L k) ++ [bs (shaOf L[k])] := by
  unfold hashes
  rw [List.take_succ_eq_append_getElem h, List.map_append, bss_append]
  rfl
set_option maxHeartbeats 2000000 in
set_option maxRecDepth 100000 in
theorem twiceC (v : Value) (L : List (List UInt8)) (w : World) (hT : Txs w w.heap.size v (bss L)) (hz : L.length ≤ 1000000) (hs : ∀ x ∈ L, x.length ≤ 1000000) (hA : ¬ Apart L) :
    Calls Tryd.prog 26 #[v] w fun e w' => e = .returned (.bool true) ∧ Below w.heap.size w w' := by
  obtain ⟨A, cap, rfl, hc⟩ := txAt_of hT
  have HC := Lib.hid hc
  have HZ := Lib.hid hz
  have HS := Lib.hid hs
  have HA := Lib.hid hA
  clear hc hT hs hA hz
  go_enter Tryd.func26, Tryd.ntmps26
  go_wp2
  go_loopw [3, 4] (fun s i wr => ∃ k : Nat, k ≤ L.length ∧ i = .int .i64 k ∧ OwnStrs w.heap.size s (bss (hashes L k)) w wr) (fun _ i _ => L.length - (intOf i).toNat)
  case atStart => exact ⟨0, Nat.zero_le _, rfl, OwnStrs_nil w⟩
  case round =>
    obtain ⟨k, hk, rfl, hown⟩ := hrel
    have hz := HZ.out
    by_cases hlt : k < L.length
    · obtain ⟨b, off, rfl, d⟩ := HC.out k hlt
      have c := (since_of hown.below).cell d
      have HE := Lib.hid (hashes_succ L k hlt)
      have HL := Lib.hid (HS.out L[k] (List.getElem_mem hlt))
      generalize L[k] = x at *
      have O := Lib.hid hown
      have i1 : (k : Int) < (L.length : Int) := by omega
      have HK := Lib.hid (hashes_len L k hk)
      clear hown d
      go_wp2_with fail
      refine (rShaC x _ (Lib.hid rfl) wr HL.out).mono ?_
      rintro e w2 ⟨rfl, b2⟩
      generalize shaOf x = y at *
      have O2 := Lib.hid (O.out.after b2)
      clear O b2
      go_wp2_with (at_builtin; (refine wpList_append_str rfl _ _ rfl w.heap.size u3 _ rfl w w2 (bs y) O2.out rfl (by rw [bss_len, HK.out]; omega) ?_; intro v7 w7 o7; rw [← HE.out] at o7; clear O2 HE))
      go_roundw
      case rel => exact ⟨k + 1, by omega, by go_num, o7⟩
      case measure => simp [intOf]; omega
    · obtain rfl : k = L.length := by omega
      obtain ⟨A3, c3, rfl, h3⟩ := txAt_of hown.txs
      have H3 := Lib.hid h3
      have HB := Lib.hid hown.below
      have HC3 := Lib.hid (HC.out.below hown.below)
      have hl3 := hashes_len L L.length (Nat.le_refl _)
      rw [hl3] at *
      have HL3 := Lib.hid (hashes_len L L.length (Nat.le_refl _))
      have HX : Hid (∀ i (h : i < L.length) (h' : i < (hashes L L.length).length), (hashes L L.length)[i] = shaOf L[i]) := Lib.hid (fun i h h' => by simp [hashes])
      clear h3 hown HC HS hl3
      rename World => w1
      go_wp2
      go_loopw [5, 6] (fun i _ wt => ∃ a : Nat, a ≤ L.length ∧ i = .int .i64 a ∧ Hid (∀ p q, q < p → p < a → okAt L p q) ∧ Below w1.heap.size w1 wt) (fun i _ _ => L.length - (intOf i).toNat)
      case atStart => exact ⟨0, Nat.zero_le _, rfl, Lib.hid (fun p q _ h => absurd h (by omega)), Below.refl _ _⟩
      case round =>
        obtain ⟨a, ha, rfl, HG, hbt⟩ := hrel
        by_cases hla : a < L.length
        · have ia : (a : Int) < (L.length : Int) := by omega
          rename World => wt
          go_wp2
          go_loopw [6] (fun k wu => ∃ b : Nat, b ≤ a ∧ k = .int .i64 b ∧ Hid (∀ q, q < b → okAt L a q) ∧ Below w1.heap.size w1 wu) (fun k _ => a - (intOf k).toNat)
          case atStart => exact ⟨0, Nat.zero_le _, rfl, Lib.hid (fun q h => absurd h (by omega)), hbt⟩
          case round =>
            obtain ⟨b, hb, rfl, HGB, hbu⟩ := hrel
            by_cases hlb : b < a
            · have hbl : b < L.length := by omega
              obtain ⟨g1, o1, rfl, d1⟩ := HC3.out a hla
              obtain ⟨g1', o1', e1, d2⟩ := HC3.out b hbl
              cases e1
              obtain ⟨g2, o2, rfl, d3⟩ := H3.out a (by rw [HL3.out]; exact hla)
              obtain ⟨g2', o2', e2, d4⟩ := H3.out b (by rw [HL3.out]; exact hbl)
              cases e2
              rw [HX.out a hla] at d3
              rw [HX.out b hbl] at d4
              have c1 := (since_of hbu).cell d1
              have c2 := (since_of hbu).cell d2
              have c3 := (since_of hbu).cell d3
              have c4 := (since_of hbu).cell d4
              have HF := Lib.hid (show okAt L a b ↔ (shaOf L[a] = shaOf L[b] → L[a] = L[b]) from ⟨fun h => h hla hbl, fun h _ _ => h⟩)
              clear d1 d2 d3 d4
              generalize shaOf L[a] = sa at *
              generalize shaOf L[b] = sb at *
              generalize L[a] = la at *
              generalize L[b] = lb at *
              have i0 : (0 : Int) ≤ (b : Int) := by omega
              have i1 : (b : Int) < (a : Int) := by omega
              have i2 : (b : Int) < (L.length : Int) := by omega
              have i3 : (0 : Int) ≤ (a : Int) := by omega
              by_cases h1 : sa = sb
              · by_cases h2 : la = lb
                · subst h1 h2
                  have HO := Lib.hid (HF.out.2 fun _ => rfl)
                  clear HF
                  go_wp2
                  go_region
                  go_wp2
                  go_roundw
                  case rel => exact ⟨b + 1, by omega, by go_num, Lib.hid (fun q hq => by by_cases e : q = b; (· subst e; exact HO.out); (· exact HGB.out q (by omega))), hbu.drew⟩
                  case measure => simp [intOf]; omega
                · subst h1
                  have h2 := str_ne (bs_ne h2)
                  clear HF
                  go_wp2
                  go_region
                  go_wp2
                  go_ret
                  exact ⟨rfl, step_below HB.out hbu.drew⟩
              · have HO := Lib.hid (HF.out.2 fun e => absurd e h1)
                have h1 := str_ne (bs_ne h1)
                clear HF
                go_wp2
                go_region
                go_wp2
                go_roundw
                case rel => exact ⟨b + 1, by omega, by go_num, Lib.hid (fun q hq => by by_cases e : q = b; (· subst e; exact HO.out); (· exact HGB.out q (by omega))), hbu.drew⟩
                case measure => simp [intOf]; omega
            · obtain rfl : b = a := by omega
              go_wp2
              go_roundw
              case rel => exact ⟨b + 1, by omega, by go_num, Lib.hid (fun p q h1 h2 => by by_cases e : p = b; (· subst e; exact HGB.out q h1); (· exact HG.out p q h1 (by omega))), hbu⟩
              case measure => simp [intOf]; omega
        · obtain rfl : a = L.length := by omega
          exact absurd (not_apart HG.out) HA.out
end Go.Proofs.YtkinnlfjcmhcoaaDoor.W
