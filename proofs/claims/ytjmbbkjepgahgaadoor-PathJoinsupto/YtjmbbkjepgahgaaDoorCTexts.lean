/-
  The reference's Texts: are two lists of strings the same?
-/
import Derived.Test.YtjmbbkjepgahgaaDoorCTxs
import Derived.BigQuiet
namespace Go.Proofs.YtjmbbkjepgahgaaDoor.W
open Go.RowKit

def Alike (a b : List ByteArray) (k : Nat) : Prop := ∀ i (h : i < a.length) (h' : i < b.length), i < k → a[i] = b[i]
theorem Alike.succ {a b : List ByteArray} {k : Nat} (h : Alike a b k) (ha : k < a.length) (hb : k < b.length) (e : a[k] = b[k]) : Alike a b (k + 1) := by
  intro i hi hi' hlt
  by_cases e' : i = k
  · subst e'; exact e
  · exact h i hi hi' (by omega)
theorem Alike.all {a b : List ByteArray} (h : Alike a b a.length) (hl : a.length = b.length) : a = b :=
  List.ext_getElem hl fun i h1 h2 => h i h1 h2 h1

theorem toList_inj {x y : ByteArray} (h : x.toList = y.toList) : x = y := by
  rw [ByteArray.toList_eq, ByteArray.toList_eq] at h
  rw [← bs_of x, ← bs_of y, h]
theorem ne_of {a b : List ByteArray} {k : Nat} (ha : k < a.length) (hb : k < b.length) (h : (!a[k].toList == b[k].toList) = true) : decide (a = b) = false := by
  simp only [decide_eq_false_iff_not]
  rintro rfl
  simp at h
theorem eq_of {x y : ByteArray} (h : (!x.toList == y.toList) = false) : x = y := toList_inj (by simpa using h)

set_option maxHeartbeats 1000000 in
theorem texts (va vb : Value) (a b : List ByteArray) (w : World) (B : Nat) (ha : Txs w B va a) (hb : Txs w B vb b) (hB : B ≤ w.heap.size) (hla : a.length ≤ 9223372036854775807) (_hlb : b.length ≤ 9223372036854775807) :
    Calls Tryd.prog 11 #[va, vb] w fun e w' => e = .returned (.bool (decide (a = b))) ∧ Below w.heap.size w w' := by
  obtain ⟨A, ca, rfl, hca⟩ := ha
  obtain ⟨A', cb, rfl, hcb⟩ := hb
  have HA := Lib.hid hca
  have HB := Lib.hid hcb
  clear hca hcb
  by_cases hl : a.length = b.length
  · have HL := Lib.hid hl
    have hb1 : ((a.length : Int) != (b.length : Int)) = false := by simp [hl]
    clear hl
    go_enter Tryd.func11, Tryd.ntmps11
    go_wp2
    go_loopw [5] (fun i wr => ∃ k : Nat, k ≤ a.length ∧ i = .int .i64 k ∧ Alike a b k ∧ Below w.heap.size w wr) (fun i _ => a.length - (intOf i).toNat)
    case atStart => exact ⟨0, Nat.zero_le _, rfl, fun _ _ _ h => absurd h (by omega), Below.refl _ _⟩
    case round =>
      obtain ⟨k, hk, rfl, hal, hbel⟩ := hrel
      by_cases hlt : k < a.length
      · have hltb : k < b.length := by have := HL.out; omega
        obtain ⟨g, off, rfl, hgB, hc⟩ := HA.out k hlt
        obtain ⟨g', off', rfl, hgB', hc'⟩ := HB.out k hltb
        have c1 : wr.cell? ⟨g, off + k, none⟩ = some (.string a[k]) := (hbel.cell (p := ⟨g, off + k, none⟩) (by simp only; omega)).trans hc
        have c2 : wr.cell? ⟨g', off' + k, none⟩ = some (.string b[k]) := (hbel.cell (p := ⟨g', off' + k, none⟩) (by simp only; omega)).trans hc'
        have hi1 : (k : Int) < (a.length : Int) := by omega
        have hi2 : (k : Int) < (b.length : Int) := by omega
        clear hc hc'
        go_wp2
        go_quiet (fail)
        go_wp2
        · have HD := Lib.hid (ne_of hlt hltb (by assumption))
          go_ret
          exact ⟨by rw [HD.out]; rfl, Below.drewN hbel _⟩
        · have hq := Lib.hid (eq_of (x := a[k]) (y := b[k]) (by assumption))
          go_roundw
          case rel => exact ⟨k + 1, by omega, by go_num, hal.succ hlt hltb hq.out, Below.drewN hbel _⟩
          case measure => simp [intOf]; omega
      · obtain rfl : k = a.length := by omega
        have HD := Lib.hid (show decide (a = b) = true from decide_eq_true (hal.all HL.out))
        go_wp2
        go_ret
        exact ⟨by rw [HD.out]; rfl, hbel⟩
  · have hb1 : ((a.length : Int) != (b.length : Int)) = true := by rw [bne_iff_ne]; omega
    have HD := Lib.hid (show decide (a = b) = false by simp; intro e; exact hl (by rw [e]))
    go_enter Tryd.func11, Tryd.ntmps11
    go_wp2
    go_ret
    exact ⟨by rw [HD.out]; rfl, Below.refl _ _⟩
end Go.Proofs.YtjmbbkjepgahgaaDoor.W
