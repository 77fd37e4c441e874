/-
  hexa.half, for every byte, in every world that holds the table of digits.
-/
import Derived.Test.YtlalfpgpebapeaaDoorCBuf
import Derived.Test.YtlalfpgpebapeaaDoorHMath
import Derived.Lib.LaidTab
namespace Go.Proofs.YtlalfpgpebapeaaDoor.W
open Go.RowKit

theorem gDigits : Tryd.prog.globalNamed "footbridge/hexa.digits" = some 0 := by kernel_rfl

/-- this world holds hexa's table -/
def Digs (w : World) : Prop := ∀ i : Nat, i < 16 → w.cell? ⟨0, i, none⟩ = some (.int .u8 (dg i))
theorem Digs.below {w w' : World} {B : Nat} (h : Digs w) (hb : Below B w w') (hB : 0 < B) : Digs w' := fun i hi => (hb.cell (p := ⟨0, i, none⟩) hB).trans (h i hi)
theorem Digs.pos {w : World} (h : Digs w) : 0 < w.heap.size := World.block_lt_of_cell? w _ (h 0 (by omega))
theorem Digs.next {w w' : World} (h : Digs w) (hb : Below w.heap.size w w') : Digs w' := h.below hb h.pos

theorem half_yes (c : UInt8) (k : Nat) (hk : k < 16) (h : c.toNat = dg k) : hv c.toNat = k := by rw [h, hv_dg k hk]
theorem half_no (c : UInt8) (h : ∀ j, j < 16 → c.toNat ≠ dg j) : ¬ hv c.toNat < 16 := fun hl => h _ hl (dg_hv _ hl).symm
def halfV (c : UInt8) : Value := .tuple #[.int .u8 (if hv c.toNat < 16 then hv c.toNat else 0 : Nat), .bool (decide (hv c.toNat < 16))]
theorem halfV_yes (c : UInt8) (k : Nat) (hk : k < 16) (h : c.toNat = dg k) : halfV c = .tuple #[.int .u8 k, .bool true] := by
  have e := half_yes c k hk h
  simp [halfV, e, hk]
theorem halfV_no (c : UInt8) (h : ∀ j, j < 16 → c.toNat ≠ dg j) : halfV c = .tuple #[.int .u8 0, .bool false] := by
  have e := half_no c h
  simp [halfV, e]
def NotYet (c : UInt8) (k : Nat) : Prop := ∀ j, j < k → c.toNat ≠ dg j
theorem NotYet.succ {c : UInt8} {k : Nat} (h : NotYet c k) (hk : c.toNat ≠ dg k) : NotYet c (k + 1) := by
  intro j hj
  by_cases e : j = k
  · subst e; exact hk
  · exact h j (by omega)

theorem run_index_cell {P : Program} (w : World) (t e : TypeId) (n : Nat) (cs : Array Value) (kd : IntKind) (i : Nat) (j : IntKind) (z : Int) (h : P.underlying t = some (.array n e)) (he : P.underlying e = some (.int j)) {ti : TypeInfo} (hti : P.info? e = some ti) (hsz : ti.size = 1) (hi : i < n) (hv : cs[i]? = some (.int j z)) :
    (Instr.index t (.agg cs) (.int kd (i : Int))).run P w = .ok (.int j z) w := by
  have hn : 0 ≤ (i : Int) ∧ (i : Int) < (n : Int) := by omega
  simp [Instr.index, run_underlying h, asIntOf, hn, hi, sizeOf, typeInfo, hti, hsz, isAgg, run_underlying he, hv, go_sem]
theorem run_tab (w : World) (k : Nat) (hk : k < 16) :
    (Instr.index 35 (.agg #[.int .u8 48, .int .u8 49, .int .u8 50, .int .u8 51, .int .u8 52, .int .u8 53, .int .u8 54, .int .u8 55, .int .u8 56, .int .u8 57, .int .u8 97, .int .u8 98, .int .u8 99, .int .u8 100, .int .u8 101, .int .u8 102]) (.int .i64 (k : Int))).run Tryd.prog w = .ok (.int .u8 (dg k)) w := by
  obtain ⟨i0, hi, hz0, hz1, hz2⟩ := info_parts infoU8
  refine run_index_cell w 35 5 16 _ .i64 k .u8 _ Tryd.underlying35 Tryd.underlying5 hi hz1 hk ?_
  have hk16 : k = 0 ∨ k = 1 ∨ k = 2 ∨ k = 3 ∨ k = 4 ∨ k = 5 ∨ k = 6 ∨ k = 7 ∨ k = 8 ∨ k = 9 ∨ k = 10 ∨ k = 11 ∨ k = 12 ∨ k = 13 ∨ k = 14 ∨ k = 15 := by omega
  rcases hk16 with rfl | rfl | rfl | rfl | rfl | rfl | rfl | rfl | rfl | rfl | rfl | rfl | rfl | rfl | rfl | rfl <;> rfl

set_option maxHeartbeats 4000000 in
set_option maxRecDepth 100000 in
theorem half (c : UInt8) (w : World) (hd : Digs w) :
    Calls Tryd.prog 10 #[.int .u8 c.toNat] w fun e w' => e = .returned (halfV c) ∧ w = w' := by
  have c0 := hd 0 (by omega)
  have c1 := hd 1 (by omega)
  have c2 := hd 2 (by omega)
  have c3 := hd 3 (by omega)
  have c4 := hd 4 (by omega)
  have c5 := hd 5 (by omega)
  have c6 := hd 6 (by omega)
  have c7 := hd 7 (by omega)
  have c8 := hd 8 (by omega)
  have c9 := hd 9 (by omega)
  have c10 := hd 10 (by omega)
  have c11 := hd 11 (by omega)
  have c12 := hd 12 (by omega)
  have c13 := hd 13 (by omega)
  have c14 := hd 14 (by omega)
  have c15 := hd 15 (by omega)
  simp only [dg, Nat.reduceLT, if_true, if_false, Nat.reduceAdd] at c0 c1 c2 c3 c4 c5 c6 c7 c8 c9 c10 c11 c12 c13 c14 c15
  go_enter Tryd.func10, Tryd.ntmps10
  go_wp2
  clear c0 c1 c2 c3 c4 c5 c6 c7 c8 c9 c10 c11 c12 c13 c14 c15
  go_loop [7] (fun i => ∃ k : Nat, k ≤ 16 ∧ i = .int .i64 k ∧ NotYet c k) (fun i => 16 - (intOf i).toNat)
  case atStart => exact ⟨0, by omega, rfl, fun j h => absurd h (by omega)⟩
  case round =>
    obtain ⟨k, hk, rfl, hn⟩ := hrel
    by_cases hlt : k < 16
    · have hx := run_tab w k hlt
      have hdg := dg_lt k hlt
      go_wp2
      · rename_i h hw
        have e : c.toNat = dg k := by have := eq_of_beq h; omega
        go_ret2
        exact ⟨by rw [halfV_yes c k hlt e]; rfl, rfl⟩
      · rename_i h
        have hne : c.toNat ≠ dg k := by intro e; rw [e] at h; simp at h
        go_round
        case rel => exact ⟨k + 1, by omega, by go_num, hn.succ hne⟩
        case measure => simp [intOf]; omega
    · obtain rfl : k = 16 := by omega
      go_wp2
      go_ret2
      exact ⟨by rw [halfV_no c hn]; rfl, rfl⟩
end Go.Proofs.YtlalfpgpebapeaaDoor.W
