/-
  The reference's Sum.
-/
import Derived.Deep.AppendLies
import Derived.Test.YtkinnlfjcmhcoaaDoorYSRefB
import Derived.Test.YtkinnlfjcmhcoaaDoorYSRefPad
import Derived.Test.YtkinnlfjcmhcoaaDoorZ0d
namespace Go.Proofs.YtkinnlfjcmhcoaaDoor.W
open Go.RowKit

/-- the registers lie in block H -/
def SumH (p : List UInt8) (w : World) (H k : Nat) (wr : World) : Prop := Blk wr H 116 (wv (blks p k)) ∧ Below w.heap.size w wr ∧ w.heap.size ≤ H
theorem SumH.start (p : List UInt8) (w w3 : World) (h : Below w.heap.size w w3) : SumH p w w3.heap.size 0 ((w3.alloc (.cells (wv (List.replicate 8 0)) 116)).setRow w3.heap.size (wv regs0)) :=
  ⟨setRow_heap _ _ _ _ _ _ (Blk.new w3 116 _), below_setRow (h.alloc h.size _) h.size, h.size⟩
theorem SumH.drew {p : List UInt8} {w wr : World} {H k : Nat} (h : SumH p w H k wr) : SumH p w H k wr.drew := ⟨h.1, Below.drewN h.2.1 1, h.2.2⟩
theorem SumH.reg {p : List UInt8} {w wr : World} {H k : Nat} (h : SumH p w H k wr) (i : Nat) (hi : i < 8) : wr.cell? ⟨H, i, none⟩ = some (.int .u32 (nth (blks p k) i)) := by
  rw [h.1.cell i, wv_at _ _ (by rw [blks_len]; exact hi)]
theorem SumH.step {p : ByteArray} {w w2 w3 : World} {H k : Nat} (h : SumH p.data.toList w H k w2) (b : Below w2.heap.size w2 w3) : SumH p.data.toList w H (k + 1) (w3.setRow H (wv (blk (blks p.data.toList k) (p.extract (64 * k) (64 * k + 64)).data.toList))) := by
  refine ⟨?_, below_setRow (h.2.1.trans (b.mono h.2.1.size)) h.2.2, h.2.2⟩
  have e : blks p.data.toList (k + 1) = blk (blks p.data.toList k) (p.extract (64 * k) (64 * k + 64)).data.toList := by
    rw [extract_data, show 64 * k + 64 - 64 * k = 64 by omega]
    rfl
  rw [e]
  exact setRow_heap _ _ _ _ _ _ (h.1.next b)
/-- the bytes so far, in a row of the call's own behind block H -/
def OutH (hh : List Nat) (H j : Nat) (v : Value) (W0 wr : World) : Prop := wr.ownsRow (H + 1) 5 1 v (4 * j) (cells (outTo hh j)) ∧ Below (H + 1) W0 wr ∧ H + 1 ≤ wr.heap.size
theorem OutH.start {hh : List Nat} {H : Nat} {w : World} (h : H < w.heap.size) : OutH hh H 0 (.slice none 0 0) w w := ⟨World.ownsRow_nil _ _ _ _, Below.refl _ _, h⟩
theorem OutH.step {hh : List Nat} {H j x : Nat} {l : List Value} {v : Value} {W0 w : World} (hx : nth hh j = x) (hl : cells (by4 x) = l) (h : w.ownsRow (H + 1) 5 1 v (4 * j + 4) (cells (outTo hh j) ++ l)) (hb : Below (H + 1) W0 w) (hs : H + 1 ≤ w.heap.size) : OutH hh H (j + 1) v W0 w := by
  refine ⟨?_, hb, hs⟩
  rw [show outTo hh (j + 1) = outTo hh j ++ by4 (nth hh j) from rfl, cells_append, hx, hl]
  exact h

set_option maxHeartbeats 4000000 in
set_option maxRecDepth 100000 in
theorem rsum_this (s p : ByteArray) (nb : Nat) (w : World) (hs : s.size ≤ 1099511627776) (HP : Hid (p = bs (padded s.data.toList))) (hp : p.size = 64 * nb) (out : List UInt8) (HO : Hid (outTo (blks p.data.toList nb) 8 = out)) :
    Calls Tryd.prog 39 #[.string s] w fun e w' => e = .returned (.string (bs out)) ∧ Below w.heap.size w w' := by
  have hps : p.size ≤ 1099511627776 + 72 := by
    have h1 := padOf_len s.size
    have h2 := zs_lt s.size
    rw [HP.out, bs_size, padded, List.length_append, size_list]
    omega
  have hadd : ∀ W : World, (Op.stringOp .add s (bs (padOf s.size))).run Tryd.prog W = .ok (.string p) W := fun W => by
    have h := run_add W s.data.toList (padOf s.size) (by have h1 := padOf_len s.size; have h2 := zs_lt s.size; rw [size_list]; omega)
    rw [bs_of] at h
    rw [h, HP.out, padded, size_list]
  obtain ⟨i0, hi, hz0, hz1, hz2⟩ := info_parts infoU8
  have HPAD := Lib.hid (rpad s.size (by omega) w)
  have HPS := Lib.hid hp
  clear hp HP
  go_enter Tryd.func39, Tryd.ntmps39
  go_wp2_with fail
  refine HPAD.out.mono ?_
  rintro e w2 ⟨rfl, b2⟩
  clear HPAD
  go_wp2_with fail
  refine (rRegs w2).mono ?_
  rintro e w3 ⟨rfl, b3⟩
  have HS := Lib.hid (SumH.start p.data.toList w w3 (step_below b2 b3))
  clear b2 b3 hadd
  go_wp2_with (refine wpList_store_row rfl 116 _ _ rfl w3.heap.size (wv regs0) rfl rfl 116 (wv (List.replicate 8 0)) (Blk.new w3 116 _) info8 rfl (wv_one _) ?_)
  rw [zero8]
  generalize (w3.alloc (Obj.cells (wv (List.replicate 8 0)) 116)).setRow w3.heap.size (wv regs0) = w4 at *
  generalize w3.heap.size = H at *
  clear w3
  go_loopw [4] (fun i wr => ∃ k : Nat, k ≤ nb ∧ i = .int .i64 ((64 * k : Nat) : Int) ∧ SumH p.data.toList w H k wr) (fun i _ => p.size - (intOf i).toNat)
  case atStart => exact ⟨0, Nat.zero_le _, rfl, HS.out⟩
  case round =>
    clear HS
    obtain ⟨k, hk, rfl, hS⟩ := hrel
    by_cases hlt : k < nb
    · have t1 : 64 * (k : Int) < (p.size : Int) := by have := HPS.out; omega
      have t2 : 64 * (k : Int) + 64 ≤ (p.size : Int) := by have := HPS.out; omega
      have n1 : (64 * (k : Int)).toNat = 64 * k := by omega
      have n2 : (64 * (k : Int) + 64).toNat = 64 * k + 64 := by omega
      have p1 : 0 ≤ 64 * (k : Int) := by omega
      have p2 : 0 ≤ 64 * (k : Int) + 64 := by omega
      have p3 : 64 * (k : Int) ≤ 64 * (k : Int) + 64 := by omega
      have wr1 : IntKind.i64.wrap (64 * (k : Int) + 64) = 64 * (k : Int) + 64 := IntWalk.i64_in _ (by omega)
      have HS := Lib.hid hS.drew
      have hc := hS.drew
      obtain ⟨a0, a1, a2, a3, a4, a5, a6, a7, ha⟩ := eight (blks_len p.data.toList k)
      have c0 := hc.reg 0 (by decide)
      have c1 := hc.reg 1 (by decide)
      have c2 := hc.reg 2 (by decide)
      have c3 := hc.reg 3 (by decide)
      have c4 := hc.reg 4 (by decide)
      have c5 := hc.reg 5 (by decide)
      have c6 := hc.reg 6 (by decide)
      have c7 := hc.reg 7 (by decide)
      rw [ha] at c0 c1 c2 c3 c4 c5 c6 c7
      replace c0 : wr.drew.cell? ⟨H, 0, none⟩ = some (.int .u32 a0) := c0
      replace c1 : wr.drew.cell? ⟨H, 1, none⟩ = some (.int .u32 a1) := c1
      replace c2 : wr.drew.cell? ⟨H, 2, none⟩ = some (.int .u32 a2) := c2
      replace c3 : wr.drew.cell? ⟨H, 3, none⟩ = some (.int .u32 a3) := c3
      replace c4 : wr.drew.cell? ⟨H, 4, none⟩ = some (.int .u32 a4) := c4
      replace c5 : wr.drew.cell? ⟨H, 5, none⟩ = some (.int .u32 a5) := c5
      replace c6 : wr.drew.cell? ⟨H, 6, none⟩ = some (.int .u32 a6) := c6
      replace c7 : wr.drew.cell? ⟨H, 7, none⟩ = some (.int .u32 a7) := c7
      have HA := Lib.hid ha
      clear hc hS ha
      go_wp2
      refine wp_region_still_tail 6 (by kernel_rfl) (by kernel_rfl) ?_
      simp only [List.take_succ_cons, List.take_zero, List.drop_succ_cons, List.drop_zero]
      change wpStill _ _ wr.drew (fun a' => wpList _ _ _ _ a' wr.drew) _ _
      generalize wr.drew = w3 at *
      repeat still_step
      refine wpStill_nil ?_
      clear c0 c1 c2 c3 c4 c5 c6 c7 p1 p2 p3 n1 n2 wr1
      go_wp2_with fail
      obtain ⟨o8, h8⟩ : ∃ o8, blk [a0, a1, a2, a3, a4, a5, a6, a7] (p.extract (64 * k) (64 * k + 64)).data.toList = o8 := ⟨_, rfl⟩
      have l8 : o8.length = 8 := by rw [← h8, blk_len _ _ rfl]
      have H8 := Lib.hid h8
      have L8 := Lib.hid l8
      clear h8 l8
      refine (rblock [a0, a1, a2, a3, a4, a5, a6, a7] (p.extract (64 * k) (64 * k + 64)) w3 (by rw [ByteArray.size_extract]; unfold maxLen; omega) rfl o8 H8).mono ?_
      rintro e w4 ⟨rfl, b4⟩
      have R := Lib.hid (HS.out.step b4)
      rw [HA.out, H8.out] at R
      have hB := HS.out.1.next b4
      rw [HA.out] at hB
      have HB := Lib.hid hB
      clear hB HS HA b4 H8
      go_wp2_with (refine wpList_store_row rfl 116 _ _ rfl H (wv o8) rfl rfl 116 _ HB.out (by rw [wv_size, L8.out]; exact info8) (by rw [wv_size, wv_size, L8.out]; rfl) (wv_one _) ?_)
      go_roundw
      case rel => exact ⟨k + 1, by omega, at_next k, R.out⟩
      case measure =>
        show p.size - (64 * (k : Int) + 64).toNat < p.size - ((64 * k : Nat) : Int).toNat
        omega
    · obtain rfl : k = nb := by omega
      have t1 : ¬ 64 * (k : Int) < (p.size : Int) := by have := HPS.out; omega
      obtain ⟨hh, hhh⟩ : ∃ hh, blks p.data.toList k = hh := ⟨_, rfl⟩
      have H8 := Lib.hid (show hh.length = 8 by rw [← hhh, blks_len])
      have hB := hS.1
      rw [hhh] at hB
      have HB := Lib.hid hB
      have HL := Lib.hid hS.2
      have HO2 := Lib.hid (show outTo hh 8 = out by rw [← hhh]; exact HO.out)
      clear hS hB hhh HO
      go_wp2
      generalize hW : wr = W0 at *
      clear hW
      go_loopw [5, 6] (fun v i wr => ∃ j : Nat, j ≤ 8 ∧ i = .int .i64 j ∧ OutH hh H j v W0 wr) (fun _ i _ => 8 - (intOf i).toNat)
      case atStart => exact ⟨0, Nat.zero_le _, rfl, OutH.start HB.out.lt⟩
      case round =>
        obtain ⟨j, hj, rfl, hown⟩ := hrel
        by_cases hjl : j < 8
        · obtain ⟨x, hx⟩ : ∃ x, nth hh j = x := ⟨_, rfl⟩
          have cj : wr.cell? ⟨H, j, none⟩ = some (.int .u32 x) := by
            have h := (HB.out.below hown.2.1 (Nat.lt_succ_self H)).cell j
            rw [wv_at _ _ (by rw [H8.out]; exact hjl), hx] at h
            exact h
          obtain ⟨b0, h0⟩ : ∃ b, x / 16777216 % 256 = b := ⟨_, rfl⟩
          obtain ⟨b1, h1⟩ : ∃ b, x / 65536 % 256 = b := ⟨_, rfl⟩
          obtain ⟨b2, h2⟩ : ∃ b, x / 256 % 256 = b := ⟨_, rfl⟩
          obtain ⟨b3, h3⟩ : ∃ b, x % 256 = b := ⟨_, rfl⟩
          have e0 : IntKind.u8.wrap ((x : Int) / 16777216) = (b0 : Int) := by rw [IntKind.wrap_u8]; omega
          have e1 : IntKind.u8.wrap ((x : Int) / 65536) = (b1 : Int) := by rw [IntKind.wrap_u8]; omega
          have e2 : IntKind.u8.wrap ((x : Int) / 256) = (b2 : Int) := by rw [IntKind.wrap_u8]; omega
          have e3 : IntKind.u8.wrap (x : Int) = (b3 : Int) := by rw [IntKind.wrap_u8]; omega
          have f0 : (x : Int) / 16777216 % 256 = (b0 : Int) := by omega
          have f1 : (x : Int) / 65536 % 256 = (b1 : Int) := by omega
          have f2 : (x : Int) / 256 % 256 = (b2 : Int) := by omega
          have f3 : (x : Int) % 256 = (b3 : Int) := by omega
          have HX := Lib.hid (by4_cells x b0 b1 b2 b3 h0 h1 h2 h3)
          have HN := Lib.hid hx
          have jl : (j : Int) < 8 := by omega
          have jp : (0 : Int) ≤ (j : Int) := by omega
          have hHl : H < wr.heap.size := hown.2.2
          have hne : some H ≠ u5.ownBlock := fun e => by have := (hown.1.lt H e.symm).1; omega
          have hlo : ∀ g, u5.ownBlock = some g → H + 1 ≤ g := fun g hg => (hown.1.lt g hg).1
          have HNE := Lib.hid hne
          have HLO := Lib.hid hlo
          have HWN := Lib.hid hown
          clear h0 h1 h2 h3 hx hown hne hlo
          go_wp2
          go_region_held3 (fun w' => w'.cell? ⟨H, j, none⟩ = some (.int .u32 x))
            (first
              | go_keep
              | (rw [hgrow.cell_far _ (by simp <;> omega) HNE.out]; assumption))
            ((refine step_append_lies _ (by rfl) _ _ _ (by rfl) (H + 1) 5 i0 _ 1 1 Tryd.underlying74 hi hz0 hz1 hz2 rfl (by omega) u5 (4 * j) _ (by rfl) ((HWN.out.1.alloc _).drew)
                ⟨wr.heap.size, 0, none⟩ 4 4 [.int .u8 b0, .int .u8 b1, .int .u8 b2, .int .u8 b3] (by rfl) (by rfl) (World.news_of_block (cs := #[.int .u8 b0, .int .u8 b1, .int .u8 b2, .int .u8 b3]) (t := 5) (fr := (0, 0)) (heap_alloc_new wr _)) (by simp [Value.oneCell'])
                (by omega) (by unfold maxLen; omega) (by omega) (by simp; omega) (wr.heap.size + 1) (by simp) ?_; intro gg cap w1 hown1 hgrow hat hlt'))
          have hbel : Below (H + 1) W0 w1 := Below.grown (by
              have h := HWN.out.2.1.alloc hHl (.cells #[.int .u8 b0, .int .u8 b1, .int .u8 b2, .int .u8 b3] 5)
              exact ⟨h.os, h.tape, h.output, h.size, h.block⟩) hgrow (by simp; omega) HLO.out
          have hsz : H + 1 ≤ w1.heap.size := by have := hgrow.size; simp at this; omega
          have R := Lib.hid (OutH.step HN.out HX.out hown1 hbel hsz)
          clear hown1 hgrow hat hlt' hbel hsz HWN HLO HNE HX HN cj e0 e1 e2 e3 f0 f1 f2 f3
          go_wp2
          go_roundw
          case rel => exact ⟨j + 1, by omega, by go_num, R.out⟩
          case measure => simp [intOf]; omega
        · obtain rfl : j = 8 := by omega
          have hst := run_string (H + 1) u5 (outTo hh 8) W0 wr (by rw [outTo_len]; exact ⟨World.ownsRowF_of hown.1, hown.2⟩)
          rw [HO2.out] at hst
          have hb : Below w.heap.size w wr := HL.out.1.trans (hown.2.1.mono (by have := HL.out.2; omega))
          go_wp2
          go_ret
          exact ⟨rfl, hb⟩

theorem rsum (s : ByteArray) (w : World) (hs : s.size ≤ 1099511627776) :
    Calls Tryd.prog 39 #[.string s] w fun e w' => e = .returned (.string (bs (shaOf s.data.toList))) ∧ Below w.heap.size w w' := by
  refine rsum_this s (bs (padded s.data.toList)) ((padded s.data.toList).length / 64) w hs (Lib.hid rfl) ?_ _ (Lib.hid rfl)
  rw [bs_size]
  exact padded_len _
end Go.Proofs.YtkinnlfjcmhcoaaDoor.W
