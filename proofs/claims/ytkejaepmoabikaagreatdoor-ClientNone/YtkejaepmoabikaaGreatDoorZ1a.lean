import Derived.Deep.AppendLies
import Derived.Test.YtkejaepmoabikaaGreatDoorZSRefB
import Derived.Test.YtkejaepmoabikaaGreatDoorZ0e
import Derived.Test.YtkejaepmoabikaaGreatDoorZ0b
import Derived.Test.YtkejaepmoabikaaGreatDoorZ0f
import Derived.Test.YtkejaepmoabikaaGreatDoorZ0d
namespace Go.Proofs.YtkejaepmoabikaaGreatDoor.W
open Go.RowKit
open Lib renaming hid → qH
open _root_.Go.Proofs.Tryz renaming prog → qP
set_option maxHeartbeats 4000000
set_option maxRecDepth 100000
def SumH (p : List UInt8) (w : World) (H k : Nat) (wr : World) : Prop := Blk wr H 189 (wv (blks p k)) ∧ Below w.heap.size w wr ∧ w.heap.size ≤ H
theorem SumH.start (p : List UInt8) (w w3 : World) (h : Below w.heap.size w w3) : SumH p w w3.heap.size 0 ((w3.alloc (.cells (wv (List.replicate 8 0)) 189)).setRow w3.heap.size (wv regs0)) :=
 ⟨setRow_heap _ _ _ _ _ _ (Blk.new w3 189 _), below_setRow (h.alloc h.size _) h.size, h.size⟩
theorem SumH.drew {p : List UInt8} {w wr : World} {H k : Nat} (h : SumH p w H k wr) : SumH p w H k wr.drew := ⟨h.1, Below.drewN h.2.1 1, h.2.2⟩
theorem SumH.reg {p : List UInt8} {w wr : World} {H k : Nat} (h : SumH p w H k wr) (i : Nat) (hi : i < 8) : wr.cell? ⟨H, i, none⟩ = some (.int .u32 (nth (blks p k) i)) := by
 rw [h.1.cell i, wv_at _ _ (by rw [blks_len]; exact hi)]
theorem SumH.step {p : ByteArray} {w w2 w3 : World} {H k : Nat} (h : SumH p.data.toList w H k w2) (b : Below w2.heap.size w2 w3) : SumH p.data.toList w H (k + 1) (w3.setRow H (wv (blk (blks p.data.toList k) (p.extract (64 * k) (64 * k + 64)).data.toList))) := by
 refine ⟨?_, below_setRow (h.2.1.trans (b.mono h.2.1.size)) h.2.2, h.2.2⟩
 have e : blks p.data.toList (k + 1) = blk (blks p.data.toList k) (p.extract (64 * k) (64 * k + 64)).data.toList := by
  rw [extract_data, show 64 * k + 64 - 64 * k = 64 by omega]
  rfl
 rw [e]
 exact setRow_heap _ _ _ _ _ _ (h.1.next b)
def OutH (hh : List Nat) (H j : Nat) (v : Value) (W0 wr : World) : Prop := wr.ownsRow (H + 1) 5 1 v (4 * j) (cells (outTo hh j)) ∧ Below (H + 1) W0 wr ∧ H + 1 ≤ wr.heap.size
theorem OutH.start {hh : List Nat} {H : Nat} {w : World} (h : H < w.heap.size) : OutH hh H 0 (.slice none 0 0) w w := ⟨World.ownsRow_nil _ _ _ _, Below.refl _ _, h⟩
theorem OutH.step {hh : List Nat} {H j x : Nat} {l : List Value} {v : Value} {W0 w : World} (hx : nth hh j = x) (hl : cells (by4 x) = l) (h : w.ownsRow (H + 1) 5 1 v (4 * j + 4) (cells (outTo hh j) ++ l)) (hb : Below (H + 1) W0 w) (hs : H + 1 ≤ w.heap.size) : OutH hh H (j + 1) v W0 w := by
 refine ⟨?_, hb, hs⟩
 rw [show outTo hh (j + 1) = outTo hh j ++ by4 (nth hh j) from rfl, cells_append, hx, hl]
 exact h
theorem rsum_this (s p : ByteArray) (nb : Nat) (w : World) (hs : s.size ≤ 1099511627776) (HP : Hid (p = bs (padded s.data.toList))) (hp : p.size = 64 * nb) (out : List UInt8) (HO : Hid (outTo (blks p.data.toList nb) 8 = out)) :
  Calls qP 76 #[.string s] w fun e w' => e = .returned (.string (bs out)) ∧ Below w.heap.size w w' := by
 have hps : p.size ≤ 1099511627776 + 72 := by
  have h1 := padOf_len s.size
  have h2 := zs_lt s.size
  rw [HP.out, bs_size, padded, List.length_append, size_list]
  omega
 have hadd : ∀ W : World, (Op.stringOp .add s (bs (padOf s.size))).run qP W = .ok (.string p) W := fun W => by
  have h := run_add W s.data.toList (padOf s.size) (by have h1 := padOf_len s.size; have h2 := zs_lt s.size; rw [size_list]; omega)
  rw [bs_of] at h
  rw [h, HP.out, padded, size_list]
 obtain ⟨i0, hi, hz0, hz1, hz2⟩ := info_parts infoU8
 have HPAD := qH (rpad s.size (by omega) w)
 have HPS := qH hp
 clear hp HP
 go_enter Tryz.func76, Tryz.ntmps76
 go_wp2_with fail
 refine HPAD.out.mono ?_
 rintro e w2 ⟨rfl, b2⟩
 clear HPAD
 go_wp2_with fail
 refine (rRegs w2).mono ?_
 rintro e w3 ⟨rfl, b3⟩
 have HS := qH (SumH.start p.data.toList w w3 (step_below b2 b3))
 clear b2 b3 hadd
 go_wp2_with (refine wpList_store_row rfl 189 _ _ rfl w3.heap.size (wv regs0) rfl rfl 189 (wv (List.replicate 8 0)) (Blk.new w3 189 _) info8 rfl (wv_one _) ?_)
 rw [zero8]
 generalize (w3.alloc (Obj.cells (wv (List.replicate 8 0)) 189)).setRow w3.heap.size (wv regs0) = w4 at *
 generalize w3.heap.size = H at *
 clear w3
 go_loopw [4] (fun i wr => ∃ k : Nat, k ≤ nb ∧ i = .int .i64 ((64 * k : Nat) : Int) ∧ SumH p.data.toList w H k wr) (fun i _ => p.size - (intOf i).toNat)
 case atStart => exact ⟨0, Nat.zero_le _, rfl, HS.out⟩
 case round =>
  clear HS
  obtain ⟨k, hk, rfl, hS⟩ := hrel
  by_cases hlt : k < nb
  ·have t1 : 64 * (k : Int) < (p.size : Int) := by have := HPS.out; omega
   have t2 : 64 * (k : Int) + 64 ≤ (p.size : Int) := by have := HPS.out; omega
   have n1 : (64 * (k : Int)).toNat = 64 * k := by omega
   have n2 : (64 * (k : Int) + 64).toNat = 64 * k + 64 := by omega
   have p1 : 0 ≤ 64 * (k : Int) := by omega
   have p2 : 0 ≤ 64 * (k : Int) + 64 := by omega
   have p3 : 64 * (k : Int) ≤ 64 * (k : Int) + 64 := by omega
   have wr1 : IntKind.i64.wrap (64 * (k : Int) + 64) = 64 * (k : Int) + 64 := IntWalk.i64_in _ (by omega)
   have HS := qH hS.drew
   have hc := hS.drew
   obtain ⟨a0, a1, a2, a3, a4, a5, a6, a7, ha⟩ := eight (blks_len p.data.toList k)
   have c0 := hc.reg 0 (by decide)
   have c1 := hc.reg 1 (by decide)
   have c2 := hc.reg 2 (by decide)
   have c3 := hc.reg 3 (by decide)
   have c4 := hc.reg 4 (by decide)
   have c5 := hc.reg 5 (by decide)
   have c6 := hc.reg 6 (by decide)
   have c7 := hc.reg 7 (by decide)
   rw [ha] at c0 c1 c2 c3 c4 c5 c6 c7
   replace c0 : wr.drew.cell? ⟨H, 0, none⟩ = some (.int .u32 a0) := c0
   replace c1 : wr.drew.cell? ⟨H, 1, none⟩ = some (.int .u32 a1) := c1
   replace c2 : wr.drew.cell? ⟨H, 2, none⟩ = some (.int .u32 a2) := c2
   replace c3 : wr.drew.cell? ⟨H, 3, none⟩ = some (.int .u32 a3) := c3
   replace c4 : wr.drew.cell? ⟨H, 4, none⟩ = some (.int .u32 a4) := c4
   replace c5 : wr.drew.cell? ⟨H, 5, none⟩ = some (.int .u32 a5) := c5
   replace c6 : wr.drew.cell? ⟨H, 6, none⟩ = some (.int .u32 a6) := c6
   replace c7 : wr.drew.cell? ⟨H, 7, none⟩ = some (.int .u32 a7) := c7
   have HA := qH ha
   clear hc hS ha
   go_wp2
   refine wp_region_still_tail 6 (by kernel_rfl) (by kernel_rfl) ?_
   simp only [List.take_succ_cons, List.take_zero, List.drop_succ_cons, List.drop_zero]
   change wpStill _ _ wr.drew (fun a' => wpList _ _ _ _ a' wr.drew) _ _
   generalize wr.drew = w3 at *
   repeat still_step
   refine wpStill_nil ?_
   clear c0 c1 c2 c3 c4 c5 c6 c7 p1 p2 p3 n1 n2 wr1
   go_wp2_with fail
   obtain ⟨o8, h8⟩ : ∃ o8, blk [a0, a1, a2, a3, a4, a5, a6, a7] (p.extract (64 * k) (64 * k + 64)).data.toList = o8 := ⟨_, rfl⟩
   have l8 : o8.length = 8 := by rw [← h8, blk_len _ _ rfl]
   have H8 := qH h8
   have L8 := qH l8
   clear h8 l8
   refine (rblock [a0, a1, a2, a3, a4, a5, a6, a7] (p.extract (64 * k) (64 * k + 64)) w3 (by rw [ByteArray.size_extract]; unfold maxLen; omega) rfl o8 H8).mono ?_
   rintro e w4 ⟨rfl, b4⟩
   have R := qH (HS.out.step b4)
   rw [HA.out, H8.out] at R
   have hB := HS.out.1.next b4
   rw [HA.out] at hB
   have HB := qH hB
   clear hB HS HA b4 H8
   go_wp2_with (refine wpList_store_row rfl 189 _ _ rfl H (wv o8) rfl rfl 189 _ HB.out (by rw [wv_size, L8.out]; exact info8) (by rw [wv_size, wv_size, L8.out]; rfl) (wv_one _) ?_)
   go_roundw
   case rel => exact ⟨k + 1, by omega, at_next k, R.out⟩
   case measure =>
    show p.size - (64 * (k : Int) + 64).toNat < p.size - ((64 * k : Nat) : Int).toNat
    omega
  ·obtain rfl : k = nb := by omega
   have t1 : ¬ 64 * (k : Int) < (p.size : Int) := by have := HPS.out; omega
   obtain ⟨hh, hhh⟩ : ∃ hh, blks p.data.toList k = hh := ⟨_, rfl⟩
   have H8 := qH (show hh.length = 8 by rw [← hhh, blks_len])
   have hB := hS.1
   rw [hhh] at hB
   have HB := qH hB
   have HL := qH hS.2
   have HO2 := qH (show outTo hh 8 = out by rw [← hhh]; exact HO.out)
   clear hS hB hhh HO
   go_wp2
   generalize hW : wr = W0 at *
   clear hW
   go_loopw [5, 6] (fun v i wr => ∃ j : Nat, j ≤ 8 ∧ i = .int .i64 j ∧ OutH hh H j v W0 wr) (fun _ i _ => 8 - (intOf i).toNat)
   case atStart => exact ⟨0, Nat.zero_le _, rfl, OutH.start HB.out.lt⟩
   case round =>
    obtain ⟨j, hj, rfl, hown⟩ := hrel
    by_cases hjl : j < 8
    ·obtain ⟨x, hx⟩ : ∃ x, nth hh j = x := ⟨_, rfl⟩
     have cj : wr.cell? ⟨H, j, none⟩ = some (.int .u32 x) := by
      have h := (HB.out.below hown.2.1 (Nat.lt_succ_self H)).cell j
      rw [wv_at _ _ (by rw [H8.out]; exact hjl), hx] at h
      exact h
     obtain ⟨b0, h0⟩ : ∃ b, x / 16777216 % 256 = b := ⟨_, rfl⟩
     obtain ⟨b1, h1⟩ : ∃ b, x / 65536 % 256 = b := ⟨_, rfl⟩
     obtain ⟨b2, h2⟩ : ∃ b, x / 256 % 256 = b := ⟨_, rfl⟩
     obtain ⟨b3, h3⟩ : ∃ b, x % 256 = b := ⟨_, rfl⟩
     have e0 : IntKind.u8.wrap ((x : Int) / 16777216) = (b0 : Int) := by rw [IntKind.wrap_u8]; omega
     have e1 : IntKind.u8.wrap ((x : Int) / 65536) = (b1 : Int) := by rw [IntKind.wrap_u8]; omega
     have e2 : IntKind.u8.wrap ((x : Int) / 256) = (b2 : Int) := by rw [IntKind.wrap_u8]; omega
     have e3 : IntKind.u8.wrap (x : Int) = (b3 : Int) := by rw [IntKind.wrap_u8]; omega
     have f0 : (x : Int) / 16777216 % 256 = (b0 : Int) := by omega
     have f1 : (x : Int) / 65536 % 256 = (b1 : Int) := by omega
     have f2 : (x : Int) / 256 % 256 = (b2 : Int) := by omega
     have f3 : (x : Int) % 256 = (b3 : Int) := by omega
     have HX := qH (by4_cells x b0 b1 b2 b3 h0 h1 h2 h3)
     have HN := qH hx
     have jl : (j : Int) < 8 := by omega
     have jp : (0 : Int) ≤ (j : Int) := by omega
     have hHl : H < wr.heap.size := hown.2.2
     have hne : some H ≠ u5.ownBlock := fun e => by have := (hown.1.lt H e.symm).1; omega
     have hlo : ∀ g, u5.ownBlock = some g → H + 1 ≤ g := fun g hg => (hown.1.lt g hg).1
     have HNE := qH hne
     have HLO := qH hlo
     have HWN := qH hown
     clear h0 h1 h2 h3 hx hown hne hlo
     go_wp2
     go_region_held3 (fun w' => w'.cell? ⟨H, j, none⟩ = some (.int .u32 x))
      (first
        | go_keep
        | (rw [hgrow.cell_far _ (by simp <;> omega) HNE.out]; assumption))
      ((refine step_append_lies _ (by rfl) _ _ _ (by rfl) (H + 1) 5 i0 _ 1 1 Tryz.underlying121 hi hz0 hz1 hz2 rfl (by omega) u5 (4 * j) _ (by rfl) ((HWN.out.1.alloc _).drew)
          ⟨wr.heap.size, 0, none⟩ 4 4 [.int .u8 b0, .int .u8 b1, .int .u8 b2, .int .u8 b3] (by rfl) (by rfl) (World.news_of_block (cs := #[.int .u8 b0, .int .u8 b1, .int .u8 b2, .int .u8 b3]) (t := 5) (fr := (0, 0)) (heap_alloc_new wr _)) (by simp [Value.oneCell'])
          (by omega) (by unfold maxLen; omega) (by omega) (by simp; omega) (wr.heap.size + 1) (by simp) ?_; intro gg cap w1 hown1 hgrow hat hlt'))
     have hbel : Below (H + 1) W0 w1 := Below.grown (by
       have h := HWN.out.2.1.alloc hHl (.cells #[.int .u8 b0, .int .u8 b1, .int .u8 b2, .int .u8 b3] 5)
       exact ⟨h.os, h.tape, h.output, h.size, h.block⟩) hgrow (by simp; omega) HLO.out
     have hsz : H + 1 ≤ w1.heap.size := by have := hgrow.size; simp at this; omega
     have R := qH (OutH.step HN.out HX.out hown1 hbel hsz)
     clear hown1 hgrow hat hlt' hbel hsz HWN HLO HNE HX HN cj e0 e1 e2 e3 f0 f1 f2 f3
     go_wp2
     go_roundw
     case rel => exact ⟨j + 1, by omega, by go_num, R.out⟩
     case measure => simp [intOf]; omega
    ·obtain rfl : j = 8 := by omega
     have hst := run_string (H + 1) u5 (outTo hh 8) W0 wr (by rw [outTo_len]; exact ⟨World.ownsRowF_of hown.1, hown.2⟩)
     rw [HO2.out] at hst
     have hb : Below w.heap.size w wr := HL.out.1.trans (hown.2.1.mono (by have := HL.out.2; omega))
     go_wp2
     go_ret
     exact ⟨rfl, hb⟩
theorem rsum (s : ByteArray) (w : World) (hs : s.size ≤ 1099511627776) :
  Calls qP 76 #[.string s] w fun e w' => e = .returned (.string (bs (shaOf s.data.toList))) ∧ Below w.heap.size w w' := by
 refine rsum_this s (bs (padded s.data.toList)) ((padded s.data.toList).length / 64) w hs (qH rfl) ?_ _ (qH rfl)
 rw [bs_size]
 exact padded_len _
theorem mixed_step {f : List UInt8} {x c : UInt8} {j : Nat} {B : Nat} {v : Value} {W0 w : World} (hc : f[j]? = some c) (h : Lib.OwnBuf B 5 v (j + 1) (cells (mix x (f.take j)) ++ [.int .u8 (c ^^^ x).toNat]) W0 w) :
  Lib.OwnBuf B 5 v (j + 1) (cells (mix x (f.take (j + 1)))) W0 w := by
 have hj : j < f.length := by
  rcases Nat.lt_or_ge j f.length with h | h
  ·exact h
  ·rw [List.getElem?_eq_none h] at hc; cases hc
 have e : f[j] = c := by rw [List.getElem?_eq_getElem hj] at hc; exact Option.some.inj hc
 rw [mix_step f x j hj, cells_append, e]
 exact h
theorem mixed (k : ByteArray) (x : UInt8) (w : World) (hk : k.size ≤ 64) (f out : List UInt8) (HF : Hid (fill k.data.toList = f)) (HO : Hid (mix x f = out)) :
  Calls qP 92 #[.string k, .int .u8 x.toNat] w fun e w' => e = .returned (.string (bs out)) ∧ Below w.heap.size w w' := by
 have FL := qH (show f.length = 64 by rw [← HF.out, fill_len _ (by rw [size_list]; exact hk)])
 obtain ⟨i0, hi, hz0, hz1, hz2⟩ := info_parts infoU8
 go_enter Tryz.func92, Tryz.ntmps92
 go_wp2
 go_loopw [5, 6] (fun v i wr => ∃ j : Nat, j ≤ 64 ∧ i = .int .i64 j ∧ Lib.OwnBuf w.heap.size 5 v j (cells (mix x (f.take j))) w wr) (fun _ i _ => 64 - (intOf i).toNat)
 case atStart => exact ⟨0, Nat.zero_le _, rfl, OwnBuf_nil w 5⟩
 case round =>
  obtain ⟨j, hj, rfl, hown⟩ := hrel
  by_cases hlt : j < 64
  ·have jl : (j : Int) < 64 := by omega
   by_cases hjk : j < k.size
   ·have tk : (j : Int) < (k.size : Int) := by omega
    have hc : f[j]? = some (k[j]) := by rw [← HF.out, fill_in _ _ (by rw [size_list]; exact hjk)]; rfl
    have HC := qH hc
    obtain ⟨c, hcc⟩ : ∃ c, k[j] = c := ⟨_, rfl⟩
    rw [hcc] at HC
    have hx := xor_byte c x
    have ST := qH (fun v W h => mixed_step (B := w.heap.size) (v := v) (W0 := w) (w := W) (x := x) HC.out h)
    clear hc HC
    generalize c ^^^ x = y at *
    go_wp2_with (at_builtin; go_must (refine Lib.wpList_append_byte rfl _ _ 121 rfl w.heap.size 5 i0 Tryz.underlying121 hi hz0 hz1 hz2 u5 j _ rfl w wr _ hown rfl (by omega) ?_))
    intro v7 w7 h7
    have R := qH (ST.out v7 w7 h7)
    clear h7 hown ST hx
    go_wp2
    go_roundw
    case rel => exact ⟨j + 1, by omega, by go_num, R.out⟩
    case measure => simp [intOf]; omega
   ·have tk : ¬ (j : Int) < (k.size : Int) := by omega
    have hc : f[j]? = some 0 := by rw [← HF.out, fill_out _ _ (by rw [size_list]; omega) hlt]
    have hx : bits .xor .u8 0 (x.toNat : Int) = ((0 ^^^ x : UInt8).toNat : Int) := xor_byte 0 x
    have ST := qH (fun v W h => mixed_step (B := w.heap.size) (v := v) (W0 := w) (w := W) (x := x) hc h)
    clear hc
    generalize (0 ^^^ x : UInt8) = y at *
    go_wp2_with (at_builtin; go_must (refine Lib.wpList_append_byte rfl _ _ 121 rfl w.heap.size 5 i0 Tryz.underlying121 hi hz0 hz1 hz2 u5 j _ rfl w wr _ hown rfl (by omega) ?_))
    intro v7 w7 h7
    have R := qH (ST.out v7 w7 h7)
    clear h7 hown ST hx
    go_wp2
    go_roundw
    case rel => exact ⟨j + 1, by omega, by go_num, R.out⟩
    case measure => simp [intOf]; omega
  ·obtain rfl : j = 64 := by omega
   have hst := run_string w.heap.size u5 out w wr (by
    rw [show out.length = 64 by rw [← HO.out, mix_len, FL.out], ← HO.out]
    rwa [List.take_of_length_le (by rw [FL.out]; exact Nat.le_refl _)] at hown)
   go_wp2
   go_ret
   exact ⟨rfl, hown.2.1⟩
theorem rmac_this (k s k2 : ByteArray) (w : World) (hk : k.size ≤ 1099511627776) (hs : s.size ≤ 1000000) (f m1 m2 q1 q2 : List UInt8) (h1 : mix 92 f = m1) (h2 : mix 54 f = m2)
  (h3 : shaOf (m2 ++ s.data.toList) = q1) (h4 : shaOf (m1 ++ q1) = q2) (hk2 : k2 = bs (keyOf k.data.toList)) (hf : fill k2.data.toList = f) :
  Calls qP 46 #[.string k, .string s] w fun e w' => e = .returned (.string (bs q2)) ∧ Below w.heap.size w w' := by
 have kl : k2.size ≤ 64 := by rw [hk2, bs_size]; exact keyOf_len _
 have fl : f.length = 64 := by rw [← hf, fill_len _ (by rw [size_list]; exact kl)]
 have l1 : m1.length = 64 := by rw [← h1, mix_len, fl]
 have l2 : m2.length = 64 := by rw [← h2, mix_len, fl]
 have l3 : q1.length = 32 := by rw [← h3, shaOf_len]
 have a1 : ∀ W : World, (Op.stringOp .add (bs m2) s).run qP W = .ok (.string (bs (m2 ++ s.data.toList))) W := fun W => by
  have h := run_add W m2 s.data.toList (by rw [size_list, l2]; omega)
  rwa [bs_of] at h
 have a2 : ∀ W : World, (Op.stringOp .add (bs m1) (bs q1)).run qP W = .ok (.string (bs (m1 ++ q1))) W := fun W => run_add W m1 q1 (by omega)
 have S1 := qH (fun (W : World) => rsum (bs (m2 ++ s.data.toList)) W (by rw [bs_size, List.length_append, l2, size_list]; omega))
 have S2 := qH (fun (W : World) => rsum (bs (m1 ++ q1)) W (by rw [bs_size, List.length_append, l1, l3]; omega))
 rw [bs_data, h3] at S1
 rw [bs_data, h4] at S2
 have M1 := qH (fun (W : World) => mixed k2 92 W kl f m1 (qH hf) (qH h1))
 have M2 := qH (fun (W : World) => mixed k2 54 W kl f m2 (qH hf) (qH h2))
 clear h1 h2 h3 h4 hf fl l1 l2 l3
 by_cases hk64 : 64 < k.size
 ·have R := qH (rsum k w hk)
  rw [← keyOf_long _ (by rw [size_list]; exact hk64), ← hk2] at R
  clear hk2
  have t64 : (64 : Int) < (k.size : Int) := by omega
  go_enter Tryz.func46, Tryz.ntmps46
  go_wp2_with fail
  refine R.out.mono ?_
  rintro e w1 ⟨rfl, b1⟩
  clear R
  go_wp2_with fail
  refine (M1.out _).mono ?_
  rintro e w2 ⟨rfl, b2⟩
  replace b2 := qH (step_below b1 b2)
  clear b1 M1
  go_wp2_with fail
  refine (M2.out w2).mono ?_
  rintro e w3 ⟨rfl, b3⟩
  replace b3 := qH (step_below b2.out b3)
  clear b2 M2
  go_wp2_with fail
  refine (S1.out w3).mono ?_
  rintro e w4 ⟨rfl, b4⟩
  replace b4 := qH (step_below b3.out b4)
  clear b3 S1 a1
  go_wp2_with fail
  refine (S2.out w4).mono ?_
  rintro e w5 ⟨rfl, b5⟩
  replace b5 := step_below b4.out b5
  clear b4 S2 a2
  go_wp2
  go_ret
  exact ⟨rfl, b5⟩
 ·obtain rfl : k = k2 := by rw [hk2, keyOf_short _ (by rw [size_list]; omega), bs_of]
  have t64 : ¬ (64 : Int) < (k.size : Int) := by omega
  have b1 := Below.refl w.heap.size w
  clear hk2
  go_enter Tryz.func46, Tryz.ntmps46
  go_wp2_with fail
  refine (M1.out _).mono ?_
  rintro e w2 ⟨rfl, b2⟩
  replace b2 := qH (step_below b1 b2)
  clear b1 M1
  go_wp2_with fail
  refine (M2.out w2).mono ?_
  rintro e w3 ⟨rfl, b3⟩
  replace b3 := qH (step_below b2.out b3)
  clear b2 M2
  go_wp2_with fail
  refine (S1.out w3).mono ?_
  rintro e w4 ⟨rfl, b4⟩
  replace b4 := qH (step_below b3.out b4)
  clear b3 S1 a1
  go_wp2_with fail
  refine (S2.out w4).mono ?_
  rintro e w5 ⟨rfl, b5⟩
  replace b5 := step_below b4.out b5
  clear b4 S2 a2
  go_wp2
  go_ret
  exact ⟨rfl, b5⟩
theorem rmac (k s : ByteArray) (w : World) (hk : k.size ≤ 1099511627776) (hs : s.size ≤ 1000000) :
  Calls qP 46 #[.string k, .string s] w fun e w' => e = .returned (.string (bs (macOf k.data.toList s.data.toList))) ∧ Below w.heap.size w w' :=
 rmac_this k s (bs (keyOf k.data.toList)) w hk hs _ _ _ _ _ rfl rfl rfl rfl rfl rfl
def retHE (r : Hdr × Int) : Value := .tuple #[hdV r.1, .int .i64 r.2]
structure SgAt (w : World) (c : ByteArray) (a b : Int) (r m : ByteArray) (W : World) : Prop where
 x : Blk W w.heap.size 34 #[.string c, .int .i64 a, .int .i64 b, .string r, .string m]
 o : Blk W (w.heap.size + 1) 34 #[.string ⟨#[]⟩, .int .i64 0, .int .i64 0, .string ⟨#[]⟩, .string ⟨#[]⟩]
 s : Since w W
section
variable {w W W' : World} {c r m : ByteArray} {a b : Int}
theorem sg_start (w : World) (c : ByteArray) (a b : Int) (r m : ByteArray) : SgAt w c a b r m ((w.alloc (.cells #[.string c, .int .i64 a, .int .i64 b, .string r, .string m] 34)).alloc (.cells #[.string ⟨#[]⟩, .int .i64 0, .int .i64 0, .string ⟨#[]⟩, .string ⟨#[]⟩] 34)) := by
 have h1 := Blk.new w 34 #[.string c, .int .i64 a, .int .i64 b, .string r, .string m]
 have b1 : Below w.heap.size w (w.alloc (.cells #[.string c, .int .i64 a, .int .i64 b, .string r, .string m] 34)) := (Below.refl _ w).alloc (Nat.le_refl _) _
 have e1 : (w.alloc (.cells #[.string c, .int .i64 a, .int .i64 b, .string r, .string m] 34)).heap.size = w.heap.size + 1 := by simp
 generalize w.alloc (.cells #[.string c, .int .i64 a, .int .i64 b, .string r, .string m] 34) = W1 at *
 have h2 := Blk.new W1 34 #[.string ⟨#[]⟩, .int .i64 0, .int .i64 0, .string ⟨#[]⟩, .string ⟨#[]⟩]
 rw [e1] at h2
 exact ⟨h1.alloc _, h2, since_of (b1.alloc b1.size _)⟩
theorem SgAt.next (h : SgAt w c a b r m W) (k : Below W.heap.size W W') : SgAt w c a b r m W' := ⟨h.x.below k h.x.lt, h.o.below k h.o.lt, since_of (step_below h.s.below k)⟩
theorem SgAt.put (h : SgAt w c a b r m W) (m' : ByteArray) : SgAt w c a b r m' (W.setCell ⟨w.heap.size, 4, none⟩ (.string m')) :=
 ⟨h.x.set_ 4 _, h.o.far (p := ⟨w.heap.size, 4, none⟩) (by simp only; omega) _, since_of (h.s.below.setCell (Nat.le_refl _) _)⟩
theorem SgAt.c0 (h : SgAt w c a b r m W) : W.cell? ⟨w.heap.size, 0, none⟩ = some (.string c) := h.x.c 0 rfl
theorem SgAt.c1 (h : SgAt w c a b r m W) : W.cell? ⟨w.heap.size, 1, none⟩ = some (.int .i64 a) := h.x.c 1 rfl
theorem SgAt.c2 (h : SgAt w c a b r m W) : W.cell? ⟨w.heap.size, 2, none⟩ = some (.int .i64 b) := h.x.c 2 rfl
theorem SgAt.c3 (h : SgAt w c a b r m W) : W.cell? ⟨w.heap.size, 3, none⟩ = some (.string r) := h.x.c 3 rfl
theorem SgAt.c4 (h : SgAt w c a b r m W) : W.cell? ⟨w.heap.size, 4, none⟩ = some (.string m) := h.x.c 4 rfl
theorem SgAt.d0 (h : SgAt w c a b r m W) : W.cell? ⟨w.heap.size + 1, 0, none⟩ = some (.string ⟨#[]⟩) := h.o.c 0 rfl
theorem SgAt.d1 (h : SgAt w c a b r m W) : W.cell? ⟨w.heap.size + 1, 1, none⟩ = some (.int .i64 0) := h.o.c 1 rfl
theorem SgAt.d2 (h : SgAt w c a b r m W) : W.cell? ⟨w.heap.size + 1, 2, none⟩ = some (.int .i64 0) := h.o.c 2 rfl
theorem SgAt.d3 (h : SgAt w c a b r m W) : W.cell? ⟨w.heap.size + 1, 3, none⟩ = some (.string ⟨#[]⟩) := h.o.c 3 rfl
theorem SgAt.d4 (h : SgAt w c a b r m W) : W.cell? ⟨w.heap.size + 1, 4, none⟩ = some (.string ⟨#[]⟩) := h.o.c 4 rfl
theorem sg_done (h : SgAt w c a b r m W) (v0 v1 v2 v3 v4 : Value) :
  Blk (((((W.setCell ⟨w.heap.size + 1, 0, none⟩ v0).setCell ⟨w.heap.size + 1, 1, none⟩ v1).setCell ⟨w.heap.size + 1, 2, none⟩ v2).setCell ⟨w.heap.size + 1, 3, none⟩ v3).setCell ⟨w.heap.size + 1, 4, none⟩ v4) (w.heap.size + 1) 34 #[v0, v1, v2, v3, v4] ∧
  Since w (((((W.setCell ⟨w.heap.size + 1, 0, none⟩ v0).setCell ⟨w.heap.size + 1, 1, none⟩ v1).setCell ⟨w.heap.size + 1, 2, none⟩ v2).setCell ⟨w.heap.size + 1, 3, none⟩ v3).setCell ⟨w.heap.size + 1, 4, none⟩ v4) :=
 ⟨put5 h.o v0 v1 v2 v3 v4, since_put5 h.s (by omega) v0 v1 v2 v3 v4⟩
end
theorem rSign_this (key : ByteArray) (c : ByteArray) (a b : Int) (r m : ByteArray) (s : List UInt8) (f : Int) (q : List UInt8) (w : World)
  (K1 : Hid (∀ W, Calls qP 45 #[.agg #[.string c, .int .i64 a, .int .i64 b, .string r, .string m]] W fun e w' => e = .returned (.tuple #[.string (bs s), .int .i64 f]) ∧ Since W w'))
  (K2 : Hid (∀ W, Calls qP 46 #[.string key, .string (bs s)] W fun e w' => e = .returned (.string (bs q)) ∧ Below W.heap.size W w')) :
  Calls qP 14 #[.string key, .agg #[.string c, .int .i64 a, .int .i64 b, .string r, .string m]] w fun e w' => e = .returned (retHE (if f ≠ 0 then (Hdr.zero, f) else (⟨c, a, b, r, bs q⟩, 0))) ∧ Since w w' := by
 have H0 := qH (sg_start w c a b r m)
 have y0 := H0.out.c0
 have y1 := H0.out.c1
 have y2 := H0.out.c2
 have y3 := H0.out.c3
 have y4 := H0.out.c4
 go_enter Tryz.func14, Tryz.ntmps14
 go_wp2_with fail
 clear y0 y1 y2 y3 y4
 generalize ((w.alloc (.cells #[.string c, .int .i64 a, .int .i64 b, .string r, .string m] 34)).alloc (.cells #[.string ⟨#[]⟩, .int .i64 0, .int .i64 0, .string ⟨#[]⟩, .string ⟨#[]⟩] 34)) = W0 at *
 refine (K1.out _).mono ?_
 rintro e w1 ⟨rfl, q1⟩
 have H1 := qH (H0.out.next q1.below)
 clear H0 K1 q1
 have d0 := H1.out.d0
 have d1 := H1.out.d1
 have d2 := H1.out.d2
 have d3 := H1.out.d3
 have d4 := H1.out.d4
 have f0 := H1.out.o.frozen 0
 have f1 := H1.out.o.frozen 1
 have f2 := H1.out.o.frozen 2
 have f3 := H1.out.o.frozen 3
 have f4 := H1.out.o.frozen 4
 by_cases hf : f = 0
 ·subst hf
  have y4 := H1.out.c4
  have z4 := H1.out.x.frozen 4
  go_wp2_with fail
  refine (K2.out _).mono ?_
  rintro e w2 ⟨rfl, q2⟩
  have H2 := qH (H1.out.next q2)
  clear d0 d1 d2 d3 d4 f0 f1 f2 f3 f4 y4 z4 H1 K2 q2
  have y0 := H2.out.c0
  have y1 := H2.out.c1
  have y2 := H2.out.c2
  have y3 := H2.out.c3
  have y4 := H2.out.c4
  have z4 := H2.out.x.frozen 4
  have d0 := H2.out.d0
  have d1 := H2.out.d1
  have d2 := H2.out.d2
  have d3 := H2.out.d3
  have d4 := H2.out.d4
  have f0 := H2.out.o.frozen 0
  have f1 := H2.out.o.frozen 1
  have f2 := H2.out.o.frozen 2
  have f3 := H2.out.o.frozen 3
  have f4 := H2.out.o.frozen 4
  have D := qH (sg_done (H2.out.put (bs q)) (.string c) (.int .i64 a) (.int .i64 b) (.string r) (.string (bs q)))
  go_wp2
  have D1 := D.out.1
  refine bodyPost_ret (v := retHE (⟨c, a, b, r, bs q⟩, 0)) (by simp [results, Tryz.results14, go_sem, retHE, hdV, D1.c 0 rfl, D1.c 1 rfl, D1.c 2 rfl, D1.c 3 rfl, D1.c 4 rfl]) rfl ?_
  exact ⟨rfl, D.out.2⟩
 ·have hen : (f != 0) = true := by rw [bne_iff_ne]; exact hf
  have D := qH (sg_done H1.out (.string ⟨#[]⟩) (.int .i64 0) (.int .i64 0) (.string ⟨#[]⟩) (.string ⟨#[]⟩))
  go_wp2
  have D1 := D.out.1
  refine bodyPost_ret (v := retHE (Hdr.zero, f)) (by simp [results, Tryz.results14, go_sem, retHE, hdV, Hdr.zero, D1.c 0 rfl, D1.c 1 rfl, D1.c 2 rfl, D1.c 3 rfl, D1.c 4 rfl]) rfl ?_
  exact ⟨rfl, D.out.2⟩
theorem rSign (key : ByteArray) (h : Hdr) (w : World) (hk : key.size ≤ 1099511627776) :
  Calls qP 14 #[.string key, hdV h] w fun e w' => e = .returned (retHE (signOf key h)) ∧ Since w w' := by
 have hl := body_len h
 have K1 := qH (fun W => rBody h W)
 obtain ⟨⟨s, f⟩, eb⟩ : ∃ s, s = bodyOf h := ⟨_, rfl⟩
 unfold signOf
 rw [← eb] at K1 hl ⊢
 have K2 := qH (fun W => rmac key (bs s) W hk (by rw [bs_size]; simp only at hl; omega))
 simp only [bs_data] at K2
 exact rSign_this key h.chain h.height h.time h.root h.mac s f _ w K1 K2
structure ErAt (w : World) (t : ByteArray) (e : Int) (c : ByteArray) (a b : Int) (r m : ByteArray) (W : World) : Prop where
 o : Blk W w.heap.size 34 #[.string ⟨#[]⟩, .int .i64 0, .int .i64 0, .string ⟨#[]⟩, .string ⟨#[]⟩]
 x : Blk W (w.heap.size + 1) 34 #[.string c, .int .i64 a, .int .i64 b, .string r, .string m]
 q : Blk W (w.heap.size + 1 + 1) 93 #[.string t, .int .i64 e]
 s : Since w W
section
variable {w W W' : World} {t t' c r m c' r' m' : ByteArray} {e e' a b a' b' : Int}
theorem er_start (w : World) (t : ByteArray) (e : Int) : ErAt w t e ⟨#[]⟩ 0 0 ⟨#[]⟩ ⟨#[]⟩ (((w.alloc (.cells #[.string ⟨#[]⟩, .int .i64 0, .int .i64 0, .string ⟨#[]⟩, .string ⟨#[]⟩] 34)).alloc (.cells #[.string ⟨#[]⟩, .int .i64 0, .int .i64 0, .string ⟨#[]⟩, .string ⟨#[]⟩] 34)).alloc (.cells #[.string t, .int .i64 e] 93)) := by
 have h1 := Blk.new w 34 #[.string ⟨#[]⟩, .int .i64 0, .int .i64 0, .string ⟨#[]⟩, .string ⟨#[]⟩]
 have b1 : Below w.heap.size w (w.alloc (.cells #[.string ⟨#[]⟩, .int .i64 0, .int .i64 0, .string ⟨#[]⟩, .string ⟨#[]⟩] 34)) := (Below.refl _ w).alloc (Nat.le_refl _) _
 have e1 : (w.alloc (.cells #[.string ⟨#[]⟩, .int .i64 0, .int .i64 0, .string ⟨#[]⟩, .string ⟨#[]⟩] 34)).heap.size = w.heap.size + 1 := by simp
 generalize w.alloc (.cells #[.string ⟨#[]⟩, .int .i64 0, .int .i64 0, .string ⟨#[]⟩, .string ⟨#[]⟩] 34) = W1 at *
 have h2 := Blk.new W1 34 #[.string ⟨#[]⟩, .int .i64 0, .int .i64 0, .string ⟨#[]⟩, .string ⟨#[]⟩]
 rw [e1] at h2
 have b2 : Below w.heap.size w (W1.alloc (.cells #[.string ⟨#[]⟩, .int .i64 0, .int .i64 0, .string ⟨#[]⟩, .string ⟨#[]⟩] 34)) := b1.alloc b1.size _
 have e2 : (W1.alloc (.cells #[.string ⟨#[]⟩, .int .i64 0, .int .i64 0, .string ⟨#[]⟩, .string ⟨#[]⟩] 34)).heap.size = w.heap.size + 1 + 1 := by simp [e1]
 have h1' := h1.alloc (.cells #[.string ⟨#[]⟩, .int .i64 0, .int .i64 0, .string ⟨#[]⟩, .string ⟨#[]⟩] 34)
 generalize W1.alloc (.cells #[.string ⟨#[]⟩, .int .i64 0, .int .i64 0, .string ⟨#[]⟩, .string ⟨#[]⟩] 34) = W2 at *
 have h3 := Blk.new W2 93 #[.string t, .int .i64 e]
 rw [e2] at h3
 exact ⟨h1'.alloc _, h2.alloc _, h3, since_of (b2.alloc b2.size _)⟩
theorem ErAt.next (h : ErAt w t e c a b r m W) (k : Below W.heap.size W W') : ErAt w t e c a b r m W' := ⟨h.o.below k h.o.lt, h.x.below k h.x.lt, h.q.below k h.q.lt, since_of (step_below h.s.below k)⟩
theorem ErAt.setR (h : ErAt w t e c a b r m W) (t' : ByteArray) (e' : Int) : ErAt w t' e' c a b r m ((W.setCell ⟨w.heap.size + 1 + 1, 0, none⟩ (.string t')).setCell ⟨w.heap.size + 1 + 1, 1, none⟩ (.int .i64 e')) :=
 ⟨(h.o.far (p := ⟨w.heap.size + 1 + 1, 0, none⟩) (by simp only; omega) _).far (p := ⟨w.heap.size + 1 + 1, 1, none⟩) (by simp only; omega) _, (h.x.far (p := ⟨w.heap.size + 1 + 1, 0, none⟩) (by simp only; omega) _).far (p := ⟨w.heap.size + 1 + 1, 1, none⟩) (by simp only; omega) _, (h.q.set_ 0 _).set_ 1 _, since_put (since_put h.s (by simp only; omega) _) (by simp only; omega) _⟩
theorem ErAt.setX (h : ErAt w t e c a b r m W) (i : Nat) (v : Value) (hx : (#[.string c, .int .i64 a, .int .i64 b, .string r, .string m] : Array Value).setIfInBounds i v = #[.string c', .int .i64 a', .int .i64 b', .string r', .string m']) :
  ErAt w t e c' a' b' r' m' (W.setCell ⟨w.heap.size + 1, i, none⟩ v) := by
 have hxs := h.x.set_ i v
 rw [hx] at hxs
 exact ⟨h.o.far (p := ⟨w.heap.size + 1, i, none⟩) (by simp only; omega) _, hxs, h.q.far (p := ⟨w.heap.size + 1, i, none⟩) (by simp only; omega) _, since_put h.s (by simp only; omega) _⟩
theorem er_done (h : ErAt w t e c a b r m W) (v0 v1 v2 v3 v4 : Value) :
  Blk (((((W.setCell ⟨w.heap.size, 0, none⟩ v0).setCell ⟨w.heap.size, 1, none⟩ v1).setCell ⟨w.heap.size, 2, none⟩ v2).setCell ⟨w.heap.size, 3, none⟩ v3).setCell ⟨w.heap.size, 4, none⟩ v4) w.heap.size 34 #[v0, v1, v2, v3, v4] ∧
  Since w (((((W.setCell ⟨w.heap.size, 0, none⟩ v0).setCell ⟨w.heap.size, 1, none⟩ v1).setCell ⟨w.heap.size, 2, none⟩ v2).setCell ⟨w.heap.size, 3, none⟩ v3).setCell ⟨w.heap.size, 4, none⟩ v4) :=
 ⟨put5 h.o v0 v1 v2 v3 v4, since_put5 h.s (Nat.le_refl _) v0 v1 v2 v3 v4⟩
theorem ErAt.c0 (h : ErAt w t e c a b r m W) : W.cell? ⟨w.heap.size + 1, 0, none⟩ = some (.string c) := h.x.c 0 rfl
theorem ErAt.c1 (h : ErAt w t e c a b r m W) : W.cell? ⟨w.heap.size + 1, 1, none⟩ = some (.int .i64 a) := h.x.c 1 rfl
theorem ErAt.c2 (h : ErAt w t e c a b r m W) : W.cell? ⟨w.heap.size + 1, 2, none⟩ = some (.int .i64 b) := h.x.c 2 rfl
theorem ErAt.c3 (h : ErAt w t e c a b r m W) : W.cell? ⟨w.heap.size + 1, 3, none⟩ = some (.string r) := h.x.c 3 rfl
theorem ErAt.c4 (h : ErAt w t e c a b r m W) : W.cell? ⟨w.heap.size + 1, 4, none⟩ = some (.string m) := h.x.c 4 rfl
theorem ErAt.d0 (h : ErAt w t e c a b r m W) : W.cell? ⟨w.heap.size, 0, none⟩ = some (.string ⟨#[]⟩) := h.o.c 0 rfl
theorem ErAt.d1 (h : ErAt w t e c a b r m W) : W.cell? ⟨w.heap.size, 1, none⟩ = some (.int .i64 0) := h.o.c 1 rfl
theorem ErAt.d2 (h : ErAt w t e c a b r m W) : W.cell? ⟨w.heap.size, 2, none⟩ = some (.int .i64 0) := h.o.c 2 rfl
theorem ErAt.d3 (h : ErAt w t e c a b r m W) : W.cell? ⟨w.heap.size, 3, none⟩ = some (.string ⟨#[]⟩) := h.o.c 3 rfl
theorem ErAt.d4 (h : ErAt w t e c a b r m W) : W.cell? ⟨w.heap.size, 4, none⟩ = some (.string ⟨#[]⟩) := h.o.c 4 rfl
theorem ErAt.q0 (h : ErAt w t e c a b r m W) : W.cell? ⟨w.heap.size + 1 + 1, 0, none⟩ = some (.string t) := h.q.c 0 rfl
theorem ErAt.q1 (h : ErAt w t e c a b r m W) : W.cell? ⟨w.heap.size + 1 + 1, 1, none⟩ = some (.int .i64 e) := h.q.c 1 rfl
end
def Rd (f : FuncId) (s : ByteArray) (e : Int) (s' : ByteArray) (e' : Int) (v : Value) : Prop :=
 ∀ t : ByteArray, (e = 0 → t = s) → t.size ≤ 9223372036854775807 → ∀ W, Calls qP f #[.agg #[.string t, .int .i64 e]] W fun en w' => ∃ t', en = .returned (.tuple #[.agg #[.string t', .int .i64 e'], v]) ∧ (e' = 0 → t' = s') ∧ t'.size ≤ 9223372036854775807 ∧ Below W.heap.size W w'
theorem rd_text (s : ByteArray) (e : Int) : Rd 40 s e (stText s e).1.1 (stText s e).1.2 (.string (stText s e).2) := by
 intro t h1 h2 W
 by_cases he : e = 0
 ·have := h1 he
  subst this
  exact refText t e W h2
 ·have k := refText t e W h2
  rw [stText_err t he] at k
  rw [stText_err s he]
  refine k.mono ?_
  rintro en w' ⟨s', q1, q2, q3, q4⟩
  exact ⟨s', q1, fun h => absurd h he, q3, q4⟩
theorem rd_num (s : ByteArray) (e : Int) : Rd 41 s e (stNum s e).1.1 (stNum s e).1.2 (.int .i64 (stNum s e).2) := by
 intro t h1 h2 W
 have k := refNum t e W h2
 have hf := (stNum_facts t e).2.1
 by_cases he : e = 0
 ·have := h1 he
  subst this
  refine k.mono ?_
  rintro en w' ⟨q1, q2⟩
  exact ⟨_, q1, fun _ => rfl, by omega, q2⟩
 ·rw [stNum_err t he] at k
  rw [stNum_err s he]
  refine k.mono ?_
  rintro en w' ⟨q1, q2⟩
  exact ⟨t, q1, fun h => absurd h he, h2, q2⟩
theorem rd_done (s : ByteArray) (e : Int) (t : ByteArray) (h : e = 0 → t = s) (W : World) :
  Calls qP 42 #[.agg #[.string t, .int .i64 e]] W fun en w' => en = .returned (.int .i64 (stDone s e)) ∧ Below W.heap.size W w' := by
 have k := refDone t e W
 by_cases he : e = 0
 ·have := h he
  subst this
  exact k
 ·have e1 : stDone t e = stDone s e := by unfold stDone; rw [if_pos he, if_pos he]
  rw [e1] at k
  exact k
theorem rHRead_this (s s1 s2 s3 s4 s5 : ByteArray) (e1 e2 e3 e4 e5 : Int) (c : ByteArray) (a b : Nat) (r m : ByteArray) (d : Int) (w : World) (hs : s.size ≤ 9223372036854775807)
  (N1 : Hid (Rd 40 s 0 s1 e1 (.string c)))
  (N2 : Hid (Rd 41 s1 e1 s2 e2 (.int .i64 a)))
  (N3 : Hid (Rd 41 s2 e2 s3 e3 (.int .i64 b)))
  (N4 : Hid (Rd 40 s3 e3 s4 e4 (.string r)))
  (N5 : Hid (Rd 40 s4 e4 s5 e5 (.string m)))
  (N6 : Hid (∀ t : ByteArray, (e5 = 0 → t = s5) → ∀ W, Calls qP 42 #[.agg #[.string t, .int .i64 e5]] W fun en w' => en = .returned (.int .i64 d) ∧ Below W.heap.size W w')) :
  Calls qP 127 #[.string s] w fun e w' => e = .returned (retHE (if d ≠ 0 then (Hdr.zero, d) else (⟨c, a, b, r, m⟩, 0))) ∧ Since w w' := by
 have H0 := qH (er_start w s 0)
 go_enter Tryz.func127, Tryz.ntmps127
 go_wp2_with fail
 generalize (((w.alloc (.cells #[.string ⟨#[]⟩, .int .i64 0, .int .i64 0, .string ⟨#[]⟩, .string ⟨#[]⟩] 34)).alloc (.cells #[.string ⟨#[]⟩, .int .i64 0, .int .i64 0, .string ⟨#[]⟩, .string ⟨#[]⟩] 34)).alloc (.cells #[.string s, .int .i64 0] 93)) = W0 at *
 refine (N1.out _ (fun _ => rfl) hs _).mono ?_
 rintro e w1 ⟨t1, rfl, k1, z1, q1⟩
 have H1 := qH (H0.out.next q1)
 have a0 := H1.out.q0
 have a1 := H1.out.q1
 have a2 := H1.out.q.frozen 0
 have a3 := H1.out.q.frozen 1
 have b0 := H1.out.c0
 have b1 := H1.out.x.frozen 0
 clear N1 H0 q1
 go_wp2_with fail
 have G1 := qH ((H1.out.setR t1 e1).setX (c' := c) (a' := 0) (b' := 0) (r' := ⟨#[]⟩) (m' := ⟨#[]⟩) 0 (.string c) rfl)
 clear a0 a1 a2 a3 b0 b1 H1
 generalize (((w1.setCell ⟨w.heap.size + 1 + 1, 0, none⟩ (.string t1)).setCell ⟨w.heap.size + 1 + 1, 1, none⟩ (.int .i64 e1)).setCell ⟨w.heap.size + 1, 0, none⟩ (.string c)) = W1 at *
 have H1 := G1
 clear G1
 refine (N2.out t1 k1 z1 _).mono ?_
 rintro e w2 ⟨t2, rfl, k2, z2, q2⟩
 have H2 := qH (H1.out.next q2)
 have a0 := H2.out.q0
 have a1 := H2.out.q1
 have a2 := H2.out.q.frozen 0
 have a3 := H2.out.q.frozen 1
 have b0 := H2.out.c1
 have b1 := H2.out.x.frozen 1
 clear N2 H1 q2
 go_wp2_with fail
 have G2 := qH ((H2.out.setR t2 e2).setX (c' := c) (a' := a) (b' := 0) (r' := ⟨#[]⟩) (m' := ⟨#[]⟩) 1 (.int .i64 a) rfl)
 clear a0 a1 a2 a3 b0 b1 H2
 generalize (((w2.setCell ⟨w.heap.size + 1 + 1, 0, none⟩ (.string t2)).setCell ⟨w.heap.size + 1 + 1, 1, none⟩ (.int .i64 e2)).setCell ⟨w.heap.size + 1, 1, none⟩ (.int .i64 a)) = W2 at *
 have H2 := G2
 clear G2
 refine (N3.out t2 k2 z2 _).mono ?_
 rintro e w3 ⟨t3, rfl, k3, z3, q3⟩
 have H3 := qH (H2.out.next q3)
 have a0 := H3.out.q0
 have a1 := H3.out.q1
 have a2 := H3.out.q.frozen 0
 have a3 := H3.out.q.frozen 1
 have b0 := H3.out.c2
 have b1 := H3.out.x.frozen 2
 clear N3 H2 q3
 go_wp2_with fail
 have G3 := qH ((H3.out.setR t3 e3).setX (c' := c) (a' := a) (b' := b) (r' := ⟨#[]⟩) (m' := ⟨#[]⟩) 2 (.int .i64 b) rfl)
 clear a0 a1 a2 a3 b0 b1 H3
 generalize (((w3.setCell ⟨w.heap.size + 1 + 1, 0, none⟩ (.string t3)).setCell ⟨w.heap.size + 1 + 1, 1, none⟩ (.int .i64 e3)).setCell ⟨w.heap.size + 1, 2, none⟩ (.int .i64 b)) = W3 at *
 have H3 := G3
 clear G3
 refine (N4.out t3 k3 z3 _).mono ?_
 rintro e w4 ⟨t4, rfl, k4, z4, q4⟩
 have H4 := qH (H3.out.next q4)
 have a0 := H4.out.q0
 have a1 := H4.out.q1
 have a2 := H4.out.q.frozen 0
 have a3 := H4.out.q.frozen 1
 have b0 := H4.out.c3
 have b1 := H4.out.x.frozen 3
 clear N4 H3 q4
 go_wp2_with fail
 have G4 := qH ((H4.out.setR t4 e4).setX (c' := c) (a' := a) (b' := b) (r' := r) (m' := ⟨#[]⟩) 3 (.string r) rfl)
 clear a0 a1 a2 a3 b0 b1 H4
 generalize (((w4.setCell ⟨w.heap.size + 1 + 1, 0, none⟩ (.string t4)).setCell ⟨w.heap.size + 1 + 1, 1, none⟩ (.int .i64 e4)).setCell ⟨w.heap.size + 1, 3, none⟩ (.string r)) = W4 at *
 have H4 := G4
 clear G4
 refine (N5.out t4 k4 z4 _).mono ?_
 rintro e w5 ⟨t5, rfl, k5, z5, q5⟩
 have H5 := qH (H4.out.next q5)
 have a0 := H5.out.q0
 have a1 := H5.out.q1
 have a2 := H5.out.q.frozen 0
 have a3 := H5.out.q.frozen 1
 have b0 := H5.out.c4
 have b1 := H5.out.x.frozen 4
 clear N5 H4 q5
 go_wp2_with fail
 have G5 := qH ((H5.out.setR t5 e5).setX (c' := c) (a' := a) (b' := b) (r' := r) (m' := m) 4 (.string m) rfl)
 clear a0 a1 a2 a3 b0 b1 H5
 generalize (((w5.setCell ⟨w.heap.size + 1 + 1, 0, none⟩ (.string t5)).setCell ⟨w.heap.size + 1 + 1, 1, none⟩ (.int .i64 e5)).setCell ⟨w.heap.size + 1, 4, none⟩ (.string m)) = W5 at *
 have H5 := G5
 clear G5
 refine (N6.out t5 k5 _).mono ?_
 rintro e w6 ⟨rfl, q6⟩
 have H6 := qH (H5.out.next q6)
 clear N6 H5 q6
 have d0 := H6.out.d0
 have d1 := H6.out.d1
 have d2 := H6.out.d2
 have d3 := H6.out.d3
 have d4 := H6.out.d4
 have f0 := H6.out.o.frozen 0
 have f1 := H6.out.o.frozen 1
 have f2 := H6.out.o.frozen 2
 have f3 := H6.out.o.frozen 3
 have f4 := H6.out.o.frozen 4
 by_cases hf : d = 0
 ·subst hf
  have y0 := H6.out.c0
  have y1 := H6.out.c1
  have y2 := H6.out.c2
  have y3 := H6.out.c3
  have y4 := H6.out.c4
  have D := qH (er_done H6.out (.string c) (.int .i64 a) (.int .i64 b) (.string r) (.string m))
  go_wp2
  have D1 := D.out.1
  refine bodyPost_ret (v := retHE (⟨c, a, b, r, m⟩, 0)) (by simp [results, Tryz.results127, go_sem, retHE, hdV, D1.c 0 rfl, D1.c 1 rfl, D1.c 2 rfl, D1.c 3 rfl, D1.c 4 rfl]) rfl ?_
  exact ⟨rfl, D.out.2⟩
 ·have hen : (d != 0) = true := by rw [bne_iff_ne]; exact hf
  have D := qH (er_done H6.out (.string ⟨#[]⟩) (.int .i64 0) (.int .i64 0) (.string ⟨#[]⟩) (.string ⟨#[]⟩))
  go_wp2
  have D1 := D.out.1
  refine bodyPost_ret (v := retHE (Hdr.zero, d)) (by simp [results, Tryz.results127, go_sem, retHE, hdV, Hdr.zero, D1.c 0 rfl, D1.c 1 rfl, D1.c 2 rfl, D1.c 3 rfl, D1.c 4 rfl]) rfl ?_
  exact ⟨rfl, D.out.2⟩
theorem rHRead (s : ByteArray) (w : World) (hs : s.size ≤ 9223372036854775807) :
  Calls qP 127 #[.string s] w fun e w' => e = .returned (retHE (rdHd s)) ∧ Since w w' := by
 have h := rHRead_this s _ _ _ _ _ _ _ _ _ _ _ _ _ _ _ _ w hs (qH (rd_text s 0)) (qH (rd_num _ _)) (qH (rd_num _ _)) (qH (rd_text _ _)) (qH (rd_text _ _)) (qH (fun t k W => rd_done _ _ t k W))
 exact h
theorem rValue_this (c k : ByteArray) (h : Int) (f : Bool) (s1 s2 s3 s4 : List UInt8) (w : World) (l1 : s1.length ≤ 100000) (l2 : s2.length ≤ 100000) (l3 : s3.length ≤ 100000) (l4 : s4.length ≤ 100000)
  (K1 : Hid (∀ W, Calls qP 79 #[.string c] W fun e w' => e = .returned (.string (bs s1)) ∧ Since W w'))
  (K2 : Hid (∀ W, Calls qP 79 #[.string k] W fun e w' => e = .returned (.string (bs s2)) ∧ Since W w'))
  (K3 : Hid (∀ W, Calls qP 78 #[.int .i64 h] W fun e w' => e = .returned (.string (bs s3)) ∧ Since W w'))
  (K4 : Hid (∀ W, Calls qP 78 #[.int .i64 (fz f)] W fun e w' => e = .returned (.string (bs s4)) ∧ Since W w')) :
  Calls qP 72 #[.agg #[.string c, .string k, .int .i64 h, .bool f]] w fun e w' => e = .returned (.string (bs (((s1 ++ s2) ++ s3) ++ s4))) ∧ Since w w' := by
 have a1 : ∀ W, (Op.stringOp .add (bs s1) (bs s2)).run qP W = .ok (.string (bs (s1 ++ s2))) W := fun W => run_add W s1 s2 (by omega)
 have a2 : ∀ W, (Op.stringOp .add (bs (s1 ++ s2)) (bs s3)).run qP W = .ok (.string (bs ((s1 ++ s2) ++ s3))) W := fun W => run_add W _ _ (by rw [List.length_append]; omega)
 have a3 : ∀ W, (Op.stringOp .add (bs ((s1 ++ s2) ++ s3)) (bs s4)).run qP W = .ok (.string (bs (((s1 ++ s2) ++ s3) ++ s4))) W := fun W => run_add W _ _ (by rw [List.length_append, List.length_append]; omega)
 generalize ((s1 ++ s2) ++ s3) ++ s4 = x3 at *
 generalize (s1 ++ s2) ++ s3 = x2 at *
 generalize s1 ++ s2 = x1 at *
 clear l1 l2 l3 l4
 have HB := qH (Blk.new w 41 #[.string c, .string k, .int .i64 h, .bool f])
 have HS := qH (since_alloc (Since.refl w) (.cells #[.string c, .string k, .int .i64 h, .bool f] 41))
 have y3 : (w.alloc (.cells #[.string c, .string k, .int .i64 h, .bool f] 41)).cell? ⟨w.heap.size, 3, none⟩ = some (.bool f) := HB.out.c 3 rfl
 have k0 : (w.alloc (.cells #[.string c, .string k, .int .i64 h, .bool f] 41)).cell? ⟨w.heap.size, 0, none⟩ = some (.string c) := HB.out.c 0 rfl
 have k1 : (w.alloc (.cells #[.string c, .string k, .int .i64 h, .bool f] 41)).cell? ⟨w.heap.size, 1, none⟩ = some (.string k) := HB.out.c 1 rfl
 have k2 : (w.alloc (.cells #[.string c, .string k, .int .i64 h, .bool f] 41)).cell? ⟨w.heap.size, 2, none⟩ = some (.int .i64 h) := HB.out.c 2 rfl
 cases f
 all_goals
  unfold fz at K4
  simp only [Bool.false_eq_true, if_false, if_true] at K4
  go_enter Tryz.func72, Tryz.ntmps72
  go_wp2
  generalize w.alloc (.cells #[.string c, .string k, .int .i64 h, .bool _] 41) = V at *
  have r0 := Since.refl V
  clear y3 HB
  go_region_held3 (fun W => W.cell? ⟨w.heap.size, 0, none⟩ = some (.string c) ∧ W.cell? ⟨w.heap.size, 1, none⟩ = some (.string k) ∧ W.cell? ⟨w.heap.size, 2, none⟩ = some (.int .i64 h))
   (first | exact ⟨s3.cell k0, s3.cell k1, s3.cell k2⟩ | exact ⟨s4.cell k0, s4.cell k1, s4.cell k2⟩ | exact ⟨s5.cell k0, s5.cell k1, s5.cell k2⟩ | exact ⟨s6.cell k0, s6.cell k1, s6.cell k2⟩ | go_keep)
   (first
     | (go_at_call 79; refine (K1.out _).mono ?_; clear K1; rintro en w3 ⟨rfl, q⟩; have s3 := since_two r0 q; clear q)
     | (go_at_call 79; refine (K2.out _).mono ?_; clear K2; rintro en w4 ⟨rfl, q⟩; have s4 := since_two s3 q; clear q)
     | (go_at_call 78; refine (K3.out _).mono ?_; clear K3; rintro en w5 ⟨rfl, q⟩; have s5 := since_two s4 q; clear q)
     | (go_at_call 78; refine (K4.out _).mono ?_; clear K4; rintro en w6 ⟨rfl, q⟩; have s6 := since_two s5 q; clear q))
 all_goals go_wp2
 all_goals go_ret
 all_goals exact ⟨rfl, since_two HS.out s6⟩
theorem rValue (c : Clt) (w : World) : Calls qP 72 #[cltV c] w fun e w' => e = .returned (.string (bs (cltTx c))) ∧ Since w w' :=
 rValue_this c.chain c.key c.height c.frozen _ _ _ _ w (by have := encText_len c.chain; omega) (by have := encText_len c.key; omega) (by have := encNum_len c.height; omega) (by have := encNum_len (fz c.frozen); omega) (qH fun W => rText14 _ W) (qH fun W => rText14 _ W) (qH fun W => rNum14 _ W) (qH fun W => rNum14 _ W)
theorem rCount_this (s : Value) (key v s1 : ByteArray) (g : Bool) (e1 : Int) (n : Nat) (d : Int) (w : World) (hv : v.size ≤ 9223372036854775807)
  (G : Hid (Calls qP 17 #[s, .string key] w fun e w' => e = .returned (.tuple #[.string v, .bool g]) ∧ w' = w))
  (N1 : Hid (Rd 41 v 0 s1 e1 (.int .i64 n)))
  (N2 : Hid (∀ t : ByteArray, (e1 = 0 → t = s1) → ∀ W, Calls qP 42 #[.agg #[.string t, .int .i64 e1]] W fun en w' => en = .returned (.int .i64 d) ∧ Below W.heap.size W w')) (hs : ∃ A m c, s = .slice A m c) :
  Calls qP 118 #[s, .string key] w fun e w' => e = .returned (.int .i64 (if d ≠ 0 then 0 else (n : Int))) ∧ Since w w' := by
 obtain ⟨A, m, c, rfl⟩ := hs
 obtain ⟨r, hr⟩ : ∃ r, r = (if d ≠ 0 then 0 else (n : Int)) := ⟨_, rfl⟩
 rw [← hr]
 have HR := qH hr
 clear hr
 have HB := qH (Blk.new w 93 #[.string v, .int .i64 0])
 have HS := qH (since_alloc (Since.refl w) (.cells #[.string v, .int .i64 0] 93))
 go_enter Tryz.func118, Tryz.ntmps118
 go_wp2_with fail
 refine G.out.mono ?_
 rintro e w1 ⟨rfl, rfl⟩
 clear G
 have y0 : (w1.alloc (.cells #[.string v, .int .i64 0] 93)).cell? ⟨w1.heap.size, 0, none⟩ = some (.string v) := HB.out.c 0 rfl
 have y1 : (w1.alloc (.cells #[.string v, .int .i64 0] 93)).cell? ⟨w1.heap.size, 1, none⟩ = some (.int .i64 0) := HB.out.c 1 rfl
 go_wp2_with fail
 clear y0 y1
 refine (N1.out v (fun _ => rfl) hv _).mono ?_
 rintro e w2 ⟨t, rfl, k, z, q⟩
 have HB2 := qH (HB.out.next q)
 have HS2 := qH (since_of (step_below HS.out.below q))
 clear HB HS N1 q z
 have f0 := HB2.out.frozen 0
 have f1 := HB2.out.frozen 1
 have c0 : w2.cell? ⟨w1.heap.size, 0, none⟩ = some (.string v) := HB2.out.c 0 rfl
 have c1 : w2.cell? ⟨w1.heap.size, 1, none⟩ = some (.int .i64 0) := HB2.out.c 1 rfl
 have HB3 := qH ((HB2.out.set_ 0 (.string t)).set_ 1 (.int .i64 e1))
 have HS3 := qH (since_put (since_put HS2.out (p := ⟨w1.heap.size, 0, none⟩) (Nat.le_refl _) (.string t)) (p := ⟨w1.heap.size, 1, none⟩) (Nat.le_refl _) (.int .i64 e1))
 have z0 : ((w2.setCell ⟨w1.heap.size, 0, none⟩ (.string t)).setCell ⟨w1.heap.size, 1, none⟩ (.int .i64 e1)).cell? ⟨w1.heap.size, 0, none⟩ = some (.string t) := HB3.out.c 0 rfl
 have z1 : ((w2.setCell ⟨w1.heap.size, 0, none⟩ (.string t)).setCell ⟨w1.heap.size, 1, none⟩ (.int .i64 e1)).cell? ⟨w1.heap.size, 1, none⟩ = some (.int .i64 e1) := HB3.out.c 1 rfl
 clear HB2 HS2 HB3
 go_wp2_with fail
 refine (N2.out t k _).mono ?_
 rintro e w3 ⟨rfl, q⟩
 have HS4 := qH (since_of (step_below HS3.out.below q))
 clear f0 f1 c0 c1 z0 z1 HS3 N2 q
 by_cases hd : d = 0
 ·subst hd
  have h := HR.out
  rw [if_neg (by simp)] at h
  subst h
  clear HR
  go_wp2
  go_ret
  exact ⟨rfl, HS4.out⟩
 ·have hb : (d != 0) = true := by rw [bne_iff_ne]; exact hd
  have h := HR.out
  rw [if_pos hd] at h
  subst h
  clear HR
  go_wp2
  go_ret
  exact ⟨rfl, HS4.out⟩
theorem rCount (s : Value) (l : List KV) (key : ByteArray) (w : World) (hP : Prs w s l) (hu : Up l) (hz : l.length ≤ 1000000000) (hv : ((lget l key).getD ⟨#[]⟩).size ≤ 9223372036854775807) :
  Calls qP 118 #[s, .string key] w fun e w' => e = .returned (.int .i64 (rdCnt ((lget l key).getD ⟨#[]⟩))) ∧ Since w w' := by
 have h := rCount_this s key _ _ _ _ _ _ w hv (qH (rGet s l key w hP hu hz)) (qH (rd_num _ _)) (qH (fun t k W => rd_done _ _ t k W)) (by obtain ⟨A, c, rfl, _⟩ := hP; exact ⟨_, _, _, rfl⟩)
 refine h.mono fun e w' ⟨he, hs⟩ => ⟨?_, hs⟩
 rw [he]
 unfold rdCnt
 split <;> rfl
def retCE (r : Clt × Int) : Value := .tuple #[cltV r.1, .int .i64 r.2]
def retNE (r : Sn × Int) : Value := .tuple #[snV r.1, .int .i64 r.2]
theorem rGet14_none (A : Option Addr) (m c : Nat) (id key : ByteArray) (w : World)
  (KEY : Hid (∀ W b, Since w W → Blk W b 9 #[.string ⟨#[99, 108, 105, 101, 110, 116]⟩, .string id] → Calls qP 39 #[.slice (some ⟨b, 0, none⟩) 2 2] W fun e w' => e = .returned (.string key) ∧ Since W w'))
  (G : Hid (∀ W, Since w W → Calls qP 17 #[.slice A m c, .string key] W fun e w' => e = .returned (.tuple #[.string ⟨#[]⟩, .bool false]) ∧ w' = W)) :
  Calls qP 12 #[.slice A m c, .string id] w fun e w' => e = .returned (retCE (Clt.zero, 8)) ∧ Since w w' := by
 have O0 := qH (Blk.new w 41 #[.string ⟨#[]⟩, .string ⟨#[]⟩, .int .i64 0, .bool false])
 have S0 := qH (since_alloc (Since.refl w) (.cells #[.string ⟨#[]⟩, .string ⟨#[]⟩, .int .i64 0, .bool false] 41))
 have z0 : (w.alloc (.cells #[.string ⟨#[]⟩, .string ⟨#[]⟩, .int .i64 0, .bool false] 41)).heap.size = w.heap.size + 1 := by simp
 have K1 := qH (Blk.new (w.alloc (.cells #[.string ⟨#[]⟩, .string ⟨#[]⟩, .int .i64 0, .bool false] 41)) 9 #[.string ⟨#[99, 108, 105, 101, 110, 116]⟩, .string id])
 have O1 := qH (O0.out.alloc (.cells #[.string ⟨#[99, 108, 105, 101, 110, 116]⟩, .string id] 9))
 have S1 := qH (since_alloc S0.out (.cells #[.string ⟨#[99, 108, 105, 101, 110, 116]⟩, .string id] 9))
 rw [z0] at K1
 go_enter Tryz.func12, Tryz.ntmps12
 go_wp2_with fail
 refine (KEY.out _ _ S1.out K1.out).mono ?_
 rintro e w1 ⟨rfl, q⟩
 have O2 := qH (O1.out.next q.below)
 have S2 := qH (since_two S1.out q)
 clear KEY K1 O0 O1 S0 S1 q z0
 go_wp2_with fail
 refine (G.out _ S2.out).mono ?_
 rintro e w2 ⟨rfl, rfl⟩
 clear G
 have f0 := O2.out.frozen 0
 have f1 := O2.out.frozen 1
 have f2 := O2.out.frozen 2
 have f3 := O2.out.frozen 3
 have d0 : w2.cell? ⟨w.heap.size, 0, none⟩ = some (.string ⟨#[]⟩) := O2.out.c 0 rfl
 have d1 : w2.cell? ⟨w.heap.size, 1, none⟩ = some (.string ⟨#[]⟩) := O2.out.c 1 rfl
 have d2 : w2.cell? ⟨w.heap.size, 2, none⟩ = some (.int .i64 0) := O2.out.c 2 rfl
 have d3 : w2.cell? ⟨w.heap.size, 3, none⟩ = some (.bool false) := O2.out.c 3 rfl
 have D := qH (And.intro (put4 O2.out (.string ⟨#[]⟩) (.string ⟨#[]⟩) (.int .i64 0) (.bool false)) (since_put4 S2.out (Nat.le_refl _) (.string ⟨#[]⟩) (.string ⟨#[]⟩) (.int .i64 0) (.bool false)))
 clear O2 S2
 go_wp2
 have D1 := D.out.1
 refine bodyPost_ret (v := retCE (Clt.zero, 8)) (by simp [results, Tryz.results12, go_sem, retCE, cltV, Clt.zero, D1.c 0 rfl, D1.c 1 rfl, D1.c 2 rfl, D1.c 3 rfl]) rfl ?_
 exact ⟨rfl, D.out.2⟩
theorem rGet14_some (A : Option Addr) (m c : Nat) (id key v s1 s2 s3 s4 : ByteArray) (e1 e2 e3 e4 : Int) (x1 x2 : ByteArray) (x3 x4 : Nat) (d : Int) (w : World) (hv : v.size ≤ 9223372036854775807)
  (KEY : Hid (∀ W b, Since w W → Blk W b 9 #[.string ⟨#[99, 108, 105, 101, 110, 116]⟩, .string id] → Calls qP 39 #[.slice (some ⟨b, 0, none⟩) 2 2] W fun e w' => e = .returned (.string key) ∧ Since W w'))
  (G : Hid (∀ W, Since w W → Calls qP 17 #[.slice A m c, .string key] W fun e w' => e = .returned (.tuple #[.string v, .bool true]) ∧ w' = W))
  (N1 : Hid (Rd 40 v 0 s1 e1 (.string x1)))
  (N2 : Hid (Rd 40 s1 e1 s2 e2 (.string x2)))
  (N3 : Hid (Rd 41 s2 e2 s3 e3 (.int .i64 x3)))
  (N4 : Hid (Rd 41 s3 e3 s4 e4 (.int .i64 x4)))
  (N5 : Hid (∀ t : ByteArray, (e4 = 0 → t = s4) → ∀ W, Calls qP 42 #[.agg #[.string t, .int .i64 e4]] W fun en w' => en = .returned (.int .i64 d) ∧ Below W.heap.size W w')) :
  Calls qP 12 #[.slice A m c, .string id] w fun e w' => e = .returned (retCE (if d ≠ 0 ∨ 1 < x4 then (Clt.zero, 8) else (⟨x1, x2, x3, decide (x4 = 1)⟩, 0))) ∧ Since w w' := by
 obtain ⟨ans, hr⟩ : ∃ x : Clt × Int, x = (if d ≠ 0 ∨ 1 < x4 then (Clt.zero, 8) else (⟨x1, x2, x3, decide (x4 = 1)⟩, 0)) := ⟨_, rfl⟩
 rw [← hr]
 have HR := qH hr
 clear hr
 have O0 := qH (Blk.new w 41 #[.string ⟨#[]⟩, .string ⟨#[]⟩, .int .i64 0, .bool false])
 have S0 := qH (since_alloc (Since.refl w) (.cells #[.string ⟨#[]⟩, .string ⟨#[]⟩, .int .i64 0, .bool false] 41))
 have z0 : (w.alloc (.cells #[.string ⟨#[]⟩, .string ⟨#[]⟩, .int .i64 0, .bool false] 41)).heap.size = w.heap.size + 1 := by simp
 have K1 := qH (Blk.new (w.alloc (.cells #[.string ⟨#[]⟩, .string ⟨#[]⟩, .int .i64 0, .bool false] 41)) 9 #[.string ⟨#[99, 108, 105, 101, 110, 116]⟩, .string id])
 have O1 := qH (O0.out.alloc (.cells #[.string ⟨#[99, 108, 105, 101, 110, 116]⟩, .string id] 9))
 have S1 := qH (since_alloc S0.out (.cells #[.string ⟨#[99, 108, 105, 101, 110, 116]⟩, .string id] 9))
 rw [z0] at K1
 go_enter Tryz.func12, Tryz.ntmps12
 go_wp2_with fail
 refine (KEY.out _ _ S1.out K1.out).mono ?_
 rintro e w1 ⟨rfl, q⟩
 have O2 := qH (O1.out.next q.below)
 have S2 := qH (since_two S1.out q)
 clear KEY K1 O0 O1 S0 S1 q z0
 go_wp2_with fail
 refine (G.out _ S2.out).mono ?_
 rintro e w2 ⟨rfl, rfl⟩
 clear G
 have lt0 := O2.out.lt
 have z1 : (w2.alloc (.cells #[.string ⟨#[]⟩, .string ⟨#[]⟩, .int .i64 0, .bool false] 41)).heap.size = w2.heap.size + 1 := by simp
 have Q3 := Blk.new (w2.alloc (.cells #[.string ⟨#[]⟩, .string ⟨#[]⟩, .int .i64 0, .bool false] 41)) 93 #[.string v, .int .i64 0]
 rw [z1] at Q3
 have H0 : Hid (LAt w w.heap.size w2.heap.size (w2.heap.size + 1) 41 41 #[.string ⟨#[]⟩, .string ⟨#[]⟩, .int .i64 0, .bool false] #[.string ⟨#[]⟩, .string ⟨#[]⟩, .int .i64 0, .bool false] v 0 ((w2.alloc (.cells #[.string ⟨#[]⟩, .string ⟨#[]⟩, .int .i64 0, .bool false] 41)).alloc (.cells #[.string v, .int .i64 0] 93))) := qH ⟨(O2.out.alloc _).alloc _, (Blk.new w2 41 #[.string ⟨#[]⟩, .string ⟨#[]⟩, .int .i64 0, .bool false]).alloc _, Q3, since_alloc (since_alloc S2.out _) _, by omega⟩
 clear O2 S2 Q3 z1
 have y0 : ((w2.alloc (.cells #[.string ⟨#[]⟩, .string ⟨#[]⟩, .int .i64 0, .bool false] 41)).alloc (.cells #[.string v, .int .i64 0] 93)).cell? ⟨w2.heap.size + 1, 0, none⟩ = some (.string v) := H0.out.q0
 have y1 : ((w2.alloc (.cells #[.string ⟨#[]⟩, .string ⟨#[]⟩, .int .i64 0, .bool false] 41)).alloc (.cells #[.string v, .int .i64 0] 93)).cell? ⟨w2.heap.size + 1, 1, none⟩ = some (.int .i64 0) := H0.out.q1
 go_wp2_with fail
 clear y0 y1
 generalize ((w2.alloc (.cells #[.string ⟨#[]⟩, .string ⟨#[]⟩, .int .i64 0, .bool false] 41)).alloc (.cells #[.string v, .int .i64 0] 93)) = W0 at *
 generalize hgr : w2.heap.size + 1 = gr at *
 generalize w2.heap.size = gx at *
 refine (N1.out v (fun _ => rfl) hv _).mono ?_
 rintro e u1 ⟨t1, rfl, k1, z1, q⟩
 have H1 := qH (H0.out.next q)
 clear N1 H0 q
 have a0 := H1.out.q0
 have a1 := H1.out.q1
 have a2 := H1.out.q.frozen 0
 have a3 := H1.out.q.frozen 1
 have G1 := qH (H1.out.setR t1 e1)
 have a4 := G1.out.q0
 have a5 := G1.out.q1
 have b1 := G1.out.x.frozen 0
 have b0 := G1.out.xcell 0 (v := .string ⟨#[]⟩) rfl
 have J1 := qH (G1.out.setX 0 (.string x1))
 have a6 := J1.out.q0
 have a7 := J1.out.q1
 go_wp2_with fail
 clear a0 a1 a2 a3 a4 a5 a6 a7 b0 b1 G1 H1
 generalize (((u1.setCell ⟨gr, 0, none⟩ (.string t1)).setCell ⟨gr, 1, none⟩ (.int .i64 e1)).setCell ⟨gx, 0, none⟩ (.string x1)) = W1 at *
 have H1 := J1
 clear J1
 refine (N2.out t1 k1 z1 _).mono ?_
 rintro e u2 ⟨t2, rfl, k2, z2, q⟩
 have H2 := qH (H1.out.next q)
 clear N2 H1 q
 have a0 := H2.out.q0
 have a1 := H2.out.q1
 have a2 := H2.out.q.frozen 0
 have a3 := H2.out.q.frozen 1
 have G2 := qH (H2.out.setR t2 e2)
 have a4 := G2.out.q0
 have a5 := G2.out.q1
 have b1 := G2.out.x.frozen 1
 have b0 := G2.out.xcell 1 (v := .string ⟨#[]⟩) rfl
 have J2 := qH (G2.out.setX 1 (.string x2))
 have a6 := J2.out.q0
 have a7 := J2.out.q1
 go_wp2_with fail
 clear a0 a1 a2 a3 a4 a5 a6 a7 b0 b1 G2 H2
 generalize (((u2.setCell ⟨gr, 0, none⟩ (.string t2)).setCell ⟨gr, 1, none⟩ (.int .i64 e2)).setCell ⟨gx, 1, none⟩ (.string x2)) = W2 at *
 have H2 := J2
 clear J2
 refine (N3.out t2 k2 z2 _).mono ?_
 rintro e u3 ⟨t3, rfl, k3, z3, q⟩
 have H3 := qH (H2.out.next q)
 clear N3 H2 q
 have a0 := H3.out.q0
 have a1 := H3.out.q1
 have a2 := H3.out.q.frozen 0
 have a3 := H3.out.q.frozen 1
 have G3 := qH (H3.out.setR t3 e3)
 have a4 := G3.out.q0
 have a5 := G3.out.q1
 have b1 := G3.out.x.frozen 2
 have b0 := G3.out.xcell 2 (v := .int .i64 0) rfl
 have J3 := qH (G3.out.setX 2 (.int .i64 x3))
 have a6 := J3.out.q0
 have a7 := J3.out.q1
 go_wp2_with fail
 clear a0 a1 a2 a3 a4 a5 a6 a7 b0 b1 G3 H3
 generalize (((u3.setCell ⟨gr, 0, none⟩ (.string t3)).setCell ⟨gr, 1, none⟩ (.int .i64 e3)).setCell ⟨gx, 2, none⟩ (.int .i64 x3)) = W3 at *
 have H3 := J3
 clear J3
 refine (N4.out t3 k3 z3 _).mono ?_
 rintro e u4 ⟨t4, rfl, k4, z4, q⟩
 have H4 := qH (H3.out.next q)
 clear N4 H3 q
 have a0 := H4.out.q0
 have a1 := H4.out.q1
 have a2 := H4.out.q.frozen 0
 have a3 := H4.out.q.frozen 1
 have G4 := qH (H4.out.setR t4 e4)
 have a4 := G4.out.q0
 have a5 := G4.out.q1
 have b1 := G4.out.x.frozen 3
 have b0 := G4.out.xcell 3 (v := .bool false) rfl
 have J4 := qH (G4.out.setX 3 (.bool (decide ((x4 : Int) = 1))))
 have a6 := J4.out.q0
 have a7 := J4.out.q1
 go_wp2_with fail
 clear a0 a1 a2 a3 a4 a5 a6 a7 b0 b1 G4 H4
 generalize (((u4.setCell ⟨gr, 0, none⟩ (.string t4)).setCell ⟨gr, 1, none⟩ (.int .i64 e4)).setCell ⟨gx, 3, none⟩ (.bool (decide ((x4 : Int) = 1)))) = W4 at *
 have H4 := J4
 clear J4
 refine (N5.out t4 k4 _).mono ?_
 rintro e u5 ⟨rfl, q⟩
 have H5 := qH (H4.out.next q)
 clear N5 H4 q
 have d0 := H5.out.o.c 0 (v := .string ⟨#[]⟩) rfl
 have d1 := H5.out.o.c 1 (v := .string ⟨#[]⟩) rfl
 have d2 := H5.out.o.c 2 (v := .int .i64 0) rfl
 have d3 := H5.out.o.c 3 (v := .bool false) rfl
 have f0 := H5.out.o.frozen 0
 have f1 := H5.out.o.frozen 1
 have f2 := H5.out.o.frozen 2
 have f3 := H5.out.o.frozen 3
 have y0 := H5.out.xcell 0 (v := .string x1) rfl
 have y1 := H5.out.xcell 1 (v := .string x2) rfl
 have y2 := H5.out.xcell 2 (v := .int .i64 x3) rfl
 have y3 := H5.out.xcell 3 (v := .bool (decide ((x4 : Int) = 1))) rfl
 have DZ := qH (And.intro (put4 H5.out.o (.string ⟨#[]⟩) (.string ⟨#[]⟩) (.int .i64 0) (.bool false)) (since_put4 H5.out.s (Nat.le_refl _) (.string ⟨#[]⟩) (.string ⟨#[]⟩) (.int .i64 0) (.bool false)))
 have DY := qH (And.intro (put4 H5.out.o (.string x1) (.string x2) (.int .i64 x3) (.bool (decide ((x4 : Int) = 1)))) (since_put4 H5.out.s (Nat.le_refl _) (.string x1) (.string x2) (.int .i64 x3) (.bool (decide ((x4 : Int) = 1)))))
 clear H5 k1 k2 k3 k4 z1 z2 z3 z4
 by_cases hd : d = 0
 ·subst hd
  by_cases hx : 1 < x4
  ·have hr := HR.out
   rw [if_pos (.inr hx)] at hr
   subst hr
   clear HR
   have hx' : (1 : Int) < (x4 : Int) := by omega
   go_wp2
   have D1 := DZ.out.1
   refine bodyPost_ret (v := retCE (Clt.zero, 8)) (by simp [results, Tryz.results12, go_sem, retCE, cltV, Clt.zero, D1.c 0 rfl, D1.c 1 rfl, D1.c 2 rfl, D1.c 3 rfl]) rfl ?_
   exact ⟨rfl, DZ.out.2⟩
  ·have hr := HR.out
   rw [if_neg (by simp; omega)] at hr
   subst hr
   clear HR
   have hx' : ¬ (1 : Int) < (x4 : Int) := by omega
   go_wp2
   have D1 := DY.out.1
   refine bodyPost_ret (v := retCE (⟨x1, x2, x3, decide (x4 = 1)⟩, 0)) (by simp [results, Tryz.results12, go_sem, retCE, cltV, D1.c 0 rfl, D1.c 1 rfl, D1.c 2 rfl, D1.c 3 rfl]; try omega) rfl ?_
   exact ⟨rfl, DY.out.2⟩
 ·have hr := HR.out
  rw [if_pos (.inl hd)] at hr
  subst hr
  clear HR
  have hdb : (d != 0) = true := by rw [bne_iff_ne]; exact hd
  go_wp2
  have D1 := DZ.out.1
  refine bodyPost_ret (v := retCE (Clt.zero, 8)) (by simp [results, Tryz.results12, go_sem, retCE, cltV, Clt.zero, D1.c 0 rfl, D1.c 1 rfl, D1.c 2 rfl, D1.c 3 rfl]) rfl ?_
  exact ⟨rfl, DZ.out.2⟩
theorem rSee_err (A : Option Addr) (m c : Nat) (id : ByteArray) (h : Int) (c1 c2 : ByteArray) (c3 : Int) (c4 : Bool) (e : Int) (w : World) (he : e ≠ 0)
  (C : Hid (∀ W, Since w W → Calls qP 12 #[.slice A m c, .string id] W fun en w' => en = .returned (.tuple #[.agg #[.string c1, .string c2, .int .i64 c3, .bool c4], .int .i64 e]) ∧ Since W w')) :
  Calls qP 32 #[.slice A m c, .string id, .int .i64 h] w fun en w' => en = .returned (retNE (Sn.zero, e)) ∧ Since w w' := by
 have hb : (e != 0) = true := by rw [bne_iff_ne]; exact he
 clear he
 have O0 := qH (Blk.new w 62 #[.int .i64 0, .string ⟨#[]⟩])
 have S0 := qH (since_alloc (Since.refl w) (.cells #[.int .i64 0, .string ⟨#[]⟩] 62))
 go_enter Tryz.func32, Tryz.ntmps32
 go_wp2_with fail
 refine (C.out _ S0.out).mono ?_
 rintro en w1 ⟨rfl, q⟩
 have O1 := qH ((O0.out.next q.below).alloc (.cells #[.string c1, .string c2, .int .i64 c3, .bool c4] 41))
 have S1 := qH (since_alloc (since_two S0.out q) (.cells #[.string c1, .string c2, .int .i64 c3, .bool c4] 41))
 clear C O0 S0 q
 have d0 : (w1.alloc (.cells #[.string c1, .string c2, .int .i64 c3, .bool c4] 41)).cell? ⟨w.heap.size, 0, none⟩ = some (.int .i64 0) := O1.out.c 0 rfl
 have d1 : (w1.alloc (.cells #[.string c1, .string c2, .int .i64 c3, .bool c4] 41)).cell? ⟨w.heap.size, 1, none⟩ = some (.string ⟨#[]⟩) := O1.out.c 1 rfl
 have f0 := O1.out.frozen 0
 have f1 := O1.out.frozen 1
 have D := qH (And.intro (put2 O1.out (.int .i64 0) (.string ⟨#[]⟩)) (since_put2 S1.out (Nat.le_refl _) (.int .i64 0) (.string ⟨#[]⟩)))
 clear O1 S1
 go_wp2
 have D1 := D.out.1
 refine bodyPost_ret (v := retNE (Sn.zero, e)) (by simp [results, Tryz.results32, go_sem, retNE, snV, Sn.zero, D1.c 0 rfl, D1.c 1 rfl]) rfl ?_
 exact ⟨rfl, D.out.2⟩
theorem rSee_low (A : Option Addr) (m c : Nat) (id : ByteArray) (h : Int) (c1 c2 : ByteArray) (c3 : Int) (c4 : Bool) (w : World) (hh : h < 1)
  (C : Hid (∀ W, Since w W → Calls qP 12 #[.slice A m c, .string id] W fun en w' => en = .returned (.tuple #[.agg #[.string c1, .string c2, .int .i64 c3, .bool c4], .int .i64 0]) ∧ Since W w')) :
  Calls qP 32 #[.slice A m c, .string id, .int .i64 h] w fun en w' => en = .returned (retNE (Sn.zero, 13)) ∧ Since w w' := by
 have O0 := qH (Blk.new w 62 #[.int .i64 0, .string ⟨#[]⟩])
 have S0 := qH (since_alloc (Since.refl w) (.cells #[.int .i64 0, .string ⟨#[]⟩] 62))
 go_enter Tryz.func32, Tryz.ntmps32
 go_wp2_with fail
 refine (C.out _ S0.out).mono ?_
 rintro en w1 ⟨rfl, q⟩
 have O1 := qH ((O0.out.next q.below).alloc (.cells #[.string c1, .string c2, .int .i64 c3, .bool c4] 41))
 have S1 := qH (since_alloc (since_two S0.out q) (.cells #[.string c1, .string c2, .int .i64 c3, .bool c4] 41))
 clear C O0 S0 q
 have d0 : (w1.alloc (.cells #[.string c1, .string c2, .int .i64 c3, .bool c4] 41)).cell? ⟨w.heap.size, 0, none⟩ = some (.int .i64 0) := O1.out.c 0 rfl
 have d1 : (w1.alloc (.cells #[.string c1, .string c2, .int .i64 c3, .bool c4] 41)).cell? ⟨w.heap.size, 1, none⟩ = some (.string ⟨#[]⟩) := O1.out.c 1 rfl
 have f0 := O1.out.frozen 0
 have f1 := O1.out.frozen 1
 have D := qH (And.intro (put2 O1.out (.int .i64 0) (.string ⟨#[]⟩)) (since_put2 S1.out (Nat.le_refl _) (.int .i64 0) (.string ⟨#[]⟩)))
 clear O1 S1
 go_wp2
 have D1 := D.out.1
 refine bodyPost_ret (v := retNE (Sn.zero, 13)) (by simp [results, Tryz.results32, go_sem, retNE, snV, Sn.zero, D1.c 0 rfl, D1.c 1 rfl]) rfl ?_
 exact ⟨rfl, D.out.2⟩
theorem rSee_this (A : Option Addr) (m c : Nat) (id key n v s1 s2 : ByteArray) (ok : Bool) (h : Int) (c1 c2 : ByteArray) (c3 : Int) (c4 : Bool) (e1 e2 : Int) (x1 : Nat) (x2 : ByteArray) (d : Int) (w : World) (hh : ¬ h < 1) (hv : v.size ≤ 9223372036854775807)
  (C : Hid (∀ W, Since w W → Calls qP 12 #[.slice A m c, .string id] W fun en w' => en = .returned (.tuple #[.agg #[.string c1, .string c2, .int .i64 c3, .bool c4], .int .i64 0]) ∧ Since W w'))
  (NUM : Hid (∀ W, Since w W → Calls qP 22 #[.int .i64 h] W fun en w' => en = .returned (.string n) ∧ Since W w'))
  (KEY : Hid (∀ W b, Since w W → Blk W b 9 #[.string ⟨#[115, 101, 101, 110]⟩, .string id, .string n] → Calls qP 39 #[.slice (some ⟨b, 0, none⟩) 3 3] W fun e w' => e = .returned (.string key) ∧ Since W w'))
  (G : Hid (∀ W, Since w W → Calls qP 17 #[.slice A m c, .string key] W fun e w' => e = .returned (.tuple #[.string v, .bool ok]) ∧ w' = W))
  (N1 : Hid (Rd 41 v 0 s1 e1 (.int .i64 x1)))
  (N2 : Hid (Rd 40 s1 e1 s2 e2 (.string x2)))
  (N5 : Hid (∀ t : ByteArray, (e2 = 0 → t = s2) → ∀ W, Calls qP 42 #[.agg #[.string t, .int .i64 e2]] W fun en w' => en = .returned (.int .i64 d) ∧ Below W.heap.size W w')) :
  Calls qP 32 #[.slice A m c, .string id, .int .i64 h] w fun en w' => en = .returned (retNE (if ok = false ∨ 1099511627776 < h ∨ d ≠ 0 then (Sn.zero, 13) else (⟨x1, x2⟩, 0))) ∧ Since w w' := by
 obtain ⟨ans, hr⟩ : ∃ x : Sn × Int, x = (if ok = false ∨ 1099511627776 < h ∨ d ≠ 0 then (Sn.zero, 13) else (⟨x1, x2⟩, 0)) := ⟨_, rfl⟩
 rw [← hr]
 have HR := qH hr
 clear hr
 have O0 := qH (Blk.new w 62 #[.int .i64 0, .string ⟨#[]⟩])
 have S0 := qH (since_alloc (Since.refl w) (.cells #[.int .i64 0, .string ⟨#[]⟩] 62))
 go_enter Tryz.func32, Tryz.ntmps32
 go_wp2_with fail
 refine (C.out _ S0.out).mono ?_
 rintro en w1 ⟨rfl, q⟩
 have O1 := qH ((O0.out.next q.below).alloc (.cells #[.string c1, .string c2, .int .i64 c3, .bool c4] 41))
 have S1 := qH (since_alloc (since_two S0.out q) (.cells #[.string c1, .string c2, .int .i64 c3, .bool c4] 41))
 clear C O0 S0 q
 go_wp2_with fail
 refine (NUM.out _ S1.out).mono ?_
 rintro en w2 ⟨rfl, q⟩
 have O2 := qH ((O1.out.next q.below).alloc (.cells #[.string ⟨#[115, 101, 101, 110]⟩, .string id, .string n] 9))
 have S2 := qH (since_alloc (since_two S1.out q) (.cells #[.string ⟨#[115, 101, 101, 110]⟩, .string id, .string n] 9))
 have K2 := qH (Blk.new w2 9 #[.string ⟨#[115, 101, 101, 110]⟩, .string id, .string n])
 clear NUM O1 S1 q
 go_wp2_with fail
 refine (KEY.out _ _ S2.out K2.out).mono ?_
 rintro en w3 ⟨rfl, q⟩
 have O3 := qH (O2.out.next q.below)
 have S3 := qH (since_two S2.out q)
 clear KEY K2 O2 S2 q
 go_wp2_with fail
 refine (G.out _ S3.out).mono ?_
 rintro en w4 ⟨rfl, rfl⟩
 clear G
 have lt0 := O3.out.lt
 have z1 : (w4.alloc (.cells #[.int .i64 0, .string ⟨#[]⟩] 62)).heap.size = w4.heap.size + 1 := by simp
 have Q3 := Blk.new (w4.alloc (.cells #[.int .i64 0, .string ⟨#[]⟩] 62)) 93 #[.string v, .int .i64 0]
 rw [z1] at Q3
 have H0 : Hid (LAt w w.heap.size w4.heap.size (w4.heap.size + 1) 62 62 #[.int .i64 0, .string ⟨#[]⟩] #[.int .i64 0, .string ⟨#[]⟩] v 0 ((w4.alloc (.cells #[.int .i64 0, .string ⟨#[]⟩] 62)).alloc (.cells #[.string v, .int .i64 0] 93))) := qH ⟨(O3.out.alloc _).alloc _, (Blk.new w4 62 #[.int .i64 0, .string ⟨#[]⟩]).alloc _, Q3, since_alloc (since_alloc S3.out _) _, by omega⟩
 clear O3 S3 Q3 z1
 have y0 : ((w4.alloc (.cells #[.int .i64 0, .string ⟨#[]⟩] 62)).alloc (.cells #[.string v, .int .i64 0] 93)).cell? ⟨w4.heap.size + 1, 0, none⟩ = some (.string v) := H0.out.q0
 have y1 : ((w4.alloc (.cells #[.int .i64 0, .string ⟨#[]⟩] 62)).alloc (.cells #[.string v, .int .i64 0] 93)).cell? ⟨w4.heap.size + 1, 1, none⟩ = some (.int .i64 0) := H0.out.q1
 go_wp2_with fail
 clear y0 y1
 generalize ((w4.alloc (.cells #[.int .i64 0, .string ⟨#[]⟩] 62)).alloc (.cells #[.string v, .int .i64 0] 93)) = W0 at *
 generalize hgr : w4.heap.size + 1 = gr at *
 generalize w4.heap.size = gx at *
 refine (N1.out v (fun _ => rfl) hv _).mono ?_
 rintro e u1 ⟨t1, rfl, k1, z1, q⟩
 have H1 := qH (H0.out.next q)
 clear N1 H0 q
 have a0 := H1.out.q0
 have a1 := H1.out.q1
 have a2 := H1.out.q.frozen 0
 have a3 := H1.out.q.frozen 1
 have G1 := qH (H1.out.setR t1 e1)
 have a4 := G1.out.q0
 have a5 := G1.out.q1
 have b1 := G1.out.x.frozen 0
 have b0 := G1.out.xcell 0 (v := .int .i64 0) rfl
 have J1 := qH (G1.out.setX 0 (.int .i64 x1))
 have a6 := J1.out.q0
 have a7 := J1.out.q1
 go_wp2_with fail
 clear a0 a1 a2 a3 a4 a5 a6 a7 b0 b1 G1 H1
 generalize (((u1.setCell ⟨gr, 0, none⟩ (.string t1)).setCell ⟨gr, 1, none⟩ (.int .i64 e1)).setCell ⟨gx, 0, none⟩ (.int .i64 x1)) = W1 at *
 have H1 := J1
 clear J1
 refine (N2.out t1 k1 z1 _).mono ?_
 rintro e u2 ⟨t2, rfl, k2, z2, q⟩
 have H2 := qH (H1.out.next q)
 clear N2 H1 q
 have a0 := H2.out.q0
 have a1 := H2.out.q1
 have a2 := H2.out.q.frozen 0
 have a3 := H2.out.q.frozen 1
 have G2 := qH (H2.out.setR t2 e2)
 have a4 := G2.out.q0
 have a5 := G2.out.q1
 have b1 := G2.out.x.frozen 1
 have b0 := G2.out.xcell 1 (v := .string ⟨#[]⟩) rfl
 have J2 := qH (G2.out.setX 1 (.string x2))
 have a6 := J2.out.q0
 have a7 := J2.out.q1
 by_cases hk : ok = false ∨ 1099511627776 < h
 ·have hr := HR.out
  rw [if_pos (by rcases hk with h1 | h1; exact .inl h1; exact .inr (.inl h1))] at hr
  subst hr
  clear HR
  have d0 := J2.out.o.c 0 (v := .int .i64 0) rfl
  have d1 := J2.out.o.c 1 (v := .string ⟨#[]⟩) rfl
  have f0 := J2.out.o.frozen 0
  have f1 := J2.out.o.frozen 1
  have DZ := qH (And.intro (put2 J2.out.o (.int .i64 0) (.string ⟨#[]⟩)) (since_put2 J2.out.s (Nat.le_refl _) (.int .i64 0) (.string ⟨#[]⟩)))
  clear J2 N5
  have hk' : ok = false ∨ (ok = true ∧ 1099511627776 < h) := by
   rcases hk with h1 | h1
   ·exact .inl h1
   ·cases ok
    ·exact .inl rfl
    ·exact .inr ⟨rfl, h1⟩
  clear hk
  rcases hk' with hk' | ⟨hk', hk2⟩
  all_goals subst hk'
  all_goals go_wp2
  all_goals have D1 := DZ.out.1
  all_goals refine bodyPost_ret (v := retNE (Sn.zero, 13)) (by simp [results, Tryz.results32, go_sem, retNE, snV, Sn.zero, D1.c 0 rfl, D1.c 1 rfl]) rfl ?_
  all_goals exact ⟨rfl, DZ.out.2⟩
 ·have hk1 : ok = true := by cases ok; exact absurd (.inl rfl) hk; rfl
  have hk2 : ¬ 1099511627776 < h := fun x => hk (.inr x)
  subst hk1
  clear hk
  go_wp2_with fail
  clear a0 a1 a2 a3 a4 a5 a6 a7 b0 b1 G2 H2
  generalize (((u2.setCell ⟨gr, 0, none⟩ (.string t2)).setCell ⟨gr, 1, none⟩ (.int .i64 e2)).setCell ⟨gx, 1, none⟩ (.string x2)) = W2 at *
  refine (N5.out t2 k2 _).mono ?_
  rintro e u5 ⟨rfl, q⟩
  have H5 := qH (J2.out.next q)
  clear N5 J2 q
  have d0 := H5.out.o.c 0 (v := .int .i64 0) rfl
  have d1 := H5.out.o.c 1 (v := .string ⟨#[]⟩) rfl
  have f0 := H5.out.o.frozen 0
  have f1 := H5.out.o.frozen 1
  have y0 := H5.out.xcell 0 (v := .int .i64 x1) rfl
  have y1 := H5.out.xcell 1 (v := .string x2) rfl
  have DZ := qH (And.intro (put2 H5.out.o (.int .i64 0) (.string ⟨#[]⟩)) (since_put2 H5.out.s (Nat.le_refl _) (.int .i64 0) (.string ⟨#[]⟩)))
  have DY := qH (And.intro (put2 H5.out.o (.int .i64 x1) (.string x2)) (since_put2 H5.out.s (Nat.le_refl _) (.int .i64 x1) (.string x2)))
  clear H5
  by_cases hd : d = 0
  ·subst hd
   have hr := HR.out
   rw [if_neg (by simp; omega)] at hr
   subst hr
   clear HR
   go_wp2
   have D1 := DY.out.1
   refine bodyPost_ret (v := retNE (⟨x1, x2⟩, 0)) (by simp [results, Tryz.results32, go_sem, retNE, snV, D1.c 0 rfl, D1.c 1 rfl]) rfl ?_
   exact ⟨rfl, DY.out.2⟩
  ·have hr := HR.out
   rw [if_pos (.inr (.inr hd))] at hr
   subst hr
   clear HR
   have hdb : (d != 0) = true := by rw [bne_iff_ne]; exact hd
   go_wp2
   have D1 := DZ.out.1
   refine bodyPost_ret (v := retNE (Sn.zero, 13)) (by simp [results, Tryz.results32, go_sem, retNE, snV, Sn.zero, D1.c 0 rfl, D1.c 1 rfl]) rfl ?_
   exact ⟨rfl, DZ.out.2⟩
def Sized (L : List KV) : Prop := ∀ p ∈ L, p.1.size ≤ 1000000 ∧ p.2.size ≤ 1000000
theorem Sized.get {L : List KV} (h : Sized L) (k : ByteArray) : ((lget L k).getD ⟨#[]⟩).size ≤ 1000000 := by
 unfold lget
 cases hf : L.find? (fun x => decide (x.1 = k)) with
 | none => simp [ByteArray.size]
 | some p => exact (h p (List.mem_of_find?_eq_some hf)).2
theorem rNumber14 (n : Int) (w : World) : Calls qP 22 #[.int .i64 n] w fun e w' => e = .returned (.string (nTx n)) ∧ Since w w' := (rPNumber n w).mono fun _ _ ⟨he, hb⟩ => ⟨he, since_of hb⟩
theorem nTx_len (n : Int) : (nTx n).size ≤ 14 := by unfold nTx; rw [bs_size, lowd_len]; exact Nat.le_refl _
section
variable {s : Value} {L : List KV} {w : World}
theorem rGet14 (hP : Prs w s L) (hu : Up L) (hz : L.length ≤ 1000000000) (hL : Sized L) (id : ByteArray) (hid : id.size ≤ 1000000) :
  Calls qP 12 #[s, .string id] w fun e w' => e = .returned (retCE (cGet L id)) ∧ Since w w' := by
 have hsz := hL.get (kClt id)
 have KEY := qH (fun W b (_ : Since w W) hB => rKey2 wClt id b W hB (by decide) hid)
 have G := qH (fun W (hW : Since w W) => rGet s L (kClt id) W (hP.below hW.below) hu hz)
 unfold cGet
 obtain ⟨A, c, rfl, _, _⟩ := hP
 cases hg : lget L (kClt id) with
 | none =>
  rw [hg] at G
  exact rGet14_none A _ c id _ w KEY G
 | some v =>
  rw [hg] at G hsz
  have h := rGet14_some A _ c id _ v _ _ _ _ _ _ _ _ _ _ _ _ _ w (by simp only [Option.getD_some] at hsz; omega) KEY G (qH (rd_text v 0)) (qH (rd_text _ _)) (qH (rd_num _ _)) (qH (rd_num _ _)) (qH (fun t k W => rd_done _ _ t k W))
  refine h.mono fun e w' ⟨he, hs⟩ => ⟨?_, hs⟩
  rw [he]
  simp only [Option.bind_some, rdClt]
  split <;> rfl
theorem rSee14 (hP : Prs w s L) (hu : Up L) (hz : L.length ≤ 1000000000) (hL : Sized L) (id : ByteArray) (hid : id.size ≤ 1000000) (h : Int) :
  Calls qP 32 #[s, .string id, .int .i64 h] w fun e w' => e = .returned (retNE (cSee L id h)) ∧ Since w w' := by
 have C := qH (fun W (hW : Since w W) => rGet14 (hP.below hW.below) hu hz hL id hid)
 have NUM := qH (fun W (_ : Since w W) => rNumber14 h W)
 have KEY := qH (fun W b (_ : Since w W) hB => rKey3 wSeen id (nTx h) b W hB (by decide) hid (by have := nTx_len h; omega))
 have G := qH (fun W (hW : Since w W) => rGet s L (kSeen id h) W (hP.below hW.below) hu hz)
 have hsz := hL.get (kSeen id h)
 unfold cSee
 obtain ⟨A, c, rfl, _, _⟩ := hP
 unfold retCE at C
 obtain ⟨⟨⟨c1, c2, c3, c4⟩, e⟩, hc⟩ : ∃ x, cGet L id = x := ⟨_, rfl⟩
 rw [hc] at C ⊢
 simp only
 by_cases he : e = 0
 ·subst he
  rw [if_neg (by simp)]
  by_cases hh : h < 1
  ·rw [if_pos (.inl hh)]
   exact rSee_low A _ c id h _ _ _ _ w hh C
  ·have k := rSee_this A _ c id _ _ _ _ _ _ h _ _ _ _ _ _ _ _ _ w hh (by omega) C NUM KEY G (qH (rd_num _ 0)) (qH (rd_text _ _)) (qH (fun t k W => rd_done _ _ t k W))
   refine k.mono fun e w' ⟨he, hs⟩ => ⟨?_, hs⟩
   rw [he]
   by_cases hb : 1099511627776 < h
   ·rw [if_pos (.inr (.inl hb)), if_pos (.inr hb)]
   ·rw [if_neg (show ¬ (h < 1 ∨ 1099511627776 < h) by omega)]
    cases hg : lget L (kSeen id h) with
    | none => rw [if_pos (.inl rfl)]; rfl
    | some v =>
     simp only [Option.getD_some, Option.bind_some, rdSn, Option.isSome_some, Bool.true_eq_false, false_or]
     by_cases hd : stDone (stText (stNum v 0).1.1 (stNum v 0).1.2).1.1 (stText (stNum v 0).1.1 (stNum v 0).1.2).1.2 = 0
     ·rw [if_neg (by simp [hd]; omega), if_neg (by simp [hd])]
     ·rw [if_pos (.inr hd), if_pos hd]
 ·rw [if_pos he]
  exact rSee_err A _ c id h _ _ _ _ e w he C
end
structure Rdg (w : World) (b : Nat) (s : ByteArray) (e : Int) (W : World) : Prop where
 q : RdAt W b s e
 s : Since w W
 lt : w.heap.size ≤ b
section
variable {w W W' : World} {b : Nat} {s s' : ByteArray} {e e' : Int}
theorem Rdg.start (h : Since w W) (s : ByteArray) : Rdg w W.heap.size s 0 (W.alloc (.cells #[.string s, .int .i64 0] 149)) := ⟨Blk.new W _ _, since_alloc h _, h.below.size⟩
theorem Rdg.step (h : Rdg w b s e W) {v : Value} {en : Ending} (k : RdPost W b v s' e' en W') : Rdg w b s' e' W' := ⟨k.2.1, since_of (step_only h.s.below k.2.2 h.lt), h.lt⟩
end
theorem created_this (j : Nat) (key v s1 : ByteArray) (g : Bool) (e1 d : Int) (n : Nat) (w : World)
  (K : Hid (Calls qP 67 #[] w fun e w' => e = .returned (.string key) ∧ Since w w'))
  (G : Hid (∀ W, Since w W → Calls qP 33 #[.pointer (some ⟨j, 0, none⟩), .string key] W fun e w' => e = .returned (.tuple #[.string v, .bool g]) ∧ w' = W))
  (N1 : Hid (∀ W b, RdAt W b v 0 → Calls qP 37 #[.pointer (some ⟨b, 0, none⟩)] W (RdPost W b (.int .i64 n) s1 e1)))
  (N2 : Hid (∀ W b, RdAt W b s1 e1 → Calls qP 38 #[.pointer (some ⟨b, 0, none⟩)] W fun en w' => en = .returned (.int .i64 d) ∧ W = w')) :
  Calls qP 63 #[.pointer (some ⟨j, 0, none⟩)] w fun e w' => e = .returned (.int .i64 (if d ≠ 0 then 0 else (n : Int))) ∧ Since w w' := by
 obtain ⟨r, hr⟩ : ∃ r, r = (if d ≠ 0 then 0 else (n : Int)) := ⟨_, rfl⟩
 rw [← hr]
 have HR := qH hr
 clear hr
 go_enter Tryz.func63, Tryz.ntmps63
 go_wp2_with fail
 refine K.out.mono ?_
 rintro e w1 ⟨rfl, q⟩
 have S1 := qH q
 clear K q
 go_wp2_with fail
 refine (G.out _ S1.out).mono ?_
 rintro e w2 ⟨rfl, rfl⟩
 clear G
 go_wp2_with fail
 refine (new v _).mono ?_
 rintro e w3 ⟨rfl, rfl⟩
 have H := qH (Rdg.start S1.out v)
 clear S1
 generalize (w2.alloc (.cells #[.string v, .int .i64 0] 149)) = W0 at *
 generalize w2.heap.size = b at *
 go_wp2_with fail
 refine (N1.out _ _ H.out.q).mono ?_
 rintro e w4 q
 have H1 := qH (H.out.step q)
 obtain ⟨rfl, -, -⟩ := q
 clear N1 H
 go_wp2_with fail
 refine (N2.out _ _ H1.out.q).mono ?_
 rintro e w5 ⟨rfl, rfl⟩
 clear N2
 by_cases hd : d = 0
 ·subst hd
  have hr := HR.out
  rw [if_neg (by simp)] at hr
  subst hr
  go_wp2
  go_ret
  exact ⟨rfl, H1.out.s⟩
 ·have hdb : (d != 0) = true := by rw [bne_iff_ne]; exact hd
  have hr := HR.out
  rw [if_pos hd] at hr
  subst hr
  go_wp2
  go_ret
  exact ⟨rfl, H1.out.s⟩
theorem createdC {w : World} {S : Nat → Prop} {j m : Nat} {Lv : List (List KV)} {L : List KV} (h : Jr w S j Lv L m) (hs : Sized L) (hL : PLay w) :
  Calls qP 63 #[.pointer (some ⟨j, 0, none⟩)] w fun e w' => e = .returned (.int .i64 (cCount L)) ∧ Since w w' := by
 have hz := hs.get kNext
 have k := created_this j kNext ((lget L kNext).getD ⟨#[]⟩) _ (lget L kNext).isSome _ _ _ w (qH (nextKeyC w hL)) (qH fun W hW => jGet kNext (h.below hW.below)) (qH fun W b hR => numAt b _ _ W hR (by omega)) (qH fun W b hR => doneAt b _ _ W hR)
 refine k.mono fun e w' ⟨h1, h2⟩ => ⟨?_, h2⟩
 rw [h1]
 unfold cCount rdCnt
 split <;> rfl
structure CgAt (w : World) (b : Nat) (s : ByteArray) (e : Int) (W : World) : Prop where
 o : Blk W w.heap.size 41 #[.string ⟨#[]⟩, .string ⟨#[]⟩, .int .i64 0, .bool false]
 r : Rdg w b s e W
 lt : w.heap.size < b
section
variable {w W W' : World} {b : Nat} {s s' : ByteArray} {e e' : Int}
theorem CgAt.step (h : CgAt w b s e W) {v : Value} {en : Ending} (k : RdPost W b v s' e' en W') : CgAt w b s' e' W' :=
 ⟨h.o.grown k.2.2 (by have := h.lt; intro x; injection x with x; omega), h.r.step k, h.lt⟩
theorem CgAt.alloc (h : CgAt w b s e W) (ob : Obj) : CgAt w b s e (W.alloc ob) := ⟨h.o.alloc _, ⟨h.r.q.alloc _, since_alloc h.r.s _, h.r.lt⟩, h.lt⟩
end
theorem get_this (j : Nat) (id key v s1 s2 s3 s4 : ByteArray) (g : Bool) (e1 e2 e3 e4 : Int) (x1 x2 : ByteArray) (x3 x4 : Nat) (d : Int) (w : World)
  (K : Hid (∀ W, Since w W → Calls qP 34 #[.string id] W fun e w' => e = .returned (.string key) ∧ Since W w'))
  (G : Hid (∀ W, Since w W → Calls qP 33 #[.pointer (some ⟨j, 0, none⟩), .string key] W fun e w' => e = .returned (.tuple #[.string v, .bool g]) ∧ w' = W))
  (N1 : Hid (∀ W b, RdAt W b v 0 → Calls qP 36 #[.pointer (some ⟨b, 0, none⟩)] W (RdPost W b (.string x1) s1 e1)))
  (N2 : Hid (∀ W b, RdAt W b s1 e1 → Calls qP 36 #[.pointer (some ⟨b, 0, none⟩)] W (RdPost W b (.string x2) s2 e2)))
  (N3 : Hid (∀ W b, RdAt W b s2 e2 → Calls qP 37 #[.pointer (some ⟨b, 0, none⟩)] W (RdPost W b (.int .i64 x3) s3 e3)))
  (N4 : Hid (∀ W b, RdAt W b s3 e3 → Calls qP 37 #[.pointer (some ⟨b, 0, none⟩)] W (RdPost W b (.int .i64 x4) s4 e4)))
  (N5 : Hid (∀ W b, RdAt W b s4 e4 → Calls qP 38 #[.pointer (some ⟨b, 0, none⟩)] W fun en w' => en = .returned (.int .i64 d) ∧ W = w')) :
  Calls qP 11 #[.pointer (some ⟨j, 0, none⟩), .string id] w fun e w' => e = .returned (retCE (if d ≠ 0 ∨ 1 < x4 then (Clt.zero, 8) else (⟨x1, x2, x3, decide (x4 = 1)⟩, 0))) ∧ Since w w' := by
 obtain ⟨ans, hr⟩ : ∃ x : Clt × Int, x = (if d ≠ 0 ∨ 1 < x4 then (Clt.zero, 8) else (⟨x1, x2, x3, decide (x4 = 1)⟩, 0)) := ⟨_, rfl⟩
 rw [← hr]
 have HR := qH hr
 clear hr
 have O0 := qH (Blk.new w 41 #[.string ⟨#[]⟩, .string ⟨#[]⟩, .int .i64 0, .bool false])
 have S0 := qH (since_alloc (Since.refl w) (.cells #[.string ⟨#[]⟩, .string ⟨#[]⟩, .int .i64 0, .bool false] 41))
 go_enter Tryz.func11, Tryz.ntmps11
 go_wp2_with fail
 refine (K.out _ S0.out).mono ?_
 rintro e w1 ⟨rfl, q⟩
 have O1 := qH (O0.out.next q.below)
 have S1 := qH (since_two S0.out q)
 clear K O0 S0 q
 go_wp2_with fail
 refine (G.out _ S1.out).mono ?_
 rintro e w2 ⟨rfl, rfl⟩
 clear G
 go_wp2_with fail
 refine (new v _).mono ?_
 rintro e w3 ⟨rfl, rfl⟩
 have H : Hid (CgAt w w2.heap.size v 0 (w2.alloc (.cells #[.string v, .int .i64 0] 149))) := qH ⟨O1.out.alloc _, Rdg.start S1.out v, O1.out.lt⟩
 clear S1 O1
 generalize (w2.alloc (.cells #[.string v, .int .i64 0] 149)) = W0 at *
 generalize w2.heap.size = b at *
 go_wp2_with fail
 refine (N1.out _ _ H.out.r.q).mono ?_
 rintro e w4 q
 have H1 := qH (H.out.step q)
 obtain ⟨rfl, -, -⟩ := q
 clear N1 H
 go_wp2_with fail
 refine (N2.out _ _ H1.out.r.q).mono ?_
 rintro e w5 q
 have H2 := qH (H1.out.step q)
 obtain ⟨rfl, -, -⟩ := q
 clear N2 H1
 go_wp2_with fail
 refine (N3.out _ _ H2.out.r.q).mono ?_
 rintro e w6 q
 have H3 := qH (H2.out.step q)
 obtain ⟨rfl, -, -⟩ := q
 clear N3 H2
 go_wp2_with fail
 have B6 := qH (Blk.new w6 41 #[.string x1, .string x2, .int .i64 x3, .bool false])
 have H4 := qH (H3.out.alloc (.cells #[.string x1, .string x2, .int .i64 x3, .bool false] 41))
 have lt3 := H3.out.r.q.lt
 have lt0 := H3.out.o.lt
 clear H3
 refine (N4.out _ _ H4.out.r.q).mono ?_
 rintro e w7 q
 have H5 := qH (H4.out.step q)
 obtain ⟨rfl, -, gr⟩ := q
 have B7 := qH (B6.out.grown gr (fun x => by injection x with x; omega))
 clear N4 H4 B6 gr
 go_wp2_with fail
 refine (N5.out _ _ H5.out.r.q).mono ?_
 rintro e w8 ⟨rfl, rfl⟩
 clear N5
 have d0 := H5.out.o.c 0 (v := .string ⟨#[]⟩) rfl
 have d1 := H5.out.o.c 1 (v := .string ⟨#[]⟩) rfl
 have d2 := H5.out.o.c 2 (v := .int .i64 0) rfl
 have d3 := H5.out.o.c 3 (v := .bool false) rfl
 have f0 := H5.out.o.frozen 0
 have f1 := H5.out.o.frozen 1
 have f2 := H5.out.o.frozen 2
 have f3 := H5.out.o.frozen 3
 by_cases hd : d = 0
 ·subst hd
  by_cases hx : 1 < x4
  ·have hr := HR.out
   rw [if_pos (.inr hx)] at hr
   subst hr
   have hx' : (1 : Int) < (x4 : Int) := by omega
   have DZ := qH (And.intro (put4 H5.out.o (.string ⟨#[]⟩) (.string ⟨#[]⟩) (.int .i64 0) (.bool false)) (since_put4 H5.out.r.s (Nat.le_refl _) (.string ⟨#[]⟩) (.string ⟨#[]⟩) (.int .i64 0) (.bool false)))
   clear HR hx H5 B7
   go_wp2
   have D1 := DZ.out.1
   refine bodyPost_ret (v := retCE (Clt.zero, 8)) (by simp [results, Tryz.results11, go_sem, retCE, cltV, Clt.zero, D1.c 0 rfl, D1.c 1 rfl, D1.c 2 rfl, D1.c 3 rfl]) rfl ?_
   exact ⟨rfl, DZ.out.2⟩
  ·have hr := HR.out
   obtain ⟨fr, hfr⟩ : ∃ fr, ((x4 : Int) == 1) = fr := ⟨_, rfl⟩
   rw [if_neg (by simp; omega), show decide (x4 = 1) = fr by rw [← hfr, Bool.eq_iff_iff]; simp; omega] at hr
   subst hr
   have hx' : ¬ (1 : Int) < (x4 : Int) := by omega
   have g3 := B7.out.frozen 3
   have ne : w.heap.size ≠ w6.heap.size := Nat.ne_of_lt lt0
   have O8 := qH (H5.out.o.far (p := ⟨w6.heap.size, 3, none⟩) ne (.bool fr))
   have S8 := qH (since_put H5.out.r.s (p := ⟨w6.heap.size, 3, none⟩) (Nat.le_of_lt lt0) (.bool fr))
   have B8 := qH (B7.out.set_ 3 (.bool fr))
   have y0 := B8.out.c 0 (v := .string x1) rfl
   have y1 := B8.out.c 1 (v := .string x2) rfl
   have y2 := B8.out.c 2 (v := .int .i64 x3) rfl
   have y3 := B8.out.c 3 (v := .bool fr) rfl
   have k0 := B7.out.c 0 (v := .string x1) rfl
   have k1 := B7.out.c 1 (v := .string x2) rfl
   have k2 := B7.out.c 2 (v := .int .i64 x3) rfl
   have k3 := B7.out.c 3 (v := .bool false) rfl
   have e0 := O8.out.c 0 (v := .string ⟨#[]⟩) rfl
   have e1 := O8.out.c 1 (v := .string ⟨#[]⟩) rfl
   have e2 := O8.out.c 2 (v := .int .i64 0) rfl
   have e3 := O8.out.c 3 (v := .bool false) rfl
   have r0 := O8.out.frozen 0
   have r1 := O8.out.frozen 1
   have r2 := O8.out.frozen 2
   have r3 := O8.out.frozen 3
   have DY := qH (And.intro (put4 O8.out (.string x1) (.string x2) (.int .i64 x3) (.bool fr)) (since_put4 S8.out (Nat.le_refl _) (.string x1) (.string x2) (.int .i64 x3) (.bool fr)))
   clear HR hx H5 B7 O8 S8 B8
   go_wp2
   have D1 := DY.out.1
   refine bodyPost_ret (v := retCE (⟨x1, x2, x3, fr⟩, 0)) (by simp [results, Tryz.results11, go_sem, retCE, cltV, D1.c 0 rfl, D1.c 1 rfl, D1.c 2 rfl, D1.c 3 rfl]) rfl ?_
   exact ⟨rfl, DY.out.2⟩
 ·have hdb : (d != 0) = true := by rw [bne_iff_ne]; exact hd
  have hr := HR.out
  rw [if_pos (.inl hd)] at hr
  subst hr
  have DZ := qH (And.intro (put4 H5.out.o (.string ⟨#[]⟩) (.string ⟨#[]⟩) (.int .i64 0) (.bool false)) (since_put4 H5.out.r.s (Nat.le_refl _) (.string ⟨#[]⟩) (.string ⟨#[]⟩) (.int .i64 0) (.bool false)))
  clear HR hd H5 B7
  go_wp2
  have D1 := DZ.out.1
  refine bodyPost_ret (v := retCE (Clt.zero, 8)) (by simp [results, Tryz.results11, go_sem, retCE, cltV, Clt.zero, D1.c 0 rfl, D1.c 1 rfl, D1.c 2 rfl, D1.c 3 rfl]) rfl ?_
  exact ⟨rfl, DZ.out.2⟩
theorem rd_clt_none : rdClt ⟨#[]⟩ = none := by decide +kernel
theorem clGet {w : World} {S : Nat → Prop} {j m : Nat} {Lv : List (List KV)} {L : List KV} (hJ : Jr w S j Lv L m) (hs : Sized L) (hL : PLay w) (id : ByteArray) (hid : id.size ≤ 1000000) :
  Calls qP 11 #[.pointer (some ⟨j, 0, none⟩), .string id] w fun e w' => e = .returned (retCE (cGet L id)) ∧ Since w w' := by
 have hsz := hs.get (kClt id)
 obtain ⟨v, hv⟩ : ∃ v, v = (lget L (kClt id)).getD ⟨#[]⟩ := ⟨_, rfl⟩
 rw [← hv] at hsz
 have z1 := (stText_facts v 0).1
 have z2 := (stText_facts (stText v 0).1.1 (stText v 0).1.2).1
 have z3 := (stNum_facts (stText (stText v 0).1.1 (stText v 0).1.2).1.1 (stText (stText v 0).1.1 (stText v 0).1.2).1.2).2.1
 have k := get_this j id (kClt id) v _ _ _ _ (lget L (kClt id)).isSome _ _ _ _ _ _ _ _ _ w (qH fun W hW => clientKeyC id hid W (hL.next hW.below)) (qH fun W hW => hv ▸ jGet (kClt id) (hJ.below hW.below)) (qH fun W b hR => textAt b _ _ W hR (by omega)) (qH fun W b hR => textAt b _ _ W hR (by omega)) (qH fun W b hR => numAt b _ _ W hR (by omega)) (qH fun W b hR => numAt b _ _ W hR (by omega)) (qH fun W b hR => doneAt b _ _ W hR)
 refine k.mono fun e w' ⟨he, hs⟩ => ⟨?_, hs⟩
 rw [he]
 unfold cGet
 have hb : (lget L (kClt id)).bind rdClt = rdClt v := by rw [hv]; cases lget L (kClt id) <;> simp [rd_clt_none]
 rw [hb]
 unfold rdClt
 simp only
 split <;> rfl
theorem guardH : qP.eqGuardType qP.depth 34 = false := by kernel_rfl
theorem rGood_this (key : ByteArray) (c : ByteArray) (a b : Int) (r m : ByteArray) (c' : ByteArray) (a' b' : Int) (r' m' : ByteArray) (f : Int) (w : World)
  (K1 : Hid (∀ W, Calls qP 14 #[.string key, .agg #[.string c, .int .i64 a, .int .i64 b, .string r, .string m]] W fun e w' => e = .returned (.tuple #[.agg #[.string c', .int .i64 a', .int .i64 b', .string r', .string m'], .int .i64 f]) ∧ Since W w')) :
  Calls qP 128 #[.string key, .agg #[.string c, .int .i64 a, .int .i64 b, .string r, .string m]] w fun e w' => e = .returned (.bool (decide (f = 0 ∧ (c' = c ∧ a' = a ∧ b' = b ∧ r' = r ∧ m' = m)))) ∧ Since w w' := by
 have HB := qH (Blk.new w 34 #[.string c, .int .i64 a, .int .i64 b, .string r, .string m])
 have HS := qH (show Since w (w.alloc (.cells #[.string c, .int .i64 a, .int .i64 b, .string r, .string m] 34)) from since_of ((Below.refl _ w).alloc (Nat.le_refl _) _))
 have y0 : (w.alloc (.cells #[.string c, .int .i64 a, .int .i64 b, .string r, .string m] 34)).cell? ⟨w.heap.size, 0, none⟩ = some (.string c) := HB.out.c 0 rfl
 have y1 : (w.alloc (.cells #[.string c, .int .i64 a, .int .i64 b, .string r, .string m] 34)).cell? ⟨w.heap.size, 1, none⟩ = some (.int .i64 a) := HB.out.c 1 rfl
 have y2 : (w.alloc (.cells #[.string c, .int .i64 a, .int .i64 b, .string r, .string m] 34)).cell? ⟨w.heap.size, 2, none⟩ = some (.int .i64 b) := HB.out.c 2 rfl
 have y3 : (w.alloc (.cells #[.string c, .int .i64 a, .int .i64 b, .string r, .string m] 34)).cell? ⟨w.heap.size, 3, none⟩ = some (.string r) := HB.out.c 3 rfl
 have y4 : (w.alloc (.cells #[.string c, .int .i64 a, .int .i64 b, .string r, .string m] 34)).cell? ⟨w.heap.size, 4, none⟩ = some (.string m) := HB.out.c 4 rfl
 have EQ : ∀ W : World, (Op.equalIn 10000 34 (.agg #[.string c', .int .i64 a', .int .i64 b', .string r', .string m']) (.agg #[.string c, .int .i64 a, .int .i64 b, .string r, .string m])).run qP W = .ok (decide (c' = c ∧ a' = a ∧ b' = b ∧ r' = r ∧ m' = m)) W := fun W => eq_hd5 _ _ _ _ _ _ _ _ _ _ W
 have GU := guardH
 go_enter Tryz.func128, Tryz.ntmps128
 go_wp2_with fail
 refine (K1.out _).mono ?_
 rintro e w1 ⟨rfl, q1⟩
 have X1 := HB.out.next q1.below
 have S1 : Since w w1 := since_of (step_below HS.out.below q1.below)
 have hlt : w.heap.size ≤ w1.heap.size := Nat.le_of_lt X1.lt
 clear HB HS K1 q1 y0 y1 y2 y3 y4
 have X2 := X1.alloc (.cells #[.string c', .int .i64 a', .int .i64 b', .string r', .string m'] 34)
 have S2 := qH (show Since w (w1.alloc (.cells #[.string c', .int .i64 a', .int .i64 b', .string r', .string m'] 34)) from since_of (S1.below.alloc hlt _))
 have y0 : (w1.alloc (.cells #[.string c', .int .i64 a', .int .i64 b', .string r', .string m'] 34)).cell? ⟨w.heap.size, 0, none⟩ = some (.string c) := X2.c 0 rfl
 have y1 : (w1.alloc (.cells #[.string c', .int .i64 a', .int .i64 b', .string r', .string m'] 34)).cell? ⟨w.heap.size, 1, none⟩ = some (.int .i64 a) := X2.c 1 rfl
 have y2 : (w1.alloc (.cells #[.string c', .int .i64 a', .int .i64 b', .string r', .string m'] 34)).cell? ⟨w.heap.size, 2, none⟩ = some (.int .i64 b) := X2.c 2 rfl
 have y3 : (w1.alloc (.cells #[.string c', .int .i64 a', .int .i64 b', .string r', .string m'] 34)).cell? ⟨w.heap.size, 3, none⟩ = some (.string r) := X2.c 3 rfl
 have y4 : (w1.alloc (.cells #[.string c', .int .i64 a', .int .i64 b', .string r', .string m'] 34)).cell? ⟨w.heap.size, 4, none⟩ = some (.string m) := X2.c 4 rfl
 clear X1 X2 S1 hlt
 by_cases hf : f = 0
 ·subst hf
  go_wp2
  go_ret
  exact ⟨rfl, S2.out⟩
 ·have hfe : (f == 0) = false := by rw [beq_eq_false_iff_ne]; exact hf
  go_wp2
  go_ret
  exact ⟨by simp [hf], S2.out⟩
theorem rGood (key : ByteArray) (h : Hdr) (w : World) (hk : key.size ≤ 1099511627776) :
  Calls qP 128 #[.string key, hdV h] w fun e w' => e = .returned (.bool (goodOf key h)) ∧ Since w w' := by
 have K1 := qH (fun W => rSign key h W hk)
 unfold retHE at K1
 have e : goodOf key h = decide ((signOf key h).2 = 0 ∧ ((signOf key h).1.chain = h.chain ∧ (signOf key h).1.height = h.height ∧ (signOf key h).1.time = h.time ∧ (signOf key h).1.root = h.root ∧ (signOf key h).1.mac = h.mac)) := by
  unfold goodOf
  generalize (signOf key h).1 = x
  obtain ⟨c, a, b, r, m⟩ := x
  obtain ⟨c', a', b', r', m'⟩ := h
  simp
 rw [e]
 exact rGood_this key h.chain h.height h.time h.root h.mac _ _ _ _ _ _ w K1
end Go.Proofs.YtkejaepmoabikaaGreatDoor.W
