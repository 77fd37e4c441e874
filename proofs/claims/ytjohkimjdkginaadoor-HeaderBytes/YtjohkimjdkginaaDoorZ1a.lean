/-
  Texts of one level, merged: SRefS, MRef, ESign, EGood, EAwk, ESgn, EGd, EHRd, EAw.
-/
import Derived.Deep.AppendLies
import Derived.Test.YtjohkimjdkginaaDoorZSRefB
import Derived.Test.YtjohkimjdkginaaDoorZ0b
import Derived.Test.YtjohkimjdkginaaDoorZ0c
import Derived.Test.YtjohkimjdkginaaDoorZ0d
/-
  The reference's Sum.
-/
namespace Go.Proofs.YtjohkimjdkginaaDoor.W
open Go.RowKit

/-- the registers lie in block H -/
def SumH (p : List UInt8) (w : World) (H k : Nat) (wr : World) : Prop := Blk wr H 72 (wv (blks p k)) ∧ Below w.heap.size w wr ∧ w.heap.size ≤ H
theorem SumH.start (p : List UInt8) (w w3 : World) (h : Below w.heap.size w w3) : SumH p w w3.heap.size 0 ((w3.alloc (.cells (wv (List.replicate 8 0)) 72)).setRow w3.heap.size (wv regs0)) :=
  ⟨setRow_heap _ _ _ _ _ _ (Blk.new w3 72 _), below_setRow (h.alloc h.size _) h.size, h.size⟩
theorem SumH.drew {p : List UInt8} {w wr : World} {H k : Nat} (h : SumH p w H k wr) : SumH p w H k wr.drew := ⟨h.1, Below.drewN h.2.1 1, h.2.2⟩
theorem SumH.reg {p : List UInt8} {w wr : World} {H k : Nat} (h : SumH p w H k wr) (i : Nat) (hi : i < 8) : wr.cell? ⟨H, i, none⟩ = some (.int .u32 (nth (blks p k) i)) := by
  rw [h.1.cell i, wv_at _ _ (by rw [blks_len]; exact hi)]
theorem SumH.step {p : ByteArray} {w w2 w3 : World} {H k : Nat} (h : SumH p.data.toList w H k w2) (b : Below w2.heap.size w2 w3) : SumH p.data.toList w H (k + 1) (w3.setRow H (wv (blk (blks p.data.toList k) (p.extract (64 * k) (64 * k + 64)).data.toList))) := by
  refine ⟨?_, below_setRow (h.2.1.trans (b.mono h.2.1.size)) h.2.2, h.2.2⟩
  have e : blks p.data.toList (k + 1) = blk (blks p.data.toList k) (p.extract (64 * k) (64 * k + 64)).data.toList := by
    rw [extract_data, show 64 * k + 64 - 64 * k = 64 by omega]
    rfl
  rw [e]
  exact setRow_heap _ _ _ _ _ _ (h.1.next b)
/-- the bytes so far, in a row of the call's own behind block H -/
def OutH (hh : List Nat) (H j : Nat) (v : Value) (W0 wr : World) : Prop := wr.ownsRow (H + 1) 5 1 v (4 * j) (cells (outTo hh j)) ∧ Below (H + 1) W0 wr ∧ H + 1 ≤ wr.heap.size
theorem OutH.start {hh : List Nat} {H : Nat} {w : World} (h : H < w.heap.size) : OutH hh H 0 (.slice none 0 0) w w := ⟨World.ownsRow_nil _ _ _ _, Below.refl _ _, h⟩
theorem OutH.step {hh : List Nat} {H j x : Nat} {l : List Value} {v : Value} {W0 w : World} (hx : nth hh j = x) (hl : cells (by4 x) = l) (h : w.ownsRow (H + 1) 5 1 v (4 * j + 4) (cells (outTo hh j) ++ l)) (hb : Below (H + 1) W0 w) (hs : H + 1 ≤ w.heap.size) : OutH hh H (j + 1) v W0 w := by
  refine ⟨?_, hb, hs⟩
  rw [show outTo hh (j + 1) = outTo hh j ++ by4 (nth hh j) from rfl, cells_append, hx, hl]
  exact h

set_option maxHeartbeats 4000000 in
set_option maxRecDepth 100000 in
theorem rsum_this (s p : ByteArray) (nb : Nat) (w : World) (hs : s.size ≤ 1099511627776) (HP : Hid (p = bs (padded s.data.toList))) (hp : p.size = 64 * nb) (out : List UInt8) (HO : Hid (outTo (blks p.data.toList nb) 8 = out)) :
    Calls Tryd.prog 30 #[.string s] w fun e w' => e = .returned (.string (bs out)) ∧ Below w.heap.size w w' := by
  have hps : p.size ≤ 1099511627776 + 72 := by
    have h1 := padOf_len s.size
    have h2 := zs_lt s.size
    rw [HP.out, bs_size, padded, List.length_append, size_list]
    omega
  have hadd : ∀ W : World, (Op.stringOp .add s (bs (padOf s.size))).run Tryd.prog W = .ok (.string p) W := fun W => by
    have h := run_add W s.data.toList (padOf s.size) (by have h1 := padOf_len s.size; have h2 := zs_lt s.size; rw [size_list]; omega)
    rw [bs_of] at h
    rw [h, HP.out, padded, size_list]
  obtain ⟨i0, hi, hz0, hz1, hz2⟩ := info_parts infoU8
  have HPAD := Lib.hid (rpad s.size (by omega) w)
  have HPS := Lib.hid hp
  clear hp HP
  go_enter Tryd.func30, Tryd.ntmps30
  go_wp2_with fail
  refine HPAD.out.mono ?_
  rintro e w2 ⟨rfl, b2⟩
  clear HPAD
  go_wp2_with fail
  refine (rRegs w2).mono ?_
  rintro e w3 ⟨rfl, b3⟩
  have HS := Lib.hid (SumH.start p.data.toList w w3 (step_below b2 b3))
  clear b2 b3 hadd
  go_wp2_with (refine wpList_store_row rfl 72 _ _ rfl w3.heap.size (wv regs0) rfl rfl 72 (wv (List.replicate 8 0)) (Blk.new w3 72 _) info8 rfl (wv_one _) ?_)
  rw [zero8]
  generalize (w3.alloc (Obj.cells (wv (List.replicate 8 0)) 72)).setRow w3.heap.size (wv regs0) = w4 at *
  generalize w3.heap.size = H at *
  clear w3
  go_loopw [4] (fun i wr => ∃ k : Nat, k ≤ nb ∧ i = .int .i64 ((64 * k : Nat) : Int) ∧ SumH p.data.toList w H k wr) (fun i _ => p.size - (intOf i).toNat)
  case atStart => exact ⟨0, Nat.zero_le _, rfl, HS.out⟩
  case round =>
    clear HS
    obtain ⟨k, hk, rfl, hS⟩ := hrel
    by_cases hlt : k < nb
    · have t1 : 64 * (k : Int) < (p.size : Int) := by have := HPS.out; omega
      have t2 : 64 * (k : Int) + 64 ≤ (p.size : Int) := by have := HPS.out; omega
      have n1 : (64 * (k : Int)).toNat = 64 * k := by omega
      have n2 : (64 * (k : Int) + 64).toNat = 64 * k + 64 := by omega
      have p1 : 0 ≤ 64 * (k : Int) := by omega
      have p2 : 0 ≤ 64 * (k : Int) + 64 := by omega
      have p3 : 64 * (k : Int) ≤ 64 * (k : Int) + 64 := by omega
      have wr1 : IntKind.i64.wrap (64 * (k : Int) + 64) = 64 * (k : Int) + 64 := IntWalk.i64_in _ (by omega)
      have HS := Lib.hid hS.drew
      have hc := hS.drew
      obtain ⟨a0, a1, a2, a3, a4, a5, a6, a7, ha⟩ := eight (blks_len p.data.toList k)
      have c0 := hc.reg 0 (by decide)
      have c1 := hc.reg 1 (by decide)
      have c2 := hc.reg 2 (by decide)
      have c3 := hc.reg 3 (by decide)
      have c4 := hc.reg 4 (by decide)
      have c5 := hc.reg 5 (by decide)
      have c6 := hc.reg 6 (by decide)
      have c7 := hc.reg 7 (by decide)
      rw [ha] at c0 c1 c2 c3 c4 c5 c6 c7
      replace c0 : wr.drew.cell? ⟨H, 0, none⟩ = some (.int .u32 a0) := c0
      replace c1 : wr.drew.cell? ⟨H, 1, none⟩ = some (.int .u32 a1) := c1
      replace c2 : wr.drew.cell? ⟨H, 2, none⟩ = some (.int .u32 a2) := c2
      replace c3 : wr.drew.cell? ⟨H, 3, none⟩ = some (.int .u32 a3) := c3
      replace c4 : wr.drew.cell? ⟨H, 4, none⟩ = some (.int .u32 a4) := c4
      replace c5 : wr.drew.cell? ⟨H, 5, none⟩ = some (.int .u32 a5) := c5
      replace c6 : wr.drew.cell? ⟨H, 6, none⟩ = some (.int .u32 a6) := c6
      replace c7 : wr.drew.cell? ⟨H, 7, none⟩ = some (.int .u32 a7) := c7
      have HA := Lib.hid ha
      clear hc hS ha
      go_wp2
      refine wp_region_still_tail 6 (by kernel_rfl) (by kernel_rfl) ?_
      simp only [List.take_succ_cons, List.take_zero, List.drop_succ_cons, List.drop_zero]
      change wpStill _ _ wr.drew (fun a' => wpList _ _ _ _ a' wr.drew) _ _
      generalize wr.drew = w3 at *
      repeat still_step
      refine wpStill_nil ?_
      clear c0 c1 c2 c3 c4 c5 c6 c7 p1 p2 p3 n1 n2 wr1
      go_wp2_with fail
      obtain ⟨o8, h8⟩ : ∃ o8, blk [a0, a1, a2, a3, a4, a5, a6, a7] (p.extract (64 * k) (64 * k + 64)).data.toList = o8 := ⟨_, rfl⟩
      have l8 : o8.length = 8 := by rw [← h8, blk_len _ _ rfl]
      have H8 := Lib.hid h8
      have L8 := Lib.hid l8
      clear h8 l8
      refine (rblock [a0, a1, a2, a3, a4, a5, a6, a7] (p.extract (64 * k) (64 * k + 64)) w3 (by rw [ByteArray.size_extract]; unfold maxLen; omega) rfl o8 H8).mono ?_
      rintro e w4 ⟨rfl, b4⟩
      have R := Lib.hid (HS.out.step b4)
      rw [HA.out, H8.out] at R
      have hB := HS.out.1.next b4
      rw [HA.out] at hB
      have HB := Lib.hid hB
      clear hB HS HA b4 H8
      go_wp2_with (refine wpList_store_row rfl 72 _ _ rfl H (wv o8) rfl rfl 72 _ HB.out (by rw [wv_size, L8.out]; exact info8) (by rw [wv_size, wv_size, L8.out]; rfl) (wv_one _) ?_)
      go_roundw
      case rel => exact ⟨k + 1, by omega, at_next k, R.out⟩
      case measure =>
        show p.size - (64 * (k : Int) + 64).toNat < p.size - ((64 * k : Nat) : Int).toNat
        omega
    · obtain rfl : k = nb := by omega
      have t1 : ¬ 64 * (k : Int) < (p.size : Int) := by have := HPS.out; omega
      obtain ⟨hh, hhh⟩ : ∃ hh, blks p.data.toList k = hh := ⟨_, rfl⟩
      have H8 := Lib.hid (show hh.length = 8 by rw [← hhh, blks_len])
      have hB := hS.1
      rw [hhh] at hB
      have HB := Lib.hid hB
      have HL := Lib.hid hS.2
      have HO2 := Lib.hid (show outTo hh 8 = out by rw [← hhh]; exact HO.out)
      clear hS hB hhh HO
      go_wp2
      generalize hW : wr = W0 at *
      clear hW
      go_loopw [5, 6] (fun v i wr => ∃ j : Nat, j ≤ 8 ∧ i = .int .i64 j ∧ OutH hh H j v W0 wr) (fun _ i _ => 8 - (intOf i).toNat)
      case atStart => exact ⟨0, Nat.zero_le _, rfl, OutH.start HB.out.lt⟩
      case round =>
        obtain ⟨j, hj, rfl, hown⟩ := hrel
        by_cases hjl : j < 8
        · obtain ⟨x, hx⟩ : ∃ x, nth hh j = x := ⟨_, rfl⟩
          have cj : wr.cell? ⟨H, j, none⟩ = some (.int .u32 x) := by
            have h := (HB.out.below hown.2.1 (Nat.lt_succ_self H)).cell j
            rw [wv_at _ _ (by rw [H8.out]; exact hjl), hx] at h
            exact h
          obtain ⟨b0, h0⟩ : ∃ b, x / 16777216 % 256 = b := ⟨_, rfl⟩
          obtain ⟨b1, h1⟩ : ∃ b, x / 65536 % 256 = b := ⟨_, rfl⟩
          obtain ⟨b2, h2⟩ : ∃ b, x / 256 % 256 = b := ⟨_, rfl⟩
          obtain ⟨b3, h3⟩ : ∃ b, x % 256 = b := ⟨_, rfl⟩
          have e0 : IntKind.u8.wrap ((x : Int) / 16777216) = (b0 : Int) := by rw [IntKind.wrap_u8]; omega
          have e1 : IntKind.u8.wrap ((x : Int) / 65536) = (b1 : Int) := by rw [IntKind.wrap_u8]; omega
          have e2 : IntKind.u8.wrap ((x : Int) / 256) = (b2 : Int) := by rw [IntKind.wrap_u8]; omega
          have e3 : IntKind.u8.wrap (x : Int) = (b3 : Int) := by rw [IntKind.wrap_u8]; omega
          have f0 : (x : Int) / 16777216 % 256 = (b0 : Int) := by omega
          have f1 : (x : Int) / 65536 % 256 = (b1 : Int) := by omega
          have f2 : (x : Int) / 256 % 256 = (b2 : Int) := by omega
          have f3 : (x : Int) % 256 = (b3 : Int) := by omega
          have HX := Lib.hid (by4_cells x b0 b1 b2 b3 h0 h1 h2 h3)
          have HN := Lib.hid hx
          have jl : (j : Int) < 8 := by omega
          have jp : (0 : Int) ≤ (j : Int) := by omega
          have hHl : H < wr.heap.size := hown.2.2
          have hne : some H ≠ u5.ownBlock := fun e => by have := (hown.1.lt H e.symm).1; omega
          have hlo : ∀ g, u5.ownBlock = some g → H + 1 ≤ g := fun g hg => (hown.1.lt g hg).1
          have HNE := Lib.hid hne
          have HLO := Lib.hid hlo
          have HWN := Lib.hid hown
          clear h0 h1 h2 h3 hx hown hne hlo
          go_wp2
          go_region_held3 (fun w' => w'.cell? ⟨H, j, none⟩ = some (.int .u32 x))
            (first
              | go_keep
              | (rw [hgrow.cell_far _ (by simp <;> omega) HNE.out]; assumption))
            ((refine step_append_lies _ (by rfl) _ _ _ (by rfl) (H + 1) 5 i0 _ 1 1 Tryd.underlying57 hi hz0 hz1 hz2 rfl (by omega) u5 (4 * j) _ (by rfl) ((HWN.out.1.alloc _).drew)
                ⟨wr.heap.size, 0, none⟩ 4 4 [.int .u8 b0, .int .u8 b1, .int .u8 b2, .int .u8 b3] (by rfl) (by rfl) (World.news_of_block (cs := #[.int .u8 b0, .int .u8 b1, .int .u8 b2, .int .u8 b3]) (t := 5) (fr := (0, 0)) (heap_alloc_new wr _)) (by simp [Value.oneCell'])
                (by omega) (by unfold maxLen; omega) (by omega) (by simp; omega) (wr.heap.size + 1) (by simp) ?_; intro gg cap w1 hown1 hgrow hat hlt'))
          have hbel : Below (H + 1) W0 w1 := Below.grown (by
              have h := HWN.out.2.1.alloc hHl (.cells #[.int .u8 b0, .int .u8 b1, .int .u8 b2, .int .u8 b3] 5)
              exact ⟨h.os, h.tape, h.output, h.size, h.block⟩) hgrow (by simp; omega) HLO.out
          have hsz : H + 1 ≤ w1.heap.size := by have := hgrow.size; simp at this; omega
          have R := Lib.hid (OutH.step HN.out HX.out hown1 hbel hsz)
          clear hown1 hgrow hat hlt' hbel hsz HWN HLO HNE HX HN cj e0 e1 e2 e3 f0 f1 f2 f3
          go_wp2
          go_roundw
          case rel => exact ⟨j + 1, by omega, by go_num, R.out⟩
          case measure => simp [intOf]; omega
        · obtain rfl : j = 8 := by omega
          have hst := run_string (H + 1) u5 (outTo hh 8) W0 wr (by rw [outTo_len]; exact ⟨World.ownsRowF_of hown.1, hown.2⟩)
          rw [HO2.out] at hst
          have hb : Below w.heap.size w wr := HL.out.1.trans (hown.2.1.mono (by have := HL.out.2; omega))
          go_wp2
          go_ret
          exact ⟨rfl, hb⟩

theorem rsum (s : ByteArray) (w : World) (hs : s.size ≤ 1099511627776) :
    Calls Tryd.prog 30 #[.string s] w fun e w' => e = .returned (.string (bs (shaOf s.data.toList))) ∧ Below w.heap.size w w' := by
  refine rsum_this s (bs (padded s.data.toList)) ((padded s.data.toList).length / 64) w hs (Lib.hid rfl) ?_ _ (Lib.hid rfl)
  rw [bs_size]
  exact padded_len _
end Go.Proofs.YtjohkimjdkginaaDoor.W
/-
  The reference's mixed and Sum.
-/
namespace Go.Proofs.YtjohkimjdkginaaDoor.W
open Go.RowKit

theorem mixed_step {f : List UInt8} {x c : UInt8} {j : Nat} {B : Nat} {v : Value} {W0 w : World} (hc : f[j]? = some c) (h : Lib.OwnBuf B 5 v (j + 1) (cells (mix x (f.take j)) ++ [.int .u8 (c ^^^ x).toNat]) W0 w) :
    Lib.OwnBuf B 5 v (j + 1) (cells (mix x (f.take (j + 1)))) W0 w := by
  have hj : j < f.length := by
    rcases Nat.lt_or_ge j f.length with h | h
    · exact h
    · rw [List.getElem?_eq_none h] at hc; cases hc
  have e : f[j] = c := by rw [List.getElem?_eq_getElem hj] at hc; exact Option.some.inj hc
  rw [mix_step f x j hj, cells_append, e]
  exact h

set_option maxHeartbeats 1000000 in
set_option maxRecDepth 100000 in
theorem mixed (k : ByteArray) (x : UInt8) (w : World) (hk : k.size ≤ 64) (f out : List UInt8) (HF : Hid (fill k.data.toList = f)) (HO : Hid (mix x f = out)) :
    Calls Tryd.prog 31 #[.string k, .int .u8 x.toNat] w fun e w' => e = .returned (.string (bs out)) ∧ Below w.heap.size w w' := by
  have FL := Lib.hid (show f.length = 64 by rw [← HF.out, fill_len _ (by rw [size_list]; exact hk)])
  obtain ⟨i0, hi, hz0, hz1, hz2⟩ := info_parts infoU8
  go_enter Tryd.func31, Tryd.ntmps31
  go_wp2
  go_loopw [5, 6] (fun v i wr => ∃ j : Nat, j ≤ 64 ∧ i = .int .i64 j ∧ Lib.OwnBuf w.heap.size 5 v j (cells (mix x (f.take j))) w wr) (fun _ i _ => 64 - (intOf i).toNat)
  case atStart => exact ⟨0, Nat.zero_le _, rfl, OwnBuf_nil w 5⟩
  case round =>
    obtain ⟨j, hj, rfl, hown⟩ := hrel
    by_cases hlt : j < 64
    · have jl : (j : Int) < 64 := by omega
      by_cases hjk : j < k.size
      · have tk : (j : Int) < (k.size : Int) := by omega
        have hc : f[j]? = some (k[j]) := by rw [← HF.out, fill_in _ _ (by rw [size_list]; exact hjk)]; rfl
        have HC := Lib.hid hc
        obtain ⟨c, hcc⟩ : ∃ c, k[j] = c := ⟨_, rfl⟩
        rw [hcc] at HC
        have hx := xor_byte c x
        have ST := Lib.hid (fun v W h => mixed_step (B := w.heap.size) (v := v) (W0 := w) (w := W) (x := x) HC.out h)
        clear hc HC
        generalize c ^^^ x = y at *
        go_wp2_with (at_builtin; go_must (refine Lib.wpList_append_byte rfl _ _ 57 rfl w.heap.size 5 i0 Tryd.underlying57 hi hz0 hz1 hz2 u5 j _ rfl w wr _ hown rfl (by omega) ?_))
        intro v7 w7 h7
        have R := Lib.hid (ST.out v7 w7 h7)
        clear h7 hown ST hx
        go_wp2
        go_roundw
        case rel => exact ⟨j + 1, by omega, by go_num, R.out⟩
        case measure => simp [intOf]; omega
      · have tk : ¬ (j : Int) < (k.size : Int) := by omega
        have hc : f[j]? = some 0 := by rw [← HF.out, fill_out _ _ (by rw [size_list]; omega) hlt]
        have hx : bits .xor .u8 0 (x.toNat : Int) = ((0 ^^^ x : UInt8).toNat : Int) := xor_byte 0 x
        have ST := Lib.hid (fun v W h => mixed_step (B := w.heap.size) (v := v) (W0 := w) (w := W) (x := x) hc h)
        clear hc
        generalize (0 ^^^ x : UInt8) = y at *
        go_wp2_with (at_builtin; go_must (refine Lib.wpList_append_byte rfl _ _ 57 rfl w.heap.size 5 i0 Tryd.underlying57 hi hz0 hz1 hz2 u5 j _ rfl w wr _ hown rfl (by omega) ?_))
        intro v7 w7 h7
        have R := Lib.hid (ST.out v7 w7 h7)
        clear h7 hown ST hx
        go_wp2
        go_roundw
        case rel => exact ⟨j + 1, by omega, by go_num, R.out⟩
        case measure => simp [intOf]; omega
    · obtain rfl : j = 64 := by omega
      have hst := run_string w.heap.size u5 out w wr (by
        rw [show out.length = 64 by rw [← HO.out, mix_len, FL.out], ← HO.out]
        rwa [List.take_of_length_le (by rw [FL.out]; exact Nat.le_refl _)] at hown)
      go_wp2
      go_ret
      exact ⟨rfl, hown.2.1⟩

set_option maxHeartbeats 1000000 in
set_option maxRecDepth 100000 in
theorem rmac_this (k s k2 : ByteArray) (w : World) (hk : k.size ≤ 1099511627776) (hs : s.size ≤ 1000000) (f m1 m2 q1 q2 : List UInt8) (h1 : mix 92 f = m1) (h2 : mix 54 f = m2)
    (h3 : shaOf (m2 ++ s.data.toList) = q1) (h4 : shaOf (m1 ++ q1) = q2) (hk2 : k2 = bs (keyOf k.data.toList)) (hf : fill k2.data.toList = f) :
    Calls Tryd.prog 16 #[.string k, .string s] w fun e w' => e = .returned (.string (bs q2)) ∧ Below w.heap.size w w' := by
  have kl : k2.size ≤ 64 := by rw [hk2, bs_size]; exact keyOf_len _
  have fl : f.length = 64 := by rw [← hf, fill_len _ (by rw [size_list]; exact kl)]
  have l1 : m1.length = 64 := by rw [← h1, mix_len, fl]
  have l2 : m2.length = 64 := by rw [← h2, mix_len, fl]
  have l3 : q1.length = 32 := by rw [← h3, shaOf_len]
  have a1 : ∀ W : World, (Op.stringOp .add (bs m2) s).run Tryd.prog W = .ok (.string (bs (m2 ++ s.data.toList))) W := fun W => by
    have h := run_add W m2 s.data.toList (by rw [size_list, l2]; omega)
    rwa [bs_of] at h
  have a2 : ∀ W : World, (Op.stringOp .add (bs m1) (bs q1)).run Tryd.prog W = .ok (.string (bs (m1 ++ q1))) W := fun W => run_add W m1 q1 (by omega)
  have S1 := Lib.hid (fun (W : World) => rsum (bs (m2 ++ s.data.toList)) W (by rw [bs_size, List.length_append, l2, size_list]; omega))
  have S2 := Lib.hid (fun (W : World) => rsum (bs (m1 ++ q1)) W (by rw [bs_size, List.length_append, l1, l3]; omega))
  rw [bs_data, h3] at S1
  rw [bs_data, h4] at S2
  have M1 := Lib.hid (fun (W : World) => mixed k2 92 W kl f m1 (Lib.hid hf) (Lib.hid h1))
  have M2 := Lib.hid (fun (W : World) => mixed k2 54 W kl f m2 (Lib.hid hf) (Lib.hid h2))
  clear h1 h2 h3 h4 hf fl l1 l2 l3
  by_cases hk64 : 64 < k.size
  · have R := Lib.hid (rsum k w hk)
    rw [← keyOf_long _ (by rw [size_list]; exact hk64), ← hk2] at R
    clear hk2
    have t64 : (64 : Int) < (k.size : Int) := by omega
    go_enter Tryd.func16, Tryd.ntmps16
    go_wp2_with fail
    refine R.out.mono ?_
    rintro e w1 ⟨rfl, b1⟩
    clear R
    go_wp2_with fail
    refine (M1.out _).mono ?_
    rintro e w2 ⟨rfl, b2⟩
    replace b2 := Lib.hid (step_below b1 b2)
    clear b1 M1
    go_wp2_with fail
    refine (M2.out w2).mono ?_
    rintro e w3 ⟨rfl, b3⟩
    replace b3 := Lib.hid (step_below b2.out b3)
    clear b2 M2
    go_wp2_with fail
    refine (S1.out w3).mono ?_
    rintro e w4 ⟨rfl, b4⟩
    replace b4 := Lib.hid (step_below b3.out b4)
    clear b3 S1 a1
    go_wp2_with fail
    refine (S2.out w4).mono ?_
    rintro e w5 ⟨rfl, b5⟩
    replace b5 := step_below b4.out b5
    clear b4 S2 a2
    go_wp2
    go_ret
    exact ⟨rfl, b5⟩
  · obtain rfl : k = k2 := by rw [hk2, keyOf_short _ (by rw [size_list]; omega), bs_of]
    have t64 : ¬ (64 : Int) < (k.size : Int) := by omega
    have b1 := Below.refl w.heap.size w
    clear hk2
    go_enter Tryd.func16, Tryd.ntmps16
    go_wp2_with fail
    refine (M1.out _).mono ?_
    rintro e w2 ⟨rfl, b2⟩
    replace b2 := Lib.hid (step_below b1 b2)
    clear b1 M1
    go_wp2_with fail
    refine (M2.out w2).mono ?_
    rintro e w3 ⟨rfl, b3⟩
    replace b3 := Lib.hid (step_below b2.out b3)
    clear b2 M2
    go_wp2_with fail
    refine (S1.out w3).mono ?_
    rintro e w4 ⟨rfl, b4⟩
    replace b4 := Lib.hid (step_below b3.out b4)
    clear b3 S1 a1
    go_wp2_with fail
    refine (S2.out w4).mono ?_
    rintro e w5 ⟨rfl, b5⟩
    replace b5 := step_below b4.out b5
    clear b4 S2 a2
    go_wp2
    go_ret
    exact ⟨rfl, b5⟩
theorem rmac (k s : ByteArray) (w : World) (hk : k.size ≤ 1099511627776) (hs : s.size ≤ 1000000) :
    Calls Tryd.prog 16 #[.string k, .string s] w fun e w' => e = .returned (.string (bs (macOf k.data.toList s.data.toList))) ∧ Below w.heap.size w w' :=
  rmac_this k s (bs (keyOf k.data.toList)) w hk hs _ _ _ _ _ rfl rfl rfl rfl rfl rfl
end Go.Proofs.YtjohkimjdkginaaDoor.W
/-
  The reference's Sign of headers.
-/
namespace Go.Proofs.YtjohkimjdkginaaDoor.W
open Go.RowKit

/-- a header and an error's number -/
def retHE (r : Hdr × Int) : Value := .tuple #[hdV r.1, .int .i64 r.2]
/-- two boxes for headers: one filled, one for what is answered -/
structure SgAt (w : World) (c : ByteArray) (a b : Int) (r m : ByteArray) (W : World) : Prop where
  x : Blk W w.heap.size 23 #[.string c, .int .i64 a, .int .i64 b, .string r, .string m]
  o : Blk W (w.heap.size + 1) 23 #[.string ⟨#[]⟩, .int .i64 0, .int .i64 0, .string ⟨#[]⟩, .string ⟨#[]⟩]
  s : Since w W
section
variable {w W W' : World} {c r m : ByteArray} {a b : Int}
theorem sg_start (w : World) (c : ByteArray) (a b : Int) (r m : ByteArray) : SgAt w c a b r m ((w.alloc (.cells #[.string c, .int .i64 a, .int .i64 b, .string r, .string m] 23)).alloc (.cells #[.string ⟨#[]⟩, .int .i64 0, .int .i64 0, .string ⟨#[]⟩, .string ⟨#[]⟩] 23)) := by
  have h1 := Blk.new w 23 #[.string c, .int .i64 a, .int .i64 b, .string r, .string m]
  have b1 : Below w.heap.size w (w.alloc (.cells #[.string c, .int .i64 a, .int .i64 b, .string r, .string m] 23)) := (Below.refl _ w).alloc (Nat.le_refl _) _
  have e1 : (w.alloc (.cells #[.string c, .int .i64 a, .int .i64 b, .string r, .string m] 23)).heap.size = w.heap.size + 1 := by simp
  generalize w.alloc (.cells #[.string c, .int .i64 a, .int .i64 b, .string r, .string m] 23) = W1 at *
  have h2 := Blk.new W1 23 #[.string ⟨#[]⟩, .int .i64 0, .int .i64 0, .string ⟨#[]⟩, .string ⟨#[]⟩]
  rw [e1] at h2
  exact ⟨h1.alloc _, h2, since_of (b1.alloc b1.size _)⟩
theorem SgAt.next (h : SgAt w c a b r m W) (k : Below W.heap.size W W') : SgAt w c a b r m W' := ⟨h.x.below k h.x.lt, h.o.below k h.o.lt, since_of (step_below h.s.below k)⟩
theorem SgAt.put (h : SgAt w c a b r m W) (m' : ByteArray) : SgAt w c a b r m' (W.setCell ⟨w.heap.size, 4, none⟩ (.string m')) :=
  ⟨h.x.set_ 4 _, h.o.far (p := ⟨w.heap.size, 4, none⟩) (by simp only; omega) _, since_of (h.s.below.setCell (Nat.le_refl _) _)⟩
theorem SgAt.c0 (h : SgAt w c a b r m W) : W.cell? ⟨w.heap.size, 0, none⟩ = some (.string c) := h.x.c 0 rfl
theorem SgAt.c1 (h : SgAt w c a b r m W) : W.cell? ⟨w.heap.size, 1, none⟩ = some (.int .i64 a) := h.x.c 1 rfl
theorem SgAt.c2 (h : SgAt w c a b r m W) : W.cell? ⟨w.heap.size, 2, none⟩ = some (.int .i64 b) := h.x.c 2 rfl
theorem SgAt.c3 (h : SgAt w c a b r m W) : W.cell? ⟨w.heap.size, 3, none⟩ = some (.string r) := h.x.c 3 rfl
theorem SgAt.c4 (h : SgAt w c a b r m W) : W.cell? ⟨w.heap.size, 4, none⟩ = some (.string m) := h.x.c 4 rfl
theorem SgAt.d0 (h : SgAt w c a b r m W) : W.cell? ⟨w.heap.size + 1, 0, none⟩ = some (.string ⟨#[]⟩) := h.o.c 0 rfl
theorem SgAt.d1 (h : SgAt w c a b r m W) : W.cell? ⟨w.heap.size + 1, 1, none⟩ = some (.int .i64 0) := h.o.c 1 rfl
theorem SgAt.d2 (h : SgAt w c a b r m W) : W.cell? ⟨w.heap.size + 1, 2, none⟩ = some (.int .i64 0) := h.o.c 2 rfl
theorem SgAt.d3 (h : SgAt w c a b r m W) : W.cell? ⟨w.heap.size + 1, 3, none⟩ = some (.string ⟨#[]⟩) := h.o.c 3 rfl
theorem SgAt.d4 (h : SgAt w c a b r m W) : W.cell? ⟨w.heap.size + 1, 4, none⟩ = some (.string ⟨#[]⟩) := h.o.c 4 rfl
/-- what is answered lies in the second box -/
theorem sg_done (h : SgAt w c a b r m W) (v0 v1 v2 v3 v4 : Value) :
    Blk (((((W.setCell ⟨w.heap.size + 1, 0, none⟩ v0).setCell ⟨w.heap.size + 1, 1, none⟩ v1).setCell ⟨w.heap.size + 1, 2, none⟩ v2).setCell ⟨w.heap.size + 1, 3, none⟩ v3).setCell ⟨w.heap.size + 1, 4, none⟩ v4) (w.heap.size + 1) 23 #[v0, v1, v2, v3, v4] ∧
    Since w (((((W.setCell ⟨w.heap.size + 1, 0, none⟩ v0).setCell ⟨w.heap.size + 1, 1, none⟩ v1).setCell ⟨w.heap.size + 1, 2, none⟩ v2).setCell ⟨w.heap.size + 1, 3, none⟩ v3).setCell ⟨w.heap.size + 1, 4, none⟩ v4) :=
  ⟨put5 h.o v0 v1 v2 v3 v4, since_put5 h.s (by omega) v0 v1 v2 v3 v4⟩
end
set_option maxHeartbeats 4000000 in
set_option maxRecDepth 100000 in
theorem rSign_this (key : ByteArray) (c : ByteArray) (a b : Int) (r m : ByteArray) (s : List UInt8) (f : Int) (q : List UInt8) (w : World)
    (K1 : Hid (∀ W, Calls Tryd.prog 15 #[.agg #[.string c, .int .i64 a, .int .i64 b, .string r, .string m]] W fun e w' => e = .returned (.tuple #[.string (bs s), .int .i64 f]) ∧ Since W w'))
    (K2 : Hid (∀ W, Calls Tryd.prog 16 #[.string key, .string (bs s)] W fun e w' => e = .returned (.string (bs q)) ∧ Below W.heap.size W w')) :
    Calls Tryd.prog 12 #[.string key, .agg #[.string c, .int .i64 a, .int .i64 b, .string r, .string m]] w fun e w' => e = .returned (retHE (if f ≠ 0 then (Hdr.zero, f) else (⟨c, a, b, r, bs q⟩, 0))) ∧ Since w w' := by
  have H0 := Lib.hid (sg_start w c a b r m)
  have y0 := H0.out.c0
  have y1 := H0.out.c1
  have y2 := H0.out.c2
  have y3 := H0.out.c3
  have y4 := H0.out.c4
  go_enter Tryd.func12, Tryd.ntmps12
  go_wp2_with fail
  clear y0 y1 y2 y3 y4
  generalize ((w.alloc (.cells #[.string c, .int .i64 a, .int .i64 b, .string r, .string m] 23)).alloc (.cells #[.string ⟨#[]⟩, .int .i64 0, .int .i64 0, .string ⟨#[]⟩, .string ⟨#[]⟩] 23)) = W0 at *
  refine (K1.out _).mono ?_
  rintro e w1 ⟨rfl, q1⟩
  have H1 := Lib.hid (H0.out.next q1.below)
  clear H0 K1 q1
  have d0 := H1.out.d0
  have d1 := H1.out.d1
  have d2 := H1.out.d2
  have d3 := H1.out.d3
  have d4 := H1.out.d4
  have f0 := H1.out.o.frozen 0
  have f1 := H1.out.o.frozen 1
  have f2 := H1.out.o.frozen 2
  have f3 := H1.out.o.frozen 3
  have f4 := H1.out.o.frozen 4
  by_cases hf : f = 0
  · subst hf
    have y4 := H1.out.c4
    have z4 := H1.out.x.frozen 4
    go_wp2_with fail
    refine (K2.out _).mono ?_
    rintro e w2 ⟨rfl, q2⟩
    have H2 := Lib.hid (H1.out.next q2)
    clear d0 d1 d2 d3 d4 f0 f1 f2 f3 f4 y4 z4 H1 K2 q2
    have y0 := H2.out.c0
    have y1 := H2.out.c1
    have y2 := H2.out.c2
    have y3 := H2.out.c3
    have y4 := H2.out.c4
    have z4 := H2.out.x.frozen 4
    have d0 := H2.out.d0
    have d1 := H2.out.d1
    have d2 := H2.out.d2
    have d3 := H2.out.d3
    have d4 := H2.out.d4
    have f0 := H2.out.o.frozen 0
    have f1 := H2.out.o.frozen 1
    have f2 := H2.out.o.frozen 2
    have f3 := H2.out.o.frozen 3
    have f4 := H2.out.o.frozen 4
    have D := Lib.hid (sg_done (H2.out.put (bs q)) (.string c) (.int .i64 a) (.int .i64 b) (.string r) (.string (bs q)))
    go_wp2
    have D1 := D.out.1
    refine bodyPost_ret (v := retHE (⟨c, a, b, r, bs q⟩, 0)) (by simp [results, Tryd.results12, go_sem, retHE, hdV, D1.c 0 rfl, D1.c 1 rfl, D1.c 2 rfl, D1.c 3 rfl, D1.c 4 rfl]) rfl ?_
    exact ⟨rfl, D.out.2⟩
  · have hen : (f != 0) = true := by rw [bne_iff_ne]; exact hf
    have D := Lib.hid (sg_done H1.out (.string ⟨#[]⟩) (.int .i64 0) (.int .i64 0) (.string ⟨#[]⟩) (.string ⟨#[]⟩))
    go_wp2
    have D1 := D.out.1
    refine bodyPost_ret (v := retHE (Hdr.zero, f)) (by simp [results, Tryd.results12, go_sem, retHE, hdV, Hdr.zero, D1.c 0 rfl, D1.c 1 rfl, D1.c 2 rfl, D1.c 3 rfl, D1.c 4 rfl]) rfl ?_
    exact ⟨rfl, D.out.2⟩
theorem rSign (key : ByteArray) (h : Hdr) (w : World) (hk : key.size ≤ 1099511627776) :
    Calls Tryd.prog 12 #[.string key, hdV h] w fun e w' => e = .returned (retHE (signOf key h)) ∧ Since w w' := by
  have hl := body_len h
  have K1 := Lib.hid (fun W => rBody h W)
  obtain ⟨⟨s, f⟩, eb⟩ : ∃ s, s = bodyOf h := ⟨_, rfl⟩
  unfold signOf
  rw [← eb] at K1 hl ⊢
  have K2 := Lib.hid (fun W => rmac key (bs s) W hk (by rw [bs_size]; simp only at hl; omega))
  simp only [bs_data] at K2
  exact rSign_this key h.chain h.height h.time h.root h.mac s f _ w K1 K2
end Go.Proofs.YtjohkimjdkginaaDoor.W
/-
  The reference's Good of headers.
-/
namespace Go.Proofs.YtjohkimjdkginaaDoor.W
open Go.RowKit

theorem guardH : Tryd.prog.eqGuardType Tryd.prog.depth 23 = false := by kernel_rfl
set_option maxHeartbeats 4000000 in
set_option maxRecDepth 100000 in
theorem rGood_this (key : ByteArray) (c : ByteArray) (a b : Int) (r m : ByteArray) (c' : ByteArray) (a' b' : Int) (r' m' : ByteArray) (f : Int) (w : World)
    (K1 : Hid (∀ W, Calls Tryd.prog 12 #[.string key, .agg #[.string c, .int .i64 a, .int .i64 b, .string r, .string m]] W fun e w' => e = .returned (.tuple #[.agg #[.string c', .int .i64 a', .int .i64 b', .string r', .string m'], .int .i64 f]) ∧ Since W w')) :
    Calls Tryd.prog 14 #[.string key, .agg #[.string c, .int .i64 a, .int .i64 b, .string r, .string m]] w fun e w' => e = .returned (.bool (decide (f = 0 ∧ (c' = c ∧ a' = a ∧ b' = b ∧ r' = r ∧ m' = m)))) ∧ Since w w' := by
  have HB := Lib.hid (Blk.new w 23 #[.string c, .int .i64 a, .int .i64 b, .string r, .string m])
  have HS := Lib.hid (show Since w (w.alloc (.cells #[.string c, .int .i64 a, .int .i64 b, .string r, .string m] 23)) from since_of ((Below.refl _ w).alloc (Nat.le_refl _) _))
  have y0 : (w.alloc (.cells #[.string c, .int .i64 a, .int .i64 b, .string r, .string m] 23)).cell? ⟨w.heap.size, 0, none⟩ = some (.string c) := HB.out.c 0 rfl
  have y1 : (w.alloc (.cells #[.string c, .int .i64 a, .int .i64 b, .string r, .string m] 23)).cell? ⟨w.heap.size, 1, none⟩ = some (.int .i64 a) := HB.out.c 1 rfl
  have y2 : (w.alloc (.cells #[.string c, .int .i64 a, .int .i64 b, .string r, .string m] 23)).cell? ⟨w.heap.size, 2, none⟩ = some (.int .i64 b) := HB.out.c 2 rfl
  have y3 : (w.alloc (.cells #[.string c, .int .i64 a, .int .i64 b, .string r, .string m] 23)).cell? ⟨w.heap.size, 3, none⟩ = some (.string r) := HB.out.c 3 rfl
  have y4 : (w.alloc (.cells #[.string c, .int .i64 a, .int .i64 b, .string r, .string m] 23)).cell? ⟨w.heap.size, 4, none⟩ = some (.string m) := HB.out.c 4 rfl
  have EQ : ∀ W : World, (Op.equalIn 10000 23 (.agg #[.string c', .int .i64 a', .int .i64 b', .string r', .string m']) (.agg #[.string c, .int .i64 a, .int .i64 b, .string r, .string m])).run Tryd.prog W = .ok (decide (c' = c ∧ a' = a ∧ b' = b ∧ r' = r ∧ m' = m)) W := fun W => eq_hd5 _ _ _ _ _ _ _ _ _ _ W
  have GU := guardH
  go_enter Tryd.func14, Tryd.ntmps14
  go_wp2_with fail
  refine (K1.out _).mono ?_
  rintro e w1 ⟨rfl, q1⟩
  have X1 := HB.out.next q1.below
  have S1 : Since w w1 := since_of (step_below HS.out.below q1.below)
  have hlt : w.heap.size ≤ w1.heap.size := Nat.le_of_lt X1.lt
  clear HB HS K1 q1 y0 y1 y2 y3 y4
  have X2 := X1.alloc (.cells #[.string c', .int .i64 a', .int .i64 b', .string r', .string m'] 23)
  have S2 := Lib.hid (show Since w (w1.alloc (.cells #[.string c', .int .i64 a', .int .i64 b', .string r', .string m'] 23)) from since_of (S1.below.alloc hlt _))
  have y0 : (w1.alloc (.cells #[.string c', .int .i64 a', .int .i64 b', .string r', .string m'] 23)).cell? ⟨w.heap.size, 0, none⟩ = some (.string c) := X2.c 0 rfl
  have y1 : (w1.alloc (.cells #[.string c', .int .i64 a', .int .i64 b', .string r', .string m'] 23)).cell? ⟨w.heap.size, 1, none⟩ = some (.int .i64 a) := X2.c 1 rfl
  have y2 : (w1.alloc (.cells #[.string c', .int .i64 a', .int .i64 b', .string r', .string m'] 23)).cell? ⟨w.heap.size, 2, none⟩ = some (.int .i64 b) := X2.c 2 rfl
  have y3 : (w1.alloc (.cells #[.string c', .int .i64 a', .int .i64 b', .string r', .string m'] 23)).cell? ⟨w.heap.size, 3, none⟩ = some (.string r) := X2.c 3 rfl
  have y4 : (w1.alloc (.cells #[.string c', .int .i64 a', .int .i64 b', .string r', .string m'] 23)).cell? ⟨w.heap.size, 4, none⟩ = some (.string m) := X2.c 4 rfl
  clear X1 X2 S1 hlt
  by_cases hf : f = 0
  · subst hf
    go_wp2
    go_ret
    exact ⟨rfl, S2.out⟩
  · have hfe : (f == 0) = false := by rw [beq_eq_false_iff_ne]; exact hf
    go_wp2
    go_ret
    exact ⟨by simp [hf], S2.out⟩
theorem rGood (key : ByteArray) (h : Hdr) (w : World) (hk : key.size ≤ 1099511627776) :
    Calls Tryd.prog 14 #[.string key, hdV h] w fun e w' => e = .returned (.bool (goodOf key h)) ∧ Since w w' := by
  have K1 := Lib.hid (fun W => rSign key h W hk)
  unfold retHE at K1
  have e : goodOf key h = decide ((signOf key h).2 = 0 ∧ ((signOf key h).1.chain = h.chain ∧ (signOf key h).1.height = h.height ∧ (signOf key h).1.time = h.time ∧ (signOf key h).1.root = h.root ∧ (signOf key h).1.mac = h.mac)) := by
    unfold goodOf
    generalize (signOf key h).1 = x
    obtain ⟨c, a, b, r, m⟩ := x
    obtain ⟨c', a', b', r', m'⟩ := h
    simp
  rw [e]
  exact rGood_this key h.chain h.height h.time h.root h.mac _ _ _ _ _ _ w K1
end Go.Proofs.YtjohkimjdkginaaDoor.W
/-
  footbridgelaw13.awake answers true, from what its calls answer.
-/
namespace Go.Proofs.YtjohkimjdkginaaDoor.W
open Go.RowKit

abbrev hdA (m : ByteArray) : Value := .agg #[.string ⟨#[97]⟩, .int .i64 1, .int .i64 2, .string ⟨#[]⟩, .string m]
/-- what the calls of the law's examples answer, in any world since V -/
structure Aw13 (V : World) (M T : ByteArray) : Prop where
  p0 : ∀ W, Since V W → Calls Tryd.prog 7 #[.agg #[.string ⟨#[97]⟩, .int .i64 1, .int .i64 2, .string ⟨#[]⟩, .string ⟨#[]⟩]] W fun e w' => e = .returned (.tuple #[.string ⟨#[1, 1, 97, 1, 1, 1, 2, 0, 0]⟩, .int .i64 0]) ∧ Since W w'
  sg : ∀ W, Since V W → Calls Tryd.prog 11 #[.string ⟨#[107]⟩, .agg #[.string ⟨#[97]⟩, .int .i64 1, .int .i64 2, .string ⟨#[]⟩, .string ⟨#[]⟩]] W fun e w' => e = .returned (.tuple #[.agg #[.string ⟨#[97]⟩, .int .i64 1, .int .i64 2, .string ⟨#[]⟩, .string M], .int .i64 0]) ∧ Since W w'
  p1 : ∀ W, Since V W → Calls Tryd.prog 7 #[.agg #[.string ⟨#[97]⟩, .int .i64 1, .int .i64 2, .string ⟨#[]⟩, .string M]] W fun e w' => e = .returned (.tuple #[.string T, .int .i64 0]) ∧ Since W w'
  r1 : ∀ W, Since V W → Calls Tryd.prog 9 #[.string T] W fun e w' => e = .returned (.tuple #[.agg #[.string ⟨#[97]⟩, .int .i64 1, .int .i64 2, .string ⟨#[]⟩, .string M], .int .i64 0]) ∧ Since W w'
  rx : ∀ W, Since V W → Calls Tryd.prog 9 #[.string (T ++ ⟨#[120]⟩)] W fun e w' => e = .returned (.tuple #[.agg #[.string ⟨#[]⟩, .int .i64 0, .int .i64 0, .string ⟨#[]⟩, .string ⟨#[]⟩], .int .i64 6]) ∧ Since W w'
  sx : ∀ W, Since V W → Calls Tryd.prog 11 #[.string ⟨#[107]⟩, .agg #[.string ⟨#[]⟩, .int .i64 (-1), .int .i64 0, .string ⟨#[]⟩, .string ⟨#[]⟩]] W fun e w' => e = .returned (.tuple #[.agg #[.string ⟨#[]⟩, .int .i64 0, .int .i64 0, .string ⟨#[]⟩, .string ⟨#[]⟩], .int .i64 3]) ∧ Since W w'
  g1 : ∀ W, Since V W → Calls Tryd.prog 13 #[.string ⟨#[107]⟩, .agg #[.string ⟨#[97]⟩, .int .i64 1, .int .i64 2, .string ⟨#[]⟩, .string M]] W fun e w' => e = .returned (.bool true) ∧ Since W w'
  g2 : ∀ W, Since V W → Calls Tryd.prog 13 #[.string ⟨#[108]⟩, .agg #[.string ⟨#[97]⟩, .int .i64 1, .int .i64 2, .string ⟨#[]⟩, .string M]] W fun e w' => e = .returned (.bool false) ∧ Since W w'
  g3 : ∀ W, Since V W → Calls Tryd.prog 13 #[.string ⟨#[107]⟩, .agg #[.string ⟨#[97]⟩, .int .i64 1, .int .i64 3, .string ⟨#[]⟩, .string M]] W fun e w' => e = .returned (.bool false) ∧ Since W w'
/-- a box of a header -/
abbrev HdBlk (W : World) (g : Nat) (c : ByteArray) (a b : Int) (r m : ByteArray) : Prop := Blk W g 23 #[.string c, .int .i64 a, .int .i64 b, .string r, .string m]
section
variable {W : World} {g : Nat} {c r m : ByteArray} {a b : Int}
theorem hd_y0 (h : HdBlk W g c a b r m) : W.cell? ⟨g, 0, none⟩ = some (.string c) := h.c 0 rfl
theorem hd_y1 (h : HdBlk W g c a b r m) : W.cell? ⟨g, 1, none⟩ = some (.int .i64 a) := h.c 1 rfl
theorem hd_y2 (h : HdBlk W g c a b r m) : W.cell? ⟨g, 2, none⟩ = some (.int .i64 b) := h.c 2 rfl
theorem hd_y3 (h : HdBlk W g c a b r m) : W.cell? ⟨g, 3, none⟩ = some (.string r) := h.c 3 rfl
theorem hd_y4 (h : HdBlk W g c a b r m) : W.cell? ⟨g, 4, none⟩ = some (.string m) := h.c 4 rfl
end
theorem hd_new (W : World) (c : ByteArray) (a b : Int) (r m : ByteArray) : HdBlk (W.alloc (.cells #[.string c, .int .i64 a, .int .i64 b, .string r, .string m] 23)) W.heap.size c a b r m := Blk.new W _ _
theorem since_alloc {w W : World} (h : Since w W) (ob : Obj) : Since w (W.alloc ob) := since_of (h.below.alloc h.below.size _)
theorem since_two {V W w' : World} (h1 : Since V W) (h2 : Since W w') : Since V w' := since_of (step_below h1.below h2.below)
theorem aw_old (w W : World) (n g h : Nat) (M : ByteArray) (hn : W.heap.size = n) (S : Since w W) (X : HdBlk W g ⟨#[97]⟩ 1 2 ⟨#[]⟩ M) (Y : HdBlk W h ⟨#[97]⟩ 1 2 ⟨#[]⟩ M) :
    HdBlk (W.alloc (.cells #[.string ⟨#[97]⟩, .int .i64 1, .int .i64 3, .string ⟨#[]⟩, .string M] 23)) g ⟨#[97]⟩ 1 2 ⟨#[]⟩ M ∧ HdBlk (W.alloc (.cells #[.string ⟨#[97]⟩, .int .i64 1, .int .i64 3, .string ⟨#[]⟩, .string M] 23)) h ⟨#[97]⟩ 1 2 ⟨#[]⟩ M ∧
    HdBlk (W.alloc (.cells #[.string ⟨#[97]⟩, .int .i64 1, .int .i64 3, .string ⟨#[]⟩, .string M] 23)) n ⟨#[97]⟩ 1 3 ⟨#[]⟩ M ∧ Since w (W.alloc (.cells #[.string ⟨#[97]⟩, .int .i64 1, .int .i64 3, .string ⟨#[]⟩, .string M] 23)) := by
  subst hn
  exact ⟨X.alloc _, Y.alloc _, hd_new W ⟨#[97]⟩ 1 3 ⟨#[]⟩ M, since_alloc S _⟩
set_option maxHeartbeats 40000000 in
set_option maxRecDepth 100000 in
theorem awake13_this (w : World) (M T : ByteArray) (hM : M.size = 32) (hT : T.size ≤ 100000000) (H : Aw13 w M T) :
    Calls Tryd.prog 6 #[] w fun e w' => e = .returned (.bool true) ∧ Since w w' := by
  have HH := Lib.hid H
  clear H
  have EQ : ∀ W : World, (Op.equalIn 10000 23 (.agg #[.string ⟨#[97]⟩, .int .i64 1, .int .i64 2, .string ⟨#[]⟩, .string M]) (.agg #[.string ⟨#[97]⟩, .int .i64 1, .int .i64 2, .string ⟨#[]⟩, .string M])).run Tryd.prog W = .ok true W := fun W => by rw [eq_hd5]; simp
  have GU := guardH
  go_enter Tryd.func6, Tryd.ntmps6
  go_wp2_with fail
  refine (HH.out.p0 _ (Since.refl w)).mono ?_
  rintro e w1 ⟨rfl, S1⟩
  replace S1 := Lib.hid S1
  go_wp2_with fail
  refine (HH.out.sg _ S1.out).mono ?_
  rintro e w2 ⟨rfl, q⟩
  have S2 := Lib.hid (since_alloc (since_two S1.out q) (.cells #[.string ⟨#[97]⟩, .int .i64 1, .int .i64 2, .string ⟨#[]⟩, .string M] 23))
  have X2 := Lib.hid (hd_new w2 ⟨#[97]⟩ 1 2 ⟨#[]⟩ M)
  clear S1 q
  have y0 := hd_y0 X2.out
  have y1 := hd_y1 X2.out
  have y2 := hd_y2 X2.out
  have y3 := hd_y3 X2.out
  have y4 := hd_y4 X2.out
  go_wp2_with fail
  clear y0 y1 y2 y3 y4
  refine (HH.out.p1 _ S2.out).mono ?_
  rintro e w3 ⟨rfl, q⟩
  have S3 := Lib.hid (since_two S2.out q)
  have X3 := Lib.hid (X2.out.next q.below)
  clear S2 X2 q
  go_wp2_with fail
  refine (HH.out.r1 _ S3.out).mono ?_
  rintro e w4 ⟨rfl, q⟩
  have X4 := Lib.hid ((X3.out.next q.below).alloc (.cells #[.string ⟨#[97]⟩, .int .i64 1, .int .i64 2, .string ⟨#[]⟩, .string M] 23))
  have S4 := Lib.hid (since_alloc (since_two S3.out q) (.cells #[.string ⟨#[97]⟩, .int .i64 1, .int .i64 2, .string ⟨#[]⟩, .string M] 23))
  have Y4 := Lib.hid (hd_new w4 ⟨#[97]⟩ 1 2 ⟨#[]⟩ M)
  clear S3 X3 q
  go_wp2_with fail
  refine (HH.out.rx _ S4.out).mono ?_
  rintro e w5 ⟨rfl, q⟩
  have X5 := Lib.hid ((X4.out.next q.below).alloc (.cells #[.string ⟨#[]⟩, .int .i64 0, .int .i64 0, .string ⟨#[]⟩, .string ⟨#[]⟩] 23))
  have Y5 := Lib.hid ((Y4.out.next q.below).alloc (.cells #[.string ⟨#[]⟩, .int .i64 0, .int .i64 0, .string ⟨#[]⟩, .string ⟨#[]⟩] 23))
  have S5 := Lib.hid (since_alloc (since_two S4.out q) (.cells #[.string ⟨#[]⟩, .int .i64 0, .int .i64 0, .string ⟨#[]⟩, .string ⟨#[]⟩] 23))
  clear S4 X4 Y4 q
  go_wp2_with fail
  refine (HH.out.sx _ S5.out).mono ?_
  rintro e w6 ⟨rfl, q⟩
  have X6 := Lib.hid ((X5.out.next q.below).alloc (.cells #[.string ⟨#[]⟩, .int .i64 0, .int .i64 0, .string ⟨#[]⟩, .string ⟨#[]⟩] 23))
  have Y6 := Lib.hid ((Y5.out.next q.below).alloc (.cells #[.string ⟨#[]⟩, .int .i64 0, .int .i64 0, .string ⟨#[]⟩, .string ⟨#[]⟩] 23))
  have S6 := Lib.hid (since_alloc (since_two S5.out q) (.cells #[.string ⟨#[]⟩, .int .i64 0, .int .i64 0, .string ⟨#[]⟩, .string ⟨#[]⟩] 23))
  clear S5 X5 Y5 q
  obtain ⟨x7, y7, z7, s7⟩ := aw_old w (w6.alloc (.cells #[.string ⟨#[]⟩, .int .i64 0, .int .i64 0, .string ⟨#[]⟩, .string ⟨#[]⟩] 23)) (w6.heap.size + 1) _ _ M (by simp) S6.out X6.out Y6.out
  have X7 := Lib.hid x7
  have Y7 := Lib.hid y7
  have Z7 := Lib.hid z7
  have S7 := Lib.hid s7
  clear x7 y7 z7 s7
  have y0 := hd_y0 X6.out
  have y1 := hd_y1 X6.out
  have y2 := hd_y2 X6.out
  have y3 := hd_y3 X6.out
  have y4 := hd_y4 X6.out
  have x0 := hd_y0 X7.out
  have x1 := hd_y1 X7.out
  have x2 := hd_y2 X7.out
  have x3 := hd_y3 X7.out
  have x4 := hd_y4 X7.out
  have z0 := hd_y0 Y7.out
  have z1 := hd_y1 Y7.out
  have z2 := hd_y2 Y7.out
  have z3 := hd_y3 Y7.out
  have z4 := hd_y4 Y7.out
  clear X6 Y6 Y7 S6
  go_wp2_with fail
  clear y0 y1 y2 y3 y4 z0 z1 z2 z3 z4 x0 x1 x2 x3 x4
  refine (HH.out.g1 _ S7.out).mono ?_
  rintro e w8 ⟨rfl, q⟩
  have X8 := Lib.hid (X7.out.next q.below)
  have Z8 := Lib.hid (Z7.out.next q.below)
  have S8 := Lib.hid (since_two S7.out q)
  clear X7 Z7 S7 q
  have y0 := hd_y0 X8.out
  have y1 := hd_y1 X8.out
  have y2 := hd_y2 X8.out
  have y3 := hd_y3 X8.out
  have y4 := hd_y4 X8.out
  go_wp2_with fail
  clear y0 y1 y2 y3 y4 X8
  refine (HH.out.g2 _ S8.out).mono ?_
  rintro e w9 ⟨rfl, q⟩
  have Z9 := Lib.hid (Z8.out.next q.below)
  have S9 := Lib.hid (since_two S8.out q)
  clear Z8 S8 q
  have y0 := hd_y0 Z9.out
  have y1 := hd_y1 Z9.out
  have y2 := hd_y2 Z9.out
  have y3 := hd_y3 Z9.out
  have y4 := hd_y4 Z9.out
  go_wp2_with fail
  refine (HH.out.g3 _ S9.out).mono ?_
  rintro e w10 ⟨rfl, q⟩
  have S10 := Lib.hid (since_two S9.out q)
  clear y0 y1 y2 y3 y4 Z9 S9 q
  go_wp2
  go_ret
  exact ⟨rfl, S10.out⟩
end Go.Proofs.YtjohkimjdkginaaDoor.W
/-
  header.Sign.
-/
namespace Go.Proofs.YtjohkimjdkginaaDoor.W
open Go.RowKit

set_option maxHeartbeats 4000000 in
set_option maxRecDepth 100000 in
theorem hSign_this (key : ByteArray) (c : ByteArray) (a b : Int) (r m : ByteArray) (s : List UInt8) (f : Int) (q : List UInt8) (w : World)
    (K1 : Hid (∀ W, Calls Tryd.prog 17 #[.agg #[.string c, .int .i64 a, .int .i64 b, .string r, .string m]] W fun e w' => e = .returned (.tuple #[.string (bs s), .int .i64 f]) ∧ Since W w'))
    (K2 : Hid (∀ W, Since w W → Calls Tryd.prog 28 #[.string key, .string (bs s)] W fun e w' => e = .returned (.string (bs q)) ∧ Below W.heap.size W w')) :
    Calls Tryd.prog 11 #[.string key, .agg #[.string c, .int .i64 a, .int .i64 b, .string r, .string m]] w fun e w' => e = .returned (retHE (if f ≠ 0 then (Hdr.zero, f) else (⟨c, a, b, r, bs q⟩, 0))) ∧ Since w w' := by
  have H0 := Lib.hid (sg_start w c a b r m)
  have y0 := H0.out.c0
  have y1 := H0.out.c1
  have y2 := H0.out.c2
  have y3 := H0.out.c3
  have y4 := H0.out.c4
  go_enter Tryd.func11, Tryd.ntmps11
  go_wp2_with fail
  clear y0 y1 y2 y3 y4
  generalize ((w.alloc (.cells #[.string c, .int .i64 a, .int .i64 b, .string r, .string m] 23)).alloc (.cells #[.string ⟨#[]⟩, .int .i64 0, .int .i64 0, .string ⟨#[]⟩, .string ⟨#[]⟩] 23)) = W0 at *
  refine (K1.out _).mono ?_
  rintro e w1 ⟨rfl, q1⟩
  have H1 := Lib.hid (H0.out.next q1.below)
  clear H0 K1 q1
  have d0 := H1.out.d0
  have d1 := H1.out.d1
  have d2 := H1.out.d2
  have d3 := H1.out.d3
  have d4 := H1.out.d4
  have f0 := H1.out.o.frozen 0
  have f1 := H1.out.o.frozen 1
  have f2 := H1.out.o.frozen 2
  have f3 := H1.out.o.frozen 3
  have f4 := H1.out.o.frozen 4
  by_cases hf : f = 0
  · subst hf
    have y4 := H1.out.c4
    have z4 := H1.out.x.frozen 4
    go_wp2_with fail
    refine (K2.out _ H1.out.s).mono ?_
    rintro e w2 ⟨rfl, q2⟩
    have H2 := Lib.hid (H1.out.next q2)
    clear d0 d1 d2 d3 d4 f0 f1 f2 f3 f4 y4 z4 H1 K2 q2
    have y0 := H2.out.c0
    have y1 := H2.out.c1
    have y2 := H2.out.c2
    have y3 := H2.out.c3
    have y4 := H2.out.c4
    have z4 := H2.out.x.frozen 4
    have d0 := H2.out.d0
    have d1 := H2.out.d1
    have d2 := H2.out.d2
    have d3 := H2.out.d3
    have d4 := H2.out.d4
    have f0 := H2.out.o.frozen 0
    have f1 := H2.out.o.frozen 1
    have f2 := H2.out.o.frozen 2
    have f3 := H2.out.o.frozen 3
    have f4 := H2.out.o.frozen 4
    have D := Lib.hid (sg_done (H2.out.put (bs q)) (.string c) (.int .i64 a) (.int .i64 b) (.string r) (.string (bs q)))
    go_wp2
    have D1 := D.out.1
    refine bodyPost_ret (v := retHE (⟨c, a, b, r, bs q⟩, 0)) (by simp [results, Tryd.results11, go_sem, retHE, hdV, D1.c 0 rfl, D1.c 1 rfl, D1.c 2 rfl, D1.c 3 rfl, D1.c 4 rfl]) rfl ?_
    exact ⟨rfl, D.out.2⟩
  · have hen : (f != 0) = true := by rw [bne_iff_ne]; exact hf
    have D := Lib.hid (sg_done H1.out (.string ⟨#[]⟩) (.int .i64 0) (.int .i64 0) (.string ⟨#[]⟩) (.string ⟨#[]⟩))
    go_wp2
    have D1 := D.out.1
    refine bodyPost_ret (v := retHE (Hdr.zero, f)) (by simp [results, Tryd.results11, go_sem, retHE, hdV, Hdr.zero, D1.c 0 rfl, D1.c 1 rfl, D1.c 2 rfl, D1.c 3 rfl, D1.c 4 rfl]) rfl ?_
    exact ⟨rfl, D.out.2⟩
theorem hSignC (key : ByteArray) (h : Hdr) (w : World) (hr : Roots w) (hk : key.size ≤ 1099511627776) :
    Calls Tryd.prog 11 #[.string key, hdV h] w fun e w' => e = .returned (retHE (signOf key h)) ∧ Since w w' := by
  have hl := body_len h
  have K1 := Lib.hid (fun W => partC h W)
  obtain ⟨⟨s, f⟩, eb⟩ : ∃ s, s = bodyOf h := ⟨_, rfl⟩
  unfold signOf
  rw [← eb] at K1 hl ⊢
  have K2 := Lib.hid (fun W (hW : Since w W) => macSum key (bs s) W (hr.since hW) hk (by rw [bs_size]; simp only at hl; omega))
  simp only [bs_data] at K2
  exact hSign_this key h.chain h.height h.time h.root h.mac s f _ w K1 K2
end Go.Proofs.YtjohkimjdkginaaDoor.W
/-
  header.Good.
-/
namespace Go.Proofs.YtjohkimjdkginaaDoor.W
open Go.RowKit

set_option maxHeartbeats 4000000 in
set_option maxRecDepth 100000 in
theorem hGood_this (key : ByteArray) (c : ByteArray) (a b : Int) (r m : ByteArray) (c' : ByteArray) (a' b' : Int) (r' m' : ByteArray) (f : Int) (w : World)
    (K1 : Hid (∀ W, Since w W → Calls Tryd.prog 11 #[.string key, .agg #[.string c, .int .i64 a, .int .i64 b, .string r, .string m]] W fun e w' => e = .returned (.tuple #[.agg #[.string c', .int .i64 a', .int .i64 b', .string r', .string m'], .int .i64 f]) ∧ Since W w')) :
    Calls Tryd.prog 13 #[.string key, .agg #[.string c, .int .i64 a, .int .i64 b, .string r, .string m]] w fun e w' => e = .returned (.bool (decide (f = 0 ∧ (c' = c ∧ a' = a ∧ b' = b ∧ r' = r ∧ m' = m)))) ∧ Since w w' := by
  have HB := Lib.hid (Blk.new w 23 #[.string c, .int .i64 a, .int .i64 b, .string r, .string m])
  have HS := Lib.hid (show Since w (w.alloc (.cells #[.string c, .int .i64 a, .int .i64 b, .string r, .string m] 23)) from since_of ((Below.refl _ w).alloc (Nat.le_refl _) _))
  have y0 : (w.alloc (.cells #[.string c, .int .i64 a, .int .i64 b, .string r, .string m] 23)).cell? ⟨w.heap.size, 0, none⟩ = some (.string c) := HB.out.c 0 rfl
  have y1 : (w.alloc (.cells #[.string c, .int .i64 a, .int .i64 b, .string r, .string m] 23)).cell? ⟨w.heap.size, 1, none⟩ = some (.int .i64 a) := HB.out.c 1 rfl
  have y2 : (w.alloc (.cells #[.string c, .int .i64 a, .int .i64 b, .string r, .string m] 23)).cell? ⟨w.heap.size, 2, none⟩ = some (.int .i64 b) := HB.out.c 2 rfl
  have y3 : (w.alloc (.cells #[.string c, .int .i64 a, .int .i64 b, .string r, .string m] 23)).cell? ⟨w.heap.size, 3, none⟩ = some (.string r) := HB.out.c 3 rfl
  have y4 : (w.alloc (.cells #[.string c, .int .i64 a, .int .i64 b, .string r, .string m] 23)).cell? ⟨w.heap.size, 4, none⟩ = some (.string m) := HB.out.c 4 rfl
  have EQ : ∀ W : World, (Op.equalIn 10000 23 (.agg #[.string c', .int .i64 a', .int .i64 b', .string r', .string m']) (.agg #[.string c, .int .i64 a, .int .i64 b, .string r, .string m])).run Tryd.prog W = .ok (decide (c' = c ∧ a' = a ∧ b' = b ∧ r' = r ∧ m' = m)) W := fun W => eq_hd5 _ _ _ _ _ _ _ _ _ _ W
  have GU := guardH
  go_enter Tryd.func13, Tryd.ntmps13
  go_wp2_with fail
  refine (K1.out _ HS.out).mono ?_
  rintro e w1 ⟨rfl, q1⟩
  have X1 := HB.out.next q1.below
  have S1 : Since w w1 := since_of (step_below HS.out.below q1.below)
  have hlt : w.heap.size ≤ w1.heap.size := Nat.le_of_lt X1.lt
  clear HB HS K1 q1 y0 y1 y2 y3 y4
  have X2 := X1.alloc (.cells #[.string c', .int .i64 a', .int .i64 b', .string r', .string m'] 23)
  have S2 := Lib.hid (show Since w (w1.alloc (.cells #[.string c', .int .i64 a', .int .i64 b', .string r', .string m'] 23)) from since_of (S1.below.alloc hlt _))
  have y0 : (w1.alloc (.cells #[.string c', .int .i64 a', .int .i64 b', .string r', .string m'] 23)).cell? ⟨w.heap.size, 0, none⟩ = some (.string c) := X2.c 0 rfl
  have y1 : (w1.alloc (.cells #[.string c', .int .i64 a', .int .i64 b', .string r', .string m'] 23)).cell? ⟨w.heap.size, 1, none⟩ = some (.int .i64 a) := X2.c 1 rfl
  have y2 : (w1.alloc (.cells #[.string c', .int .i64 a', .int .i64 b', .string r', .string m'] 23)).cell? ⟨w.heap.size, 2, none⟩ = some (.int .i64 b) := X2.c 2 rfl
  have y3 : (w1.alloc (.cells #[.string c', .int .i64 a', .int .i64 b', .string r', .string m'] 23)).cell? ⟨w.heap.size, 3, none⟩ = some (.string r) := X2.c 3 rfl
  have y4 : (w1.alloc (.cells #[.string c', .int .i64 a', .int .i64 b', .string r', .string m'] 23)).cell? ⟨w.heap.size, 4, none⟩ = some (.string m) := X2.c 4 rfl
  clear X1 X2 S1 hlt
  by_cases hf : f = 0
  · subst hf
    go_wp2
    go_ret
    exact ⟨rfl, S2.out⟩
  · have hfe : (f == 0) = false := by rw [beq_eq_false_iff_ne]; exact hf
    go_wp2
    go_ret
    exact ⟨by simp [hf], S2.out⟩
theorem hGoodC (key : ByteArray) (h : Hdr) (w : World) (hr : Roots w) (hk : key.size ≤ 1099511627776) :
    Calls Tryd.prog 13 #[.string key, hdV h] w fun e w' => e = .returned (.bool (goodOf key h)) ∧ Since w w' := by
  have K1 := Lib.hid (fun W (hW : Since w W) => hSignC key h W (hr.since hW) hk)
  unfold retHE at K1
  have e : goodOf key h = decide ((signOf key h).2 = 0 ∧ ((signOf key h).1.chain = h.chain ∧ (signOf key h).1.height = h.height ∧ (signOf key h).1.time = h.time ∧ (signOf key h).1.root = h.root ∧ (signOf key h).1.mac = h.mac)) := by
    unfold goodOf
    generalize (signOf key h).1 = x
    obtain ⟨c, a, b, r, m⟩ := x
    obtain ⟨c', a', b', r', m'⟩ := h
    simp
  rw [e]
  exact hGood_this key h.chain h.height h.time h.root h.mac _ _ _ _ _ _ w K1
end Go.Proofs.YtjohkimjdkginaaDoor.W
/-
  header.Read.
-/
namespace Go.Proofs.YtjohkimjdkginaaDoor.W
open Go.RowKit

/-- what lies in Read: the box of what is answered, the reader -/
structure HrAt (w : World) (s : ByteArray) (e : Int) (W : World) : Prop where
  o : Blk W w.heap.size 23 #[.string ⟨#[]⟩, .int .i64 0, .int .i64 0, .string ⟨#[]⟩, .string ⟨#[]⟩]
  q : RdAt W (w.heap.size + 1) s e
  s : Since w W
section
variable {w W W' : World} {s s' : ByteArray} {e e' : Int}
theorem hr_start (w : World) (s : ByteArray) : HrAt w s 0 ((w.alloc (.cells #[.string ⟨#[]⟩, .int .i64 0, .int .i64 0, .string ⟨#[]⟩, .string ⟨#[]⟩] 23)).alloc (.cells #[.string s, .int .i64 0] 62)) := by
  have h1 := Blk.new w 23 #[.string ⟨#[]⟩, .int .i64 0, .int .i64 0, .string ⟨#[]⟩, .string ⟨#[]⟩]
  have b1 : Below w.heap.size w (w.alloc (.cells #[.string ⟨#[]⟩, .int .i64 0, .int .i64 0, .string ⟨#[]⟩, .string ⟨#[]⟩] 23)) := (Below.refl _ w).alloc (Nat.le_refl _) _
  have e1 : (w.alloc (.cells #[.string ⟨#[]⟩, .int .i64 0, .int .i64 0, .string ⟨#[]⟩, .string ⟨#[]⟩] 23)).heap.size = w.heap.size + 1 := by simp
  generalize w.alloc (.cells #[.string ⟨#[]⟩, .int .i64 0, .int .i64 0, .string ⟨#[]⟩, .string ⟨#[]⟩] 23) = W1 at *
  have h2 := Blk.new W1 62 #[.string s, .int .i64 0]
  rw [e1] at h2
  exact ⟨h1.alloc _, h2, since_of (b1.alloc b1.size _)⟩
theorem HrAt.step (h : HrAt w s e W) {v : Value} {en : Ending} (k : RdPost W (w.heap.size + 1) v s' e' en W') : HrAt w s' e' W' :=
  ⟨h.o.grown k.2.2 (by intro x; injection x with x; omega), k.2.1, since_of (step_only h.s.below k.2.2 (by omega))⟩
theorem HrAt.alloc (h : HrAt w s e W) (ob : Obj) : HrAt w s e (W.alloc ob) := ⟨h.o.alloc _, h.q.alloc _, since_of (h.s.below.alloc h.s.below.size _)⟩
theorem hr_done (h : HrAt w s e W) (v0 v1 v2 v3 v4 : Value) :
    Blk (((((W.setCell ⟨w.heap.size, 0, none⟩ v0).setCell ⟨w.heap.size, 1, none⟩ v1).setCell ⟨w.heap.size, 2, none⟩ v2).setCell ⟨w.heap.size, 3, none⟩ v3).setCell ⟨w.heap.size, 4, none⟩ v4) w.heap.size 23 #[v0, v1, v2, v3, v4] ∧
    Since w (((((W.setCell ⟨w.heap.size, 0, none⟩ v0).setCell ⟨w.heap.size, 1, none⟩ v1).setCell ⟨w.heap.size, 2, none⟩ v2).setCell ⟨w.heap.size, 3, none⟩ v3).setCell ⟨w.heap.size, 4, none⟩ v4) :=
  ⟨put5 h.o v0 v1 v2 v3 v4, since_put5 h.s (Nat.le_refl _) v0 v1 v2 v3 v4⟩
theorem HrAt.d0 (h : HrAt w s e W) : W.cell? ⟨w.heap.size, 0, none⟩ = some (.string ⟨#[]⟩) := h.o.c 0 rfl
theorem HrAt.d1 (h : HrAt w s e W) : W.cell? ⟨w.heap.size, 1, none⟩ = some (.int .i64 0) := h.o.c 1 rfl
theorem HrAt.d2 (h : HrAt w s e W) : W.cell? ⟨w.heap.size, 2, none⟩ = some (.int .i64 0) := h.o.c 2 rfl
theorem HrAt.d3 (h : HrAt w s e W) : W.cell? ⟨w.heap.size, 3, none⟩ = some (.string ⟨#[]⟩) := h.o.c 3 rfl
theorem HrAt.d4 (h : HrAt w s e W) : W.cell? ⟨w.heap.size, 4, none⟩ = some (.string ⟨#[]⟩) := h.o.c 4 rfl
end
set_option maxHeartbeats 4000000 in
set_option maxRecDepth 100000 in
theorem hRead_this (s s1 s2 s3 s4 s5 : ByteArray) (e1 e2 e3 e4 e5 : Int) (c : ByteArray) (a b : Nat) (r m : ByteArray) (d : Int) (w : World)
    (N1 : Hid (∀ W, RdAt W (w.heap.size + 1) s 0 → Calls Tryd.prog 22 #[.pointer (some ⟨w.heap.size + 1, 0, none⟩)] W (RdPost W (w.heap.size + 1) (.string c) s1 e1)))
    (N2 : Hid (∀ W, RdAt W (w.heap.size + 1) s1 e1 → Calls Tryd.prog 23 #[.pointer (some ⟨w.heap.size + 1, 0, none⟩)] W (RdPost W (w.heap.size + 1) (.int .i64 a) s2 e2)))
    (N3 : Hid (∀ W, RdAt W (w.heap.size + 1) s2 e2 → Calls Tryd.prog 23 #[.pointer (some ⟨w.heap.size + 1, 0, none⟩)] W (RdPost W (w.heap.size + 1) (.int .i64 b) s3 e3)))
    (N4 : Hid (∀ W, RdAt W (w.heap.size + 1) s3 e3 → Calls Tryd.prog 22 #[.pointer (some ⟨w.heap.size + 1, 0, none⟩)] W (RdPost W (w.heap.size + 1) (.string r) s4 e4)))
    (N5 : Hid (∀ W, RdAt W (w.heap.size + 1) s4 e4 → Calls Tryd.prog 22 #[.pointer (some ⟨w.heap.size + 1, 0, none⟩)] W (RdPost W (w.heap.size + 1) (.string m) s5 e5)))
    (N6 : Hid (∀ W, RdAt W (w.heap.size + 1) s5 e5 → Calls Tryd.prog 24 #[.pointer (some ⟨w.heap.size + 1, 0, none⟩)] W fun en w' => en = .returned (.int .i64 d) ∧ W = w')) :
    Calls Tryd.prog 9 #[.string s] w fun e w' => e = .returned (retHE (if d ≠ 0 then (Hdr.zero, d) else (⟨c, a, b, r, m⟩, 0))) ∧ Since w w' := by
  have H0 := Lib.hid (hr_start w s)
  have z0 : (w.alloc (.cells #[.string ⟨#[]⟩, .int .i64 0, .int .i64 0, .string ⟨#[]⟩, .string ⟨#[]⟩] 23)).heap.size = w.heap.size + 1 := by simp
  go_enter Tryd.func9, Tryd.ntmps9
  go_wp2_with fail
  refine (new s _).mono ?_
  rintro e w0 ⟨rfl, rfl⟩
  rw [z0]
  clear z0
  generalize ((w.alloc (.cells #[.string ⟨#[]⟩, .int .i64 0, .int .i64 0, .string ⟨#[]⟩, .string ⟨#[]⟩] 23)).alloc (.cells #[.string s, .int .i64 0] 62)) = W0 at *
  go_wp2_with fail
  refine (N1.out _ H0.out.q).mono ?_
  rintro e w1 q
  have H1 := Lib.hid (H0.out.step q)
  obtain ⟨rfl, -, -⟩ := q
  clear H0 N1
  go_wp2_with fail
  refine (N2.out _ H1.out.q).mono ?_
  rintro e w2 q
  have H2 := Lib.hid (H1.out.step q)
  obtain ⟨rfl, -, -⟩ := q
  clear H1 N2
  go_wp2_with fail
  refine (N3.out _ H2.out.q).mono ?_
  rintro e w3 q
  have H3 := Lib.hid (H2.out.step q)
  obtain ⟨rfl, -, -⟩ := q
  clear H2 N3
  go_wp2_with fail
  refine (N4.out _ H3.out.q).mono ?_
  rintro e w4 q
  have H4 := Lib.hid (H3.out.step q)
  obtain ⟨rfl, -, -⟩ := q
  clear H3 N4
  go_wp2_with fail
  refine (N5.out _ H4.out.q).mono ?_
  rintro e w5 q
  have H5 := Lib.hid (H4.out.step q)
  obtain ⟨rfl, -, -⟩ := q
  clear H4 N5
  go_wp2_with fail
  have B6 := Lib.hid (Blk.new w5 23 #[.string c, .int .i64 a, .int .i64 b, .string r, .string m])
  have H6 := Lib.hid (H5.out.alloc (.cells #[.string c, .int .i64 a, .int .i64 b, .string r, .string m] 23))
  clear H5
  refine (N6.out _ H6.out.q).mono ?_
  rintro e w6 ⟨rfl, rfl⟩
  clear N6
  have d0 := H6.out.d0
  have d1 := H6.out.d1
  have d2 := H6.out.d2
  have d3 := H6.out.d3
  have d4 := H6.out.d4
  have f0 := H6.out.o.frozen 0
  have f1 := H6.out.o.frozen 1
  have f2 := H6.out.o.frozen 2
  have f3 := H6.out.o.frozen 3
  have f4 := H6.out.o.frozen 4
  by_cases hf : d = 0
  · subst hf
    have y0 : (w5.alloc (.cells #[.string c, .int .i64 a, .int .i64 b, .string r, .string m] 23)).cell? ⟨w5.heap.size, 0, none⟩ = some (.string c) := B6.out.c 0 rfl
    have y1 : (w5.alloc (.cells #[.string c, .int .i64 a, .int .i64 b, .string r, .string m] 23)).cell? ⟨w5.heap.size, 1, none⟩ = some (.int .i64 a) := B6.out.c 1 rfl
    have y2 : (w5.alloc (.cells #[.string c, .int .i64 a, .int .i64 b, .string r, .string m] 23)).cell? ⟨w5.heap.size, 2, none⟩ = some (.int .i64 b) := B6.out.c 2 rfl
    have y3 : (w5.alloc (.cells #[.string c, .int .i64 a, .int .i64 b, .string r, .string m] 23)).cell? ⟨w5.heap.size, 3, none⟩ = some (.string r) := B6.out.c 3 rfl
    have y4 : (w5.alloc (.cells #[.string c, .int .i64 a, .int .i64 b, .string r, .string m] 23)).cell? ⟨w5.heap.size, 4, none⟩ = some (.string m) := B6.out.c 4 rfl
    have D := Lib.hid (hr_done H6.out (.string c) (.int .i64 a) (.int .i64 b) (.string r) (.string m))
    generalize w5.alloc (.cells #[.string c, .int .i64 a, .int .i64 b, .string r, .string m] 23) = W6 at *
    go_wp2
    have D1 := D.out.1
    refine bodyPost_ret (v := retHE (⟨c, a, b, r, m⟩, 0)) (by simp [results, Tryd.results9, go_sem, retHE, hdV, D1.c 0 rfl, D1.c 1 rfl, D1.c 2 rfl, D1.c 3 rfl, D1.c 4 rfl]) rfl ?_
    exact ⟨rfl, D.out.2⟩
  · have hen : (d != 0) = true := by rw [bne_iff_ne]; exact hf
    have D := Lib.hid (hr_done H6.out (.string ⟨#[]⟩) (.int .i64 0) (.int .i64 0) (.string ⟨#[]⟩) (.string ⟨#[]⟩))
    generalize w5.alloc (.cells #[.string c, .int .i64 a, .int .i64 b, .string r, .string m] 23) = W6 at *
    go_wp2
    have D1 := D.out.1
    refine bodyPost_ret (v := retHE (Hdr.zero, d)) (by simp [results, Tryd.results9, go_sem, retHE, hdV, Hdr.zero, D1.c 0 rfl, D1.c 1 rfl, D1.c 2 rfl, D1.c 3 rfl, D1.c 4 rfl]) rfl ?_
    exact ⟨rfl, D.out.2⟩
theorem hReadC (s : ByteArray) (w : World) (hs : s.size ≤ 9223372036854775807) :
    Calls Tryd.prog 9 #[.string s] w fun e w' => e = .returned (retHE (rdHd s)) ∧ Since w w' := by
  have z1 := (stText_facts s 0).1
  have z2 := (stNum_facts (stText s 0).1.1 (stText s 0).1.2).2.1
  have z3 := (stNum_facts (stNum (stText s 0).1.1 (stText s 0).1.2).1.1 (stNum (stText s 0).1.1 (stText s 0).1.2).1.2).2.1
  have z4 := (stText_facts (stNum (stNum (stText s 0).1.1 (stText s 0).1.2).1.1 (stNum (stText s 0).1.1 (stText s 0).1.2).1.2).1.1 (stNum (stNum (stText s 0).1.1 (stText s 0).1.2).1.1 (stNum (stText s 0).1.1 (stText s 0).1.2).1.2).1.2).1
  have h := hRead_this s _ _ _ _ _ _ _ _ _ _ _ _ _ _ _ _ w (Lib.hid fun W hW => textAt _ s 0 W hW hs) (Lib.hid fun W hW => numAt _ _ _ W hW (by omega)) (Lib.hid fun W hW => numAt _ _ _ W hW (by omega)) (Lib.hid fun W hW => textAt _ _ _ W hW (by omega)) (Lib.hid fun W hW => textAt _ _ _ W hW (by omega)) (Lib.hid fun W hW => doneAt _ _ _ W hW)
  exact h
end Go.Proofs.YtjohkimjdkginaaDoor.W
/-
  footbridgelaw13.awake: the calls of its examples.
-/
namespace Go.Proofs.YtjohkimjdkginaaDoor.W
open Go.RowKit

def exH (t : Int) (m : ByteArray) : Hdr := ⟨⟨#[97]⟩, 1, t, ⟨#[]⟩, m⟩
theorem body_2 (m : ByteArray) : bodyOf (exH 2 m) = (eb1, 0) := (show bodyOf (exH 2 m) = bodyOf (exH 2 ⟨#[]⟩) from rfl).trans (by decide +kernel)
theorem body_3 (m : ByteArray) : bodyOf (exH 3 m) = (eb2, 0) := (show bodyOf (exH 3 m) = bodyOf (exH 3 ⟨#[]⟩) from rfl).trans (by decide +kernel)
theorem hd_ex : encHd (exH 2 ⟨#[]⟩) = ([1, 1, 97, 1, 1, 1, 2, 0, 0], 0) := by decide +kernel
theorem sign_ex (m : ByteArray) : signOf ⟨#[107]⟩ (exH 2 m) = (exH 2 (bs ekoh), 0) := by
  unfold signOf
  rw [body_2, if_neg (by simp)]
  show (exH 2 (bs (macOf [107] eb1)), (0 : Int)) = _
  rw [ek_mac]
theorem sign_l (m : ByteArray) : signOf ⟨#[108]⟩ (exH 2 m) = (exH 2 (bs eloh), 0) := by
  unfold signOf
  rw [body_2, if_neg (by simp)]
  show (exH 2 (bs (macOf [108] eb1)), (0 : Int)) = _
  rw [el_mac]
theorem sign_3 (m : ByteArray) : signOf ⟨#[107]⟩ (exH 3 m) = (exH 3 (bs eooh), 0) := by
  unfold signOf
  rw [body_3, if_neg (by simp)]
  show (exH 3 (bs (macOf [107] eb2)), (0 : Int)) = _
  rw [eo_mac]
theorem sign_bad : signOf ⟨#[107]⟩ ⟨⟨#[]⟩, -1, 0, ⟨#[]⟩, ⟨#[]⟩⟩ = (Hdr.zero, 3) := by
  unfold signOf
  rw [show bodyOf ⟨⟨#[]⟩, -1, 0, ⟨#[]⟩, ⟨#[]⟩⟩ = ([], 3) by decide +kernel, if_pos (by decide)]
theorem enc_h1 : (encHd (exH 2 (bs ekoh))).2 = 0 := by
  have h := (sign_good ⟨#[107]⟩ (exH 2 ⟨#[]⟩) (by rw [body_2])).2.2.1
  rwa [sign_ex] at h
theorem bs_inj' {a b : List UInt8} (h : bs a = bs b) : a = b := by
  have := congrArg (fun x : ByteArray => x.data.toList) h
  simpa [bs_data] using this
theorem good_ex : goodOf ⟨#[107]⟩ (exH 2 (bs ekoh)) = true := by
  unfold goodOf
  rw [sign_ex]
  simp
theorem good_l : goodOf ⟨#[108]⟩ (exH 2 (bs ekoh)) = false := by
  unfold goodOf
  rw [sign_l]
  refine decide_eq_false fun h => mac_kl (bs_inj' ?_)
  exact (congrArg Hdr.mac h.2).symm
theorem good_3 : goodOf ⟨#[107]⟩ (exH 3 (bs ekoh)) = false := by
  unfold goodOf
  rw [sign_3]
  refine decide_eq_false fun h => mac_ko (bs_inj' ?_)
  exact (congrArg Hdr.mac h.2).symm
theorem hd_len (h : Hdr) : (encHd h).1.length ≤ 262144 := by
  have h1 := body_len h
  have h2 := encText_len h.mac
  have h3 := radd_len (bodyOf h) (encText h.mac)
  unfold encHd
  omega
theorem awk13 (w : World) (hr : Roots w) : Aw13 w (bs ekoh) (bs (encHd (exH 2 (bs ekoh))).1) where
  p0 W _ := (hPutC (exH 2 ⟨#[]⟩) W).mono fun e w' ⟨he, hs⟩ => ⟨by rw [he, hd_ex]; rfl, hs⟩
  sg W hW := (hSignC ⟨#[107]⟩ (exH 2 ⟨#[]⟩) W (hr.since hW) (by decide)).mono fun e w' ⟨he, hs⟩ => ⟨by rw [he, sign_ex]; rfl, hs⟩
  p1 W _ := (hPutC (exH 2 (bs ekoh)) W).mono fun e w' ⟨he, hs⟩ => ⟨by rw [he]; unfold retSE; rw [enc_h1], hs⟩
  r1 W _ := (hReadC (bs (encHd (exH 2 (bs ekoh))).1) W (by rw [bs_size]; have := hd_len (exH 2 (bs ekoh)); omega)).mono fun e w' ⟨he, hs⟩ => by
    have hb := rd_hd (exH 2 (bs ekoh)) enc_h1 []
    rw [List.append_nil, if_pos rfl] at hb
    rw [hb] at he
    exact ⟨he, hs⟩
  rx W _ := by
    rw [show (⟨#[120]⟩ : ByteArray) = bs [120] from rfl, bs_append]
    refine (hReadC _ W (by rw [bs_size, List.length_append]; have := hd_len (exH 2 (bs ekoh)); show _ + 1 ≤ _; omega)).mono fun e w' ⟨he, hs⟩ => ?_
    have hb := rd_hd (exH 2 (bs ekoh)) enc_h1 [120]
    rw [if_neg (by simp)] at hb
    rw [hb] at he
    exact ⟨he, hs⟩
  sx W hW := (hSignC ⟨#[107]⟩ ⟨⟨#[]⟩, -1, 0, ⟨#[]⟩, ⟨#[]⟩⟩ W (hr.since hW) (by decide)).mono fun e w' ⟨he, hs⟩ => ⟨by rw [he, sign_bad]; rfl, hs⟩
  g1 W hW := (hGoodC ⟨#[107]⟩ (exH 2 (bs ekoh)) W (hr.since hW) (by decide)).mono fun e w' ⟨he, hs⟩ => ⟨by rw [he, good_ex], hs⟩
  g2 W hW := (hGoodC ⟨#[108]⟩ (exH 2 (bs ekoh)) W (hr.since hW) (by decide)).mono fun e w' ⟨he, hs⟩ => ⟨by rw [he, good_l], hs⟩
  g3 W hW := (hGoodC ⟨#[107]⟩ (exH 3 (bs ekoh)) W (hr.since hW) (by decide)).mono fun e w' ⟨he, hs⟩ => ⟨by rw [he, good_3], hs⟩
theorem awake13 (w : World) (hr : Roots w) : Calls Tryd.prog 6 #[] w fun e w' => e = .returned (.bool true) ∧ Since w w' :=
  awake13_this w _ _ (by rw [bs_size]; decide) (by rw [bs_size]; have := hd_len (exH 2 (bs ekoh)); omega) (awk13 w hr)
end Go.Proofs.YtjohkimjdkginaaDoor.W
