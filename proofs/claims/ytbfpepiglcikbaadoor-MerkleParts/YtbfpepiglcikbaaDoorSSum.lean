/-
  sha.Sum: the hash of a string.
-/
import Derived.Test.YtbfpepiglcikbaaDoorSPad
import Derived.Test.YtbfpepiglcikbaaDoorSBlock
import Derived.StillTailTactics
import Derived.IntWalk
namespace Go.Proofs.YtbfpepiglcikbaaDoor.W
open Go.RowKit

/-- 'buf = append(buf, a, b, c, d)' -/
theorem wpList_append_four {P : Program} {ops : Array Oper} {rest : List Oper} {o : Oper} {a : Act} {Q : Exit → Act → World → Prop} (hgd : o.guard = none) (s x : Operand) (t : TypeId)
    (ho : o.op = .call { callee := .builtin .append, args := #[s, x], argTypes := #[t, t] })
    (B : Nat) (e : TypeId) (i : TypeInfo) (ht : P.underlying t = some (.slice e)) (hi : P.info? e = some i) (hz : i.zero = some (.int .u8 0)) (hsize : i.size = 1) (hby : i.bytes = 1)
    (v : Value) (n : Nat) (xs : List Value) (hs : a.eval s = v) (W0 w0 : World) (c d f g : Int) (hb : Lib.OwnBuf B e v n xs W0 w0)
    (hx : a.eval x = .slice (some ⟨w0.heap.size, 0, none⟩) 4 4) (hlen : n + 4 ≤ 140737488355328)
    (h : ∀ v' w', Lib.OwnBuf B e v' (n + 4) (xs ++ [.int .u8 c, .int .u8 d, .int .u8 f, .int .u8 g]) W0 w' → wpList P ops Q rest (a.put o.dst v') w') : wpList P ops Q (o :: rest) a (w0.alloc (.cells #[.int .u8 c, .int .u8 d, .int .u8 f, .int .u8 g] e)) := by
  have hb' := hb.alloc (.cells #[.int .u8 c, .int .u8 d, .int .u8 f, .int .u8 g] e)
  refine wpList_append_ownF _ hgd s x t ho B e i (.int .u8 0) 1 1 ht hi hz hsize hby rfl (by decide) v n xs hs hb'.1 ⟨w0.heap.size, 0, none⟩ 4 4 [.int .u8 c, .int .u8 d, .int .u8 f, .int .u8 g] hx rfl ?_ ?_ (by unfold maxLen; omega) (by omega) hb'.2.2 ?_
  · intro j u hj
    match j, hj with
    | 0, hj => simp at hj; subst hj; simp [Addr.add]
    | 1, hj => simp at hj; subst hj; simp [Addr.add]
    | 2, hj => simp at hj; subst hj; simp [Addr.add]
    | 3, hj => simp at hj; subst hj; simp [Addr.add]
    | (j + 4), hj => simp at hj
  · intro u hu
    simp at hu
    rcases hu with rfl | rfl | rfl | rfl <;> rfl
  · intro v' w' ho' hg _
    exact h v' w' (hb'.grown ho' hg)

/-- the registers lie in the first new block -/
def SumAt (p : List UInt8) (w : World) (k : Nat) (wr : World) : Prop := Blk wr w.heap.size 44 (wv (blks p k)) ∧ Below w.heap.size w wr

theorem SumAt.drew {p : List UInt8} {w wr : World} {k : Nat} (h : SumAt p w k wr) : SumAt p w k wr.drew := ⟨h.1, Below.drewN h.2 1⟩
theorem SumAt.reg {p : List UInt8} {w wr : World} {k : Nat} (h : SumAt p w k wr) (i : Nat) (hi : i < 8) : wr.cell? ⟨w.heap.size, i, none⟩ = some (.int .u32 (nth (blks p k) i)) := by
  rw [h.1.cell i, wv_at _ _ (by rw [blks_len]; exact hi)]
theorem extract_data (p : ByteArray) (a b : Nat) : (p.extract a b).data.toList = (p.data.toList.drop a).take (b - a) := by
  rw [ByteArray.data_extract, Array.toList_extract, List.extract_eq_take_drop]
theorem SumAt.step {p : ByteArray} {w w2 w3 : World} {k : Nat} (h : SumAt p.data.toList w k w2) (b : Below w2.heap.size w2 w3) : SumAt p.data.toList w (k + 1) (w3.setRow w.heap.size (wv (blk (blks p.data.toList k) (p.extract (64 * k) (64 * k + 64)).data.toList))) := by
  refine ⟨?_, below_setRow (h.2.trans (b.mono h.2.size)) (Nat.le_refl _)⟩
  have e : blks p.data.toList (k + 1) = blk (blks p.data.toList k) (p.extract (64 * k) (64 * k + 64)).data.toList := by
    rw [extract_data, show 64 * k + 64 - 64 * k = 64 by omega]
    rfl
  rw [e]
  exact setRow_heap _ _ _ _ _ _ (h.1.next b)
theorem at_next (k : Nat) : Value.int .i64 (64 * (k : Int) + 64) = Value.int .i64 ((64 * (k + 1) : Nat) : Int) := by rw [show ((64 * (k + 1) : Nat) : Int) = 64 * (k : Int) + 64 by omega]
theorem out_start {w wr : World} {v : Value} {w2 : World} (hb : Below w.heap.size w wr) (h : Lib.OwnBuf wr.heap.size 5 v 0 [] wr w2) : Lib.OwnBuf w.heap.size 5 v 0 [] w w2 := by
  obtain ⟨h1, h2, h3⟩ := h
  refine ⟨⟨h1.1, ?_⟩, hb.trans (h2.mono hb.size), Nat.le_trans hb.size h3⟩
  rcases h1.2 with hn | ⟨g, cap, cur, fz, e1, e2, rest⟩
  · exact .inl hn
  · exact .inr ⟨g, cap, cur, fz, e1, Nat.le_trans hb.size e2, rest⟩
theorem info32 : (Tryd.prog.info? 43).map (fun i => (i.zero, i.size, i.bytes)) = some (some (.int .u32 0), 1, 4) := by kernel_rfl
theorem run_index_word (w : World) (hs : List Nat) (i : Nat) (hi : i < hs.length) (h8 : hs.length = 8) :
    (Instr.index 44 (.agg (wv hs)) (.int .i64 (i : Int))).run Tryd.prog w = .ok (.int .u32 (nth hs i)) w := by
  obtain ⟨i0, hi0, _, hz1, _⟩ := info_parts info32
  have hn : 0 ≤ (i : Int) ∧ (i : Int) < ((8 : Nat) : Int) := by omega
  have hl : i < 8 := by omega
  simp [Instr.index, run_underlying Tryd.underlying44, asIntOf, hl, sizeOf, typeInfo, hi0, hz1, isAgg, run_underlying Tryd.underlying43, wv_at hs i hi, go_sem]
theorem by4_cells (x b0 b1 b2 b3 : Nat) (h0 : x / 16777216 % 256 = b0) (h1 : x / 65536 % 256 = b1) (h2 : x / 256 % 256 = b2) (h3 : x % 256 = b3) : cells (by4 x) = [.int .u8 b0, .int .u8 b1, .int .u8 b2, .int .u8 b3] := by
  unfold by4 cells
  simp only [List.map_cons, List.map_nil]
  rw [h0, h1, h2, h3, W.toNat_ofNat (by omega), W.toNat_ofNat (by omega), W.toNat_ofNat (by omega), W.toNat_ofNat (by omega)]
theorem out_step {hh : List Nat} {j x : Nat} {B : Nat} {l : List Value} {v : Value} {W0 w : World} (hx : nth hh j = x) (hl : cells (by4 x) = l) (h : Lib.OwnBuf B 5 v (4 * j + 4) (cells (outTo hh j) ++ l) W0 w) : Lib.OwnBuf B 5 v (4 * (j + 1)) (cells (outTo hh (j + 1))) W0 w := by
  rw [show outTo hh (j + 1) = outTo hh j ++ by4 (nth hh j) from rfl, cells_append, hx, hl]
  exact h
theorem eight {l : List Nat} (h : l.length = 8) : ∃ a0 a1 a2 a3 a4 a5 a6 a7, l = [a0, a1, a2, a3, a4, a5, a6, a7] := by
  match l, h with
  | [a0, a1, a2, a3, a4, a5, a6, a7], _ => exact ⟨_, _, _, _, _, _, _, _, rfl⟩

set_option maxHeartbeats 1000000 in
set_option maxRecDepth 100000 in
theorem sum_this (s p : ByteArray) (nb : Nat) (w : World) (hr : Roots w) (hs : s.size ≤ 1099511627776) (HP : Hid (p = bs (padded s.data.toList))) (hp : p.size = 64 * nb) (out : List UInt8) (HO : Hid (outTo (blks p.data.toList nb) 8 = out)) :
    Calls Tryd.prog 23 #[.string s] w fun e w' => e = .returned (.string (bs out)) ∧ Below w.heap.size w w' := by
  have hps : p.size ≤ 1099511627776 + 72 := by
    have h1 := padOf_len s.size
    have h2 := zs_lt s.size
    rw [HP.out, bs_size, padded, List.length_append, size_list]
    omega
  have hadd : ∀ W : World, (Op.stringOp .add s (bs (padOf s.size))).run Tryd.prog W = .ok (.string p) W := fun W => by
    have h := run_add W s.data.toList (padOf s.size) (by have h1 := padOf_len s.size; have h2 := zs_lt s.size; rw [size_list]; omega)
    rw [bs_of] at h
    rw [h, HP.out, padded, size_list]
  obtain ⟨i0, hi, hz0, hz1, hz2⟩ := info_parts infoU8
  have HR := Lib.hid hr
  have HPAD := Lib.hid (pad s.size (by omega) (w.alloc (.cells (wv regs0) 44)))
  have HPS := Lib.hid hp
  have H0 := Lib.hid (Blk.new w 44 (wv regs0))
  have HB0 := Lib.hid ((Below.refl w.heap.size w).alloc (Nat.le_refl _) (.cells (wv regs0) 44))
  clear hr hp HP
  go_enter Tryd.func23, Tryd.ntmps23
  go_wp2_with fail
  refine HPAD.out.mono ?_
  rintro e w2 ⟨rfl, b2⟩
  have HS := Lib.hid (show SumAt p.data.toList w 0 w2 from ⟨H0.out.next b2, HB0.out.trans (b2.mono (by simp))⟩)
  clear HPAD H0 HB0 b2
  go_wp2
  clear hadd
  go_loopw [5] (fun i wr => ∃ k : Nat, k ≤ nb ∧ i = .int .i64 ((64 * k : Nat) : Int) ∧ SumAt p.data.toList w k wr) (fun i _ => p.size - (intOf i).toNat)
  case atStart => exact ⟨0, Nat.zero_le _, rfl, HS.out⟩
  case round =>
    clear HS
    obtain ⟨k, hk, rfl, hS⟩ := hrel
    by_cases hlt : k < nb
    · have t1 : 64 * (k : Int) < (p.size : Int) := by have := HPS.out; omega
      have t2 : 64 * (k : Int) + 64 ≤ (p.size : Int) := by have := HPS.out; omega
      have n1 : (64 * (k : Int)).toNat = 64 * k := by omega
      have n2 : (64 * (k : Int) + 64).toNat = 64 * k + 64 := by omega
      have p1 : 0 ≤ 64 * (k : Int) := by omega
      have p2 : 0 ≤ 64 * (k : Int) + 64 := by omega
      have p3 : 64 * (k : Int) ≤ 64 * (k : Int) + 64 := by omega
      have wr1 : IntKind.i64.wrap (64 * (k : Int) + 64) = 64 * (k : Int) + 64 := IntWalk.i64_in _ (by omega)
      have HS := Lib.hid hS.drew
      have hc := hS.drew
      obtain ⟨a0, a1, a2, a3, a4, a5, a6, a7, ha⟩ := eight (blks_len p.data.toList k)
      have c0 := hc.reg 0 (by decide)
      have c1 := hc.reg 1 (by decide)
      have c2 := hc.reg 2 (by decide)
      have c3 := hc.reg 3 (by decide)
      have c4 := hc.reg 4 (by decide)
      have c5 := hc.reg 5 (by decide)
      have c6 := hc.reg 6 (by decide)
      have c7 := hc.reg 7 (by decide)
      rw [ha] at c0 c1 c2 c3 c4 c5 c6 c7
      replace c0 : wr.drew.cell? ⟨w.heap.size, 0, none⟩ = some (.int .u32 a0) := c0
      replace c1 : wr.drew.cell? ⟨w.heap.size, 1, none⟩ = some (.int .u32 a1) := c1
      replace c2 : wr.drew.cell? ⟨w.heap.size, 2, none⟩ = some (.int .u32 a2) := c2
      replace c3 : wr.drew.cell? ⟨w.heap.size, 3, none⟩ = some (.int .u32 a3) := c3
      replace c4 : wr.drew.cell? ⟨w.heap.size, 4, none⟩ = some (.int .u32 a4) := c4
      replace c5 : wr.drew.cell? ⟨w.heap.size, 5, none⟩ = some (.int .u32 a5) := c5
      replace c6 : wr.drew.cell? ⟨w.heap.size, 6, none⟩ = some (.int .u32 a6) := c6
      replace c7 : wr.drew.cell? ⟨w.heap.size, 7, none⟩ = some (.int .u32 a7) := c7
      have HA := Lib.hid ha
      have HRW := Lib.hid (HR.out.below hc.2 HR.out.pos)
      clear hc hS ha
      go_wp2
      refine wp_region_still_tail 6 (by kernel_rfl) (by kernel_rfl) ?_
      simp only [List.take_succ_cons, List.take_zero, List.drop_succ_cons, List.drop_zero]
      change wpStill _ _ wr.drew (fun a' => wpList _ _ _ _ a' wr.drew) _ _
      generalize wr.drew = w3 at *
      repeat still_step
      refine wpStill_nil ?_
      clear c0 c1 c2 c3 c4 c5 c6 c7 p1 p2 p3 n1 n2 wr1
      go_wp2_with fail
      obtain ⟨o8, h8⟩ : ∃ o8, blk [a0, a1, a2, a3, a4, a5, a6, a7] (p.extract (64 * k) (64 * k + 64)).data.toList = o8 := ⟨_, rfl⟩
      have l8 : o8.length = 8 := by rw [← h8, blk_len _ _ rfl]
      have H8 := Lib.hid h8
      have L8 := Lib.hid l8
      clear h8 l8
      refine (block_this a0 a1 a2 a3 a4 a5 a6 a7 (p.extract (64 * k) (64 * k + 64)) w3 HRW.out (by rw [ByteArray.size_extract]; unfold maxLen; omega) o8 H8).mono ?_
      rintro e w4 ⟨rfl, b4⟩
      have R := Lib.hid (HS.out.step b4)
      rw [HA.out, H8.out] at R
      have hB := HS.out.1.next b4
      rw [HA.out] at hB
      have HB := Lib.hid hB
      clear hB HS HA HRW b4 H8
      go_wp2_with (refine wpList_store_row rfl 44 _ _ rfl w.heap.size (wv o8) rfl rfl 44 _ HB.out (by rw [wv_size, L8.out]; exact info8) (by rw [wv_size, wv_size, L8.out]; rfl) (wv_one _) ?_)
      go_roundw
      case rel => exact ⟨k + 1, by omega, at_next k, R.out⟩
      case measure =>
        show p.size - (64 * (k : Int) + 64).toNat < p.size - ((64 * k : Nat) : Int).toNat
        omega
    · obtain rfl : k = nb := by omega
      have t1 : ¬ 64 * (k : Int) < (p.size : Int) := by have := HPS.out; omega
      have HS := Lib.hid hS
      have hmk : ∀ W : World, (Instr.makeSlice 47 (.int .i64 0) (.int .i64 32)).run Tryd.prog W = .ok (.slice (some ⟨W.heap.size, 0, none⟩) 0 32) (W.alloc (.cells (madeCells (Value.int .u8 0).cells 32) 5)) := fun W => run_make0 32 (by omega) W
      have HOW := OwnBuf_made 32 (by unfold maxLen; omega) wr
      generalize madeCells (Value.int .u8 0).cells 32 = M at *
      have HB := Lib.hid (hS.1.alloc (.cells M 5))
      have HW := Lib.hid (out_start hS.2 HOW)
      have H8 := Lib.hid (blks_len p.data.toList k)
      clear hS HOW HS
      generalize blks p.data.toList k = hh at *
      go_wp2_with (refine wpList_load_row rfl 44 _ rfl w.heap.size rfl 44 _ (0, 0) _ HB.out Tryd.underlying44 rfl (by rw [wv_size, H8.out]; exact info8) ?_)
      clear HB hmk
      go_loopw [6, 30] (fun v i wr => ∃ j : Nat, j ≤ 8 ∧ i = .int .i64 j ∧ Lib.OwnBuf w.heap.size 5 v (4 * j) (cells (outTo hh j)) w wr) (fun _ i _ => 8 - (intOf i).toNat)
      case atStart => exact ⟨0, Nat.zero_le _, rfl, HW.out⟩
      case round =>
        clear HW
        obtain ⟨j, hj, rfl, hown⟩ := hrel
        by_cases hjl : j < 8
        · obtain ⟨x, hx⟩ : ∃ x, nth hh j = x := ⟨_, rfl⟩
          have hix := run_index_word wr hh j (by rw [H8.out]; exact hjl) H8.out
          rw [hx] at hix
          obtain ⟨b0, h0⟩ : ∃ b, x / 16777216 % 256 = b := ⟨_, rfl⟩
          obtain ⟨b1, h1⟩ : ∃ b, x / 65536 % 256 = b := ⟨_, rfl⟩
          obtain ⟨b2, h2⟩ : ∃ b, x / 256 % 256 = b := ⟨_, rfl⟩
          obtain ⟨b3, h3⟩ : ∃ b, x % 256 = b := ⟨_, rfl⟩
          have e0 : (x : Int) / 16777216 % 256 = (b0 : Int) := by omega
          have e1 : (x : Int) / 65536 % 256 = (b1 : Int) := by omega
          have e2 : (x : Int) / 256 % 256 = (b2 : Int) := by omega
          have e3 : (x : Int) % 256 = (b3 : Int) := by omega
          have HX := Lib.hid (by4_cells x b0 b1 b2 b3 h0 h1 h2 h3)
          have HN := Lib.hid hx
          clear h0 h1 h2 h3 hx
          go_wp2_with (at_builtin; go_must (refine wpList_append_four rfl _ _ 47 rfl w.heap.size 5 i0 Tryd.underlying47 hi hz0 hz1 hz2 u6 (4 * j) _ rfl w wr _ _ _ _ hown rfl (by omega) ?_))
          intro v5 w5 h5
          have R := out_step HN.out HX.out h5
          clear h5 hown e0 e1 e2 e3 hix HX HN
          go_wp2
          go_roundw
          case rel => exact ⟨j + 1, by omega, by go_num, R⟩
          case measure => simp [intOf]; omega
        · obtain rfl : j = 8 := by omega
          have hst := run_string w.heap.size u6 (outTo hh 8) w _ (by rw [outTo_len]; exact hown)
          rw [HO.out] at hst
          go_wp2
          go_ret
          exact ⟨rfl, hown.2.1⟩

theorem sum (s : ByteArray) (w : World) (hr : Roots w) (hs : s.size ≤ 1099511627776) :
    Calls Tryd.prog 23 #[.string s] w fun e w' => e = .returned (.string (bs (shaOf s.data.toList))) ∧ Below w.heap.size w w' := by
  refine sum_this s (bs (padded s.data.toList)) ((padded s.data.toList).length / 64) w hr hs (Lib.hid rfl) ?_ _ (Lib.hid rfl)
  rw [bs_size]
  exact padded_len _
end Go.Proofs.YtbfpepiglcikbaaDoor.W
