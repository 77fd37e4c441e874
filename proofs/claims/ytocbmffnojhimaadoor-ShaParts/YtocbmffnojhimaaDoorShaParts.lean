/-
  footbridgelaw04.ShaParts returns true for any string, and changes nothing: a string and its padding are whole blocks, and sha.Sum is sha.Block over them, one behind the other. Condition: the table sha.roots starts as the program's text lays it (tied by the card).
-/
import Derived.Test.YtocbmffnojhimaaDoorCards
import Derived.Test.YtocbmffnojhimaaDoorTie
import Derived.Test.YtocbmffnojhimaaDoorSAwake
import Derived.Test.YtocbmffnojhimaaDoorSRefS
import Derived.Deep.DeepHandedRow
namespace Go.Proofs.YtocbmffnojhimaaDoor.shaParts
open Go.ChangeShapes Go.WideShapes Go.ChangeAt Go.RowKit
open Go.ChangeMaps (open_string shut_string)
open W

theorem own_kept {B n : Nat} {v : Value} {xs : List Value} {W0 w W : World} (h : Lib.OwnBuf B 5 v n xs W0 w) (hb : Below w.heap.size w W) : Lib.OwnBuf B 5 v n xs W0 W := by
  refine ⟨⟨h.1.1, ?_⟩, h.2.1.trans (hb.mono h.2.2), Nat.le_trans h.2.2 hb.size⟩
  rcases h.1.2 with hn | ⟨g, cap, cur, fz, e1, e2, e3, rest⟩
  · exact .inl hn
  · exact .inr ⟨g, cap, cur, fz, e1, e2, (hb.block g (Array.getElem?_eq_some_iff.1 e3).1).trans e3, rest⟩

set_option maxHeartbeats 4000000 in
set_option maxRecDepth 100000 in
theorem walk_this (s p : ByteArray) (nb : Nat) (w : World) (hr : Roots w) (hs : s.size ≤ 2000) (HP : Hid (p = bs (padded s.data.toList))) (hp : p.size = 64 * nb) (out : List UInt8) (HO : Hid (outTo (blks p.data.toList nb) 8 = out)) (HSH : Hid (shaOf s.data.toList = out)) :
    Calls Tryd.prog 5 #[.string s] w fun e w' => e = .returned (.bool true) ∧ Below w.heap.size w w' := by
  have hpe : p.size = s.size + 9 + zs s.size := by
    rw [HP.out, bs_size, padded, List.length_append, size_list, padOf_len]
    omega
  have hzl := zs_lt s.size
  have hps : p.size ≤ 3000 := by omega
  have f1 : ((p.size : Int) % 64 != 0) = false := by simp only [bne_eq_false_iff_eq]; omega
  have f2 : ¬ (p.size : Int) < (s.size : Int) + 9 := by omega
  have f3 : ¬ (s.size : Int) + 72 < (p.size : Int) := by omega
  have hadd : ∀ W : World, (Op.stringOp .add s (bs (padOf s.size))).run Tryd.prog W = .ok (.string p) W := fun W => by
    have h := run_add W s.data.toList (padOf s.size) (by have h1 := padOf_len s.size; have h2 := zs_lt s.size; rw [size_list]; omega)
    rw [bs_of] at h
    rw [h, HP.out, padded, size_list]
  obtain ⟨i0, hi, hz0, hz1, hz2⟩ := info_parts infoU8
  have HR := Lib.hid hr
  have HPAD := Lib.hid (pad s.size (by omega) w)
  have HSUM := Lib.hid (fun (W : World) (hW : Roots W) => sum s W hW (by omega))
  rw [HSH.out] at HSUM
  have HPS := Lib.hid hp
  clear hp HP hpe hzl hr HSH
  go_enter Tryd.func5, Tryd.ntmps5
  go_wp2_with fail
  refine HPAD.out.mono ?_
  rintro e w2 ⟨rfl, b2⟩
  clear HPAD
  go_wp2_with fail
  refine (rRegs w2).mono ?_
  rintro e w3 ⟨rfl, b3⟩
  have HS := Lib.hid (SumH.start p.data.toList w w3 (step_below b2 b3))
  clear b2 b3 hadd f1 f2 f3
  go_wp2_with (refine wpList_store_row rfl 26 _ _ rfl w3.heap.size (wv regs0) rfl rfl 26 (wv (List.replicate 8 0)) (Blk.new w3 26 _) info8 rfl (wv_one _) ?_)
  rw [zero8]
  generalize (w3.alloc (Obj.cells (wv (List.replicate 8 0)) 26)).setRow w3.heap.size (wv regs0) = w4 at *
  generalize w3.heap.size = H at *
  clear w3
  go_loopw [5] (fun i wr => ∃ k : Nat, k ≤ nb ∧ i = .int .i64 ((64 * k : Nat) : Int) ∧ SumH p.data.toList w H k wr) (fun i _ => p.size - (intOf i).toNat)
  case atStart => exact ⟨0, Nat.zero_le _, rfl, HS.out⟩
  case round =>
    clear HS
    obtain ⟨k, hk, rfl, hS⟩ := hrel
    by_cases hlt : k < nb
    · have t1 : 64 * (k : Int) < (p.size : Int) := by have := HPS.out; omega
      have t2 : 64 * (k : Int) + 64 ≤ (p.size : Int) := by have := HPS.out; omega
      have n1 : (64 * (k : Int)).toNat = 64 * k := by omega
      have n2 : (64 * (k : Int) + 64).toNat = 64 * k + 64 := by omega
      have p1 : 0 ≤ 64 * (k : Int) := by omega
      have p2 : 0 ≤ 64 * (k : Int) + 64 := by omega
      have p3 : 64 * (k : Int) ≤ 64 * (k : Int) + 64 := by omega
      have wr1 : IntKind.i64.wrap (64 * (k : Int) + 64) = 64 * (k : Int) + 64 := IntWalk.i64_in _ (by omega)
      have HS := Lib.hid hS.drew
      have hc := hS.drew
      obtain ⟨a0, a1, a2, a3, a4, a5, a6, a7, ha⟩ := eight (blks_len p.data.toList k)
      have c0 := hc.reg 0 (by decide)
      have c1 := hc.reg 1 (by decide)
      have c2 := hc.reg 2 (by decide)
      have c3 := hc.reg 3 (by decide)
      have c4 := hc.reg 4 (by decide)
      have c5 := hc.reg 5 (by decide)
      have c6 := hc.reg 6 (by decide)
      have c7 := hc.reg 7 (by decide)
      rw [ha] at c0 c1 c2 c3 c4 c5 c6 c7
      replace c0 : wr.drew.cell? ⟨H, 0, none⟩ = some (.int .u32 a0) := c0
      replace c1 : wr.drew.cell? ⟨H, 1, none⟩ = some (.int .u32 a1) := c1
      replace c2 : wr.drew.cell? ⟨H, 2, none⟩ = some (.int .u32 a2) := c2
      replace c3 : wr.drew.cell? ⟨H, 3, none⟩ = some (.int .u32 a3) := c3
      replace c4 : wr.drew.cell? ⟨H, 4, none⟩ = some (.int .u32 a4) := c4
      replace c5 : wr.drew.cell? ⟨H, 5, none⟩ = some (.int .u32 a5) := c5
      replace c6 : wr.drew.cell? ⟨H, 6, none⟩ = some (.int .u32 a6) := c6
      replace c7 : wr.drew.cell? ⟨H, 7, none⟩ = some (.int .u32 a7) := c7
      have HA := Lib.hid ha
      have HRW := Lib.hid (HR.out.below hc.2.1 HR.out.pos)
      clear hc hS ha
      go_wp2
      refine wp_region_still_tail 6 (by kernel_rfl) (by kernel_rfl) ?_
      simp only [List.take_succ_cons, List.take_zero, List.drop_succ_cons, List.drop_zero]
      change wpStill _ _ wr.drew (fun a' => wpList _ _ _ _ a' wr.drew) _ _
      generalize wr.drew = w3 at *
      repeat still_step
      refine wpStill_nil ?_
      clear c0 c1 c2 c3 c4 c5 c6 c7 p1 p2 p3 n1 n2 wr1
      go_wp2_with fail
      obtain ⟨o8, h8⟩ : ∃ o8, blk [a0, a1, a2, a3, a4, a5, a6, a7] (p.extract (64 * k) (64 * k + 64)).data.toList = o8 := ⟨_, rfl⟩
      have l8 : o8.length = 8 := by rw [← h8, blk_len _ _ rfl]
      have H8 := Lib.hid h8
      have L8 := Lib.hid l8
      clear h8 l8
      refine (block_this a0 a1 a2 a3 a4 a5 a6 a7 (p.extract (64 * k) (64 * k + 64)) w3 HRW.out (by rw [ByteArray.size_extract]; unfold maxLen; omega) o8 H8).mono ?_
      rintro e w4 ⟨rfl, b4⟩
      have R := Lib.hid (HS.out.step b4)
      rw [HA.out, H8.out] at R
      have hB := HS.out.1.next b4
      rw [HA.out] at hB
      have HB := Lib.hid hB
      clear hB HS HA b4 H8 HRW
      go_wp2_with (refine wpList_store_row rfl 26 _ _ rfl H (wv o8) rfl rfl 26 _ HB.out (by rw [wv_size, L8.out]; exact info8) (by rw [wv_size, wv_size, L8.out]; rfl) (wv_one _) ?_)
      go_roundw
      case rel => exact ⟨k + 1, by omega, at_next k, R.out⟩
      case measure =>
        show p.size - (64 * (k : Int) + 64).toNat < p.size - ((64 * k : Nat) : Int).toNat
        omega
    · obtain rfl : k = nb := by omega
      have t1 : ¬ 64 * (k : Int) < (p.size : Int) := by have := HPS.out; omega
      obtain ⟨hh, hhh⟩ : ∃ hh, blks p.data.toList k = hh := ⟨_, rfl⟩
      have H8 := Lib.hid (show hh.length = 8 by rw [← hhh, blks_len])
      have hB := hS.1
      rw [hhh] at hB
      have HB := Lib.hid hB
      have HL := Lib.hid hS.2
      have HO2 := Lib.hid (show outTo hh 8 = out by rw [← hhh]; exact HO.out)
      clear hS hB hhh HO
      go_wp2
      generalize hW : wr = W0 at *
      clear hW
      go_loopw [6, 7] (fun v i wr => ∃ j : Nat, j ≤ 8 ∧ i = .int .i64 j ∧ OutH hh H j v W0 wr) (fun _ i _ => 8 - (intOf i).toNat)
      case atStart => exact ⟨0, Nat.zero_le _, rfl, OutH.start HB.out.lt⟩
      case round =>
        obtain ⟨j, hj, rfl, hown⟩ := hrel
        by_cases hjl : j < 8
        · obtain ⟨x, hx⟩ : ∃ x, nth hh j = x := ⟨_, rfl⟩
          have cj : wr.cell? ⟨H, j, none⟩ = some (.int .u32 x) := by
            have h := (HB.out.below hown.2.1 (Nat.lt_succ_self H)).cell j
            rw [wv_at _ _ (by rw [H8.out]; exact hjl), hx] at h
            exact h
          obtain ⟨b0, h0⟩ : ∃ b, x / 16777216 % 256 = b := ⟨_, rfl⟩
          obtain ⟨b1, h1⟩ : ∃ b, x / 65536 % 256 = b := ⟨_, rfl⟩
          obtain ⟨b2, h2⟩ : ∃ b, x / 256 % 256 = b := ⟨_, rfl⟩
          obtain ⟨b3, h3⟩ : ∃ b, x % 256 = b := ⟨_, rfl⟩
          have e0 : IntKind.u8.wrap ((x : Int) / 16777216) = (b0 : Int) := by rw [IntKind.wrap_u8]; omega
          have e1 : IntKind.u8.wrap ((x : Int) / 65536) = (b1 : Int) := by rw [IntKind.wrap_u8]; omega
          have e2 : IntKind.u8.wrap ((x : Int) / 256) = (b2 : Int) := by rw [IntKind.wrap_u8]; omega
          have e3 : IntKind.u8.wrap (x : Int) = (b3 : Int) := by rw [IntKind.wrap_u8]; omega
          have f0 : (x : Int) / 16777216 % 256 = (b0 : Int) := by omega
          have f1 : (x : Int) / 65536 % 256 = (b1 : Int) := by omega
          have f2 : (x : Int) / 256 % 256 = (b2 : Int) := by omega
          have f3 : (x : Int) % 256 = (b3 : Int) := by omega
          have HX := Lib.hid (by4_cells x b0 b1 b2 b3 h0 h1 h2 h3)
          have HN := Lib.hid hx
          have jl : (j : Int) < 8 := by omega
          have jp : (0 : Int) ≤ (j : Int) := by omega
          have hHl : H < wr.heap.size := hown.2.2
          have hne : some H ≠ u6.ownBlock := fun e => by have := (hown.1.lt H e.symm).1; omega
          have hlo : ∀ g, u6.ownBlock = some g → H + 1 ≤ g := fun g hg => (hown.1.lt g hg).1
          have HNE := Lib.hid hne
          have HLO := Lib.hid hlo
          have HWN := Lib.hid hown
          clear h0 h1 h2 h3 hx hown hne hlo
          go_wp2
          go_region_held3 (fun w' => w'.cell? ⟨H, j, none⟩ = some (.int .u32 x))
            (first
              | go_keep
              | (rw [hgrow.cell_far _ (by simp <;> omega) HNE.out]; assumption))
            ((refine step_append_lies _ (by rfl) _ _ _ (by rfl) (H + 1) 5 i0 _ 1 1 Tryd.underlying31 hi hz0 hz1 hz2 rfl (by omega) u6 (4 * j) _ (by rfl) ((HWN.out.1.alloc _).drew)
                ⟨wr.heap.size, 0, none⟩ 4 4 [.int .u8 b0, .int .u8 b1, .int .u8 b2, .int .u8 b3] (by rfl) (by rfl) (World.news_of_block (cs := #[.int .u8 b0, .int .u8 b1, .int .u8 b2, .int .u8 b3]) (t := 5) (fr := (0, 0)) (heap_alloc_new wr _)) (by simp [Value.oneCell'])
                (by omega) (by unfold maxLen; omega) (by omega) (by simp; omega) (wr.heap.size + 1) (by simp) ?_; intro gg cap w1 hown1 hgrow hat hlt'))
          have hbel : Below (H + 1) W0 w1 := Below.grown (by
              have h := HWN.out.2.1.alloc hHl (.cells #[.int .u8 b0, .int .u8 b1, .int .u8 b2, .int .u8 b3] 5)
              exact ⟨h.os, h.tape, h.output, h.size, h.block⟩) hgrow (by simp; omega) HLO.out
          have hsz : H + 1 ≤ w1.heap.size := by have := hgrow.size; simp at this; omega
          have R := Lib.hid (OutH.step HN.out HX.out hown1 hbel hsz)
          clear hown1 hgrow hat hlt' hbel hsz HWN HLO HNE HX HN cj e0 e1 e2 e3 f0 f1 f2 f3
          go_wp2
          go_roundw
          case rel => exact ⟨j + 1, by omega, by go_num, R.out⟩
          case measure => simp [intOf]; omega
        · obtain rfl : j = 8 := by omega
          have hown2 : Lib.OwnBuf (H + 1) 5 u6 (outTo hh 8).length (cells (outTo hh 8)) W0 wr.drew := by
            rw [outTo_len]
            exact ⟨World.ownsRowF_of hown.1.drew, Below.drewN hown.2.1 1, hown.2.2⟩
          rw [HO2.out] at hown2
          have HST := Lib.hid (fun (W : World) (hb : Below wr.drew.heap.size wr.drew W) => run_string (H + 1) u6 out W0 W (own_kept hown2 hb))
          have HBW : Below w.heap.size w wr.drew := HL.out.1.trans ((Below.drewN hown.2.1 1).mono (by have := HL.out.2; omega))
          have HRD := Lib.hid (HR.out.next HBW)
          clear hown hown2
          go_wp2
          go_region_held3 (fun w' => (convert 31 9 u6).run Tryd.prog w' = .ok (.string (bs out)) w')
            (first
              | exact HST.out _ (Below.refl _ _)
              | exact HST.out _ b1
              | exact HST.out _ (step_below b1 b2)
              | go_keep)
            (first
              | (go_at_call 7; refine (HSUM.out _ HRD.out).mono ?_; rintro en w1 ⟨rfl, b1⟩)
              | (go_at_call 6; refine (awake04 _ (HRD.out.next b1)).mono ?_; rintro en w2 ⟨rfl, b2⟩))
          have B2 := step_below (step_below HBW b1) b2
          clear b1 b2 HBW HST HRD
          go_wp2
          go_ret
          exact ⟨rfl, B2⟩

theorem walk (w : World) (hd : Roots w) (s : ByteArray) (_hs : s.size ≤ maxLen) :
    Calls Tryd.prog 5 #[.string s] w fun e w' => e = .returned (.bool true) ∧ Below w.heap.size w w' := by
  by_cases h1 : s.size ≤ 2000
  · refine walk_this s (bs (padded s.data.toList)) ((padded s.data.toList).length / 64) w hd h1 (Lib.hid rfl) ?_ _ (Lib.hid rfl) (Lib.hid rfl)
    rw [bs_size]
    exact padded_len _
  · go_enter Tryd.func5, Tryd.ntmps5
    go_wp2_with fail
    refine (awake04 w hd).mono ?_
    rintro e w3 ⟨rfl, b3⟩
    go_wp2
    go_ret
    exact ⟨rfl, b3⟩
noncomputable def laidWorld (os : Os) : World :=
  { World.holding Tryd.prog os ⟨#[], #[], []⟩ with heap := ((World.holding Tryd.prog os ⟨#[], #[], []⟩).heap.modify 0 (fun | .cells _ t frozen => .cells #[.int .u32 1116352408, .int .u32 1899447441, .int .u32 3049323471, .int .u32 3921009573, .int .u32 961987163, .int .u32 1508970993, .int .u32 2453635748, .int .u32 2870763221, .int .u32 3624381080, .int .u32 310598401, .int .u32 607225278, .int .u32 1426881987, .int .u32 1925078388, .int .u32 2162078206, .int .u32 2614888103, .int .u32 3248222580, .int .u32 3835390401, .int .u32 4022224774, .int .u32 264347078, .int .u32 604807628, .int .u32 770255983, .int .u32 1249150122, .int .u32 1555081692, .int .u32 1996064986, .int .u32 2554220882, .int .u32 2821834349, .int .u32 2952996808, .int .u32 3210313671, .int .u32 3336571891, .int .u32 3584528711, .int .u32 113926993, .int .u32 338241895, .int .u32 666307205, .int .u32 773529912, .int .u32 1294757372, .int .u32 1396182291, .int .u32 1695183700, .int .u32 1986661051, .int .u32 2177026350, .int .u32 2456956037, .int .u32 2730485921, .int .u32 2820302411, .int .u32 3259730800, .int .u32 3345764771, .int .u32 3516065817, .int .u32 3600352804, .int .u32 4094571909, .int .u32 275423344, .int .u32 430227734, .int .u32 506948616, .int .u32 659060556, .int .u32 883997877, .int .u32 958139571, .int .u32 1322822218, .int .u32 1537002063, .int .u32 1747873779, .int .u32 1955562222, .int .u32 2024104815, .int .u32 2227730452, .int .u32 2361852424, .int .u32 2428436474, .int .u32 2756734187, .int .u32 3204031479, .int .u32 3329325298] t frozen | o => o)) }
theorem laid_met (os : Os) : laidMet Tryd.prog Rows.shaPartsRow.laid ((laidWorld os).forCall (fun _ _ => 0) ⟨#[], #[.string ByteArray.empty], []⟩).memory :=
  laidMet_of_run' 8 (by kernel_rfl) (by kernel_rfl)
theorem reads (os : Os) {H : Type} (enc : TypeId × Value → H) : ∃ ds places, DataW.whole enc Tryd.prog ((laidWorld os).forCall (fun _ _ => 0) ⟨#[], #[.string ByteArray.empty], []⟩).memory Tryd.f5.params.toList Rows.shaPartsSpec.vars false (#[.string ByteArray.empty] : Array Value).toList 8 = some (ds, [], places) :=
  ⟨[.lit (.string [])], [], by kernel_rfl⟩
set_option maxRecDepth 100000 in
theorem contract (H : Type) (enc : TypeId × Value → H) (W : World) (base : Nat) (args : Array Value) (ds gs : List (DataW H)) (before : List MemPlace)
    (hval0 : ∀ (j : Nat) t v, Tryd.f5.params[j]? = some t → args[j]? = some v → Value.okWide Tryd.prog W .any base t v)
    (hW : DataW.Whole enc Tryd.prog Tryd.f5.params.toList Rows.shaPartsSpec.vars false W args.toList ds gs before) (hL : laidMetH Tryd.prog Rows.shaPartsRow.laid W) :
    Calls Tryd.prog 5 args W fun e W' => ∃ v, e = .returned v ∧ Rows.shaPartsSpec.post enc Tryd.prog Tryd.f5 false true false false W args v W' := by
  have hval : ∀ (j : Nat) t v, Tryd.f5.params[j]? = some t → args[j]? = some v → Value.okWide Tryd.prog W .any base t v := hval0
  have hW' := hW
  obtain ⟨p, q, hA0, hV, rfl, hfz, hnd⟩ := hW
  have hA : DataW.TrodAll enc Tryd.prog W 0 (fun _ => true) true Tryd.f5.params.toList args.toList ds p := hA0
  rw [Tryd.params5] at hA hval
  have hK := hA
  obtain ⟨v0, vs0, d0, ds0, p0, q0, hargs, rfl, rfl, h0, r0⟩ := trodAll_cons hA
  obtain ⟨rfl, rfl, rfl⟩ := trodAll_nil r0
  obtain rfl : args = #[v0] := by cases args; simp_all
  obtain ⟨rfl, rfl⟩ := trodVars_none hV
  obtain ⟨a0, rfl, rfl, rfl, w0⟩ := open_string Tryd.underlying9 (hval 0 9 v0 rfl rfl) h0
  clear hA0 hval0
  refine (walk W (roots_of hL) a0 w0).mono fun e W' ⟨he, bel⟩ => ?_
  subst he
  exact ⟨_, rfl, _, _, _, [], _, [], hW', trodAll_mk1 (shut_bool Tryd.underlying4 _), trodAll_under laidOut bel _ _ _ _ (by kernel_rfl) hK, rfl, bel.frame _, fun h => by cases h⟩
set_option maxRecDepth 100000 in
theorem lifted (os : Os) (started : os.Started) (H : Type) (enc : TypeId × Value → H) (F : Stop.Interp) :
    ReturnsInHanded {} Tryd.checked os 5 .any ((OpenSpec.ofChange Rows.shaPartsSpec).preRow enc Tryd.prog Tryd.f5 Rows.shaPartsRow.domain false Rows.shaPartsRow.laid) (((OpenSpec.ofChange Rows.shaPartsSpec).at F).post enc Tryd.prog Tryd.f5 false true false false) := by
  obtain ⟨ds, places, hx⟩ := reads os enc
  refine returnsInHanded_of_row (C := Tryd.checked) (s := OpenSpec.ofChange Rows.shaPartsSpec) own started (by kernel_rfl) Tryd.func5
    (witness_row_at (enc := enc) (C := Tryd.checked) false (laidWorld os) #[.string ByteArray.empty] rfl (by kernel_rfl) (by kernel_rfl) (by kernel_rfl)
      (OpenSpec.preRow_of_cond 8 hx (by kernel_rfl) (fun k hk => by cases hk) (by kernel_rfl) (laid_met os))) ?_
  intro W base args ds gs before hval hW _ _ _ hL _ _
  exact contract H enc W base args ds gs before hval hW hL
theorem said : Rows.ShaPartsSaid :=
  OpenClaim.holds_of_cond 5 Tryd.f5 rfl rfl rfl rfl rfl rfl rfl ⟨rfl, rfl, rfl, rfl, rfl⟩ rfl rfl rfl rfl rfl (by kernel_rfl) Tryd.func5 (by kernel_rfl)
    (of_decide_eq_true (by kernel_rfl)) (by unfold Func.isWrapper; first | (rw [if_pos (by decide +kernel)]; kernel_rfl) | (rw [if_neg (by decide +kernel)]; exact ⟨rfl, rfl⟩))
    (fun os started H enc _ F => by rw [OpenClaim.pre_eq_preRow]; exact lifted os started H enc F)
theorem plain (f : FuncId) (fn : Func) (hf : Tryd.pinned.checked.prog.funcNamed "footbridge/footbridgelaw04.ShaParts" = some f) (hfn : Tryd.pinned.checked.prog.funcs[f]? = some fn) :
    false = Tryd.pinned.checked.prog.looks [] ∧ ∀ (j : Nat) t, fn.params[j]? = some t → Tryd.pinned.checked.prog.wantsStandIn t = false := by
  obtain rfl : f = 5 := Option.some.inj ((show Tryd.prog.funcNamed "footbridge/footbridgelaw04.ShaParts" = some 5 by kernel_rfl).symm.trans hf) |>.symm
  obtain rfl : fn = Tryd.f5 := (Option.some.inj (Tryd.func5.symm.trans hfn)).symm
  refine ⟨by kernel_rfl, fun j t ht => ?_⟩
  rw [Tryd.params5] at ht
  have hd : t = 9 := by simpa using Array.mem_of_getElem? ht
  rcases hd with rfl
  · exact (show Tryd.prog.wantsStandIn 9 = false by kernel_rfl)
theorem shaParts_holds : Rows.ShaPartsCardSaid :=
  Claim7.holds_tied_plain_at .later [] _ _ _ _ said (fun _ h => by cases h) (by kernel_rfl) (fun _ h => by cases h) shaParts_row_tie rfl ⟨rfl, rfl⟩ (by kernel_rfl) rfl plain (by kernel_rfl)
#print axioms shaParts_holds
end Go.Proofs.YtocbmffnojhimaaDoor.shaParts
