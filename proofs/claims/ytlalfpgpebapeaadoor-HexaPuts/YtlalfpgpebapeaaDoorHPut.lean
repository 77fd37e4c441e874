/-
  hexa.Put, for every string, in every world that holds the table of digits.
-/
import Derived.Test.YtlalfpgpebapeaaDoorHHalf
import Derived.Deep.RegionHeld3
import Derived.Deep.AppendLies
import Derived.Laws.Pointers
import Derived.StillTactics
import Derived.OwnWalk
namespace Go.Proofs.YtlalfpgpebapeaaDoor.W
open Go.RowKit

theorem hput_step (s : ByteArray) (k : Nat) (h : k < s.size) : cells (hput (s.data.toList.take (k + 1))) = cells (hput (s.data.toList.take k)) ++ [.int .u8 (dg (s[k].toNat / 16)), .int .u8 (dg (s[k].toNat % 16))] := by
  have hb := s[k].toNat_lt
  rw [take_snoc s k h, hput_append, cells_append]
  simp only [hput, cells, List.map_cons, List.map_nil]
  rw [toNat_ofNat (dg_lt _ (by omega)), toNat_ofNat (dg_lt _ (by omega))]
def PutRel (s : ByteArray) (w : World) (k : Nat) (v : Value) (wr : World) : Prop := wr.ownsRow w.heap.size 5 1 v (2 * k) (cells (hput (s.data.toList.take k))) ∧ Below w.heap.size w wr
theorem PutRel.step {s : ByteArray} {w wr : World} {k : Nat} {v : Value} (hk : k < s.size)
    (h : wr.ownsRow w.heap.size 5 1 v (2 * k + 2) (cells (hput (s.data.toList.take k)) ++ [.int .u8 (dg (s[k].toNat / 16)), .int .u8 (dg (s[k].toNat % 16))])) (hb : Below w.heap.size w wr) : PutRel s w (k + 1) v wr := by
  unfold PutRel
  rw [hput_step s k hk]
  exact ⟨h, hb⟩
theorem PutRel.own {s : ByteArray} {w wr : World} {k : Nat} {v : Value} (h : PutRel s w k v wr) : Lib.OwnBuf w.heap.size 5 v (2 * k) (cells (hput (s.data.toList.take k))) w wr := ⟨World.ownsRowF_of h.1, h.2, h.2.size⟩

set_option maxHeartbeats 4000000 in
set_option maxRecDepth 100000 in
theorem hPut (s : ByteArray) (w : World) (hd : Digs w) (hs : s.size ≤ 35184372088832) :
    Calls Tryd.prog 8 #[.string s] w fun e w' => e = .returned (.string (bs (hput s.data.toList))) ∧ Below w.heap.size w w' := by
  obtain ⟨i0, hi, hz0, hz1, hz2⟩ := info_parts infoU8
  have hmk : ∀ W : World, (Instr.makeSlice 30 (.int .i64 0) (.int .i64 (2 * (s.size : Int)))).run Tryd.prog W = .ok (.slice (some ⟨W.heap.size, 0, none⟩) 0 (2 * s.size)) (W.alloc (.cells (madeCells (Value.int .u8 0).cells (2 * s.size)) 5)) := fun W => by
    have := run_make0 (2 * s.size) (by omega) W
    simpa using this
  have HO := Lib.hid (own_made (2 * s.size) (by unfold maxLen; omega) w)
  go_enter Tryd.func8, Tryd.ntmps8
  go_wp2
  clear hmk
  go_loopw [3, 11] (fun v i wr => ∃ k : Nat, k ≤ s.size ∧ i = .int .i64 k ∧ PutRel s w k v wr) (fun _ i _ => s.size - (intOf i).toNat)
  case atStart => exact ⟨0, Nat.zero_le _, rfl, HO.out⟩
  case round =>
    clear HO
    obtain ⟨k, hk, rfl, hown⟩ := hrel
    have hdr : Digs wr := hd.next hown.2
    by_cases hlt : k < s.size
    · have hb := s[k].toNat_lt
      obtain ⟨a, ha⟩ : ∃ a, s[k].toNat / 16 = a := ⟨_, rfl⟩
      obtain ⟨b, hbb⟩ : ∃ b, s[k].toNat % 16 = b := ⟨_, rfl⟩
      have hstep : ∀ v' w', w'.ownsRow w.heap.size 5 1 v' (2 * k + 2) (cells (hput (s.data.toList.take k)) ++ [.int .u8 (dg a), .int .u8 (dg b)]) → Below w.heap.size w w' → PutRel s w (k + 1) v' w' := by
        intro v' w' h1 h2
        rw [← ha, ← hbb] at h1
        exact PutRel.step hlt h1 h2
      have e1 : (s[k].toNat : Int) / 16 = (a : Int) := by omega
      have e2 : bits .and .u8 (s[k].toNat : Int) 15 = (b : Int) := by
        rw [show (15 : Int) = ((15 : Nat) : Int) from rfl, u8_and_nat _ 15 (by omega) (by decide), ← hbb]
        congr 1
        exact Nat.and_two_pow_sub_one_eq_mod _ 4
      have ha1 : (a : Int) < 16 := by omega
      have hb1 : (b : Int) < 16 := by omega
      have d1 := hdr a (by omega)
      have d2 := hdr b (by omega)
      have hk1 : (k : Int) < (s.size : Int) := by omega
      have HS := Lib.hid hstep
      have hsz := hown.2.size
      have hne0 : some 0 ≠ u3.ownBlock := fun e => by have := (hown.1.lt 0 e.symm).1; have := hd.pos; omega
      have hp0 : 0 < wr.heap.size := by have := hd.pos; omega
      have hlo : ∀ g, u3.ownBlock = some g → w.heap.size ≤ g := fun g hg => (hown.1.lt g hg).1
      have HLO := Lib.hid hlo
      have HNE := Lib.hid hne0
      clear hlo hne0
      clear ha hbb hstep hd hdr hb
      go_wp2_with fail
      go_region_held3 (fun w' => w'.cell? ⟨0, a, none⟩ = some (.int .u8 (dg a)) ∧ w'.cell? ⟨0, b, none⟩ = some (.int .u8 (dg b)))
        (first
          | go_keep
          | (go_split_ands
             refine ⟨?_, ?_⟩
             · (rw [hgrow.cell_far _ (by simp <;> omega) HNE.out]; assumption)
             · (rw [hgrow.cell_far _ (by simp <;> omega) HNE.out]; assumption)))
        ((refine step_append_lies _ (by rfl) _ _ _ (by rfl) w.heap.size 5 i0 _ 1 1 Tryd.underlying30 hi hz0 hz1 hz2 rfl (by omega) u3 (2 * k) _ (by rfl) ((hown.1.alloc _).drew)
            ⟨wr.heap.size, 0, none⟩ 2 2 [.int .u8 (dg a), .int .u8 (dg b)] (by rfl) (by rfl) (World.news_of_block (cs := #[.int .u8 (dg a), .int .u8 (dg b)]) (t := 5) (fr := (0, 0)) (heap_alloc_new wr _)) (by simp [Value.oneCell'])
            (by omega) (by unfold maxLen; omega) (by omega) (by simp; omega) (wr.heap.size + 1) (by simp) ?_; intro gg cap w1 hown1 hgrow hat hlt'))
      all_goals
        have hbel : Below w.heap.size w w1 := Below.grown (by
            have h := hown.2.alloc hsz (.cells #[.int .u8 (dg a), .int .u8 (dg b)] 5)
            exact ⟨h.os, h.tape, h.output, h.size, h.block⟩) hgrow (by simp; omega) HLO.out
        have R := HS.out _ w1 hown1 hbel
        clear hown1 hgrow hown HS
        go_wp2
        go_roundw
        case rel => exact ⟨k + 1, by omega, by go_num, R⟩
        case measure => simp [intOf]; omega
    · obtain rfl : k = s.size := by omega
      have hst := run_string w.heap.size u3 (hput s.data.toList) w wr (by
        have := hown.own
        rw [List.take_of_length_le (by rw [size_list]; omega)] at this
        rw [hput_len, size_list]
        exact this)
      go_wp2
      go_ret
      exact ⟨rfl, hown.2⟩
end Go.Proofs.YtlalfpgpebapeaaDoor.W
