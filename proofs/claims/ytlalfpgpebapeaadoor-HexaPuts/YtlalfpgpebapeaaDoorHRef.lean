/-
  The reference's Put and Read (hexadecimal), for every string.
-/
import Derived.Test.YtlalfpgpebapeaaDoorHRead
import Derived.Test.YtlalfpgpebapeaaDoorHPut
import Derived.Deep.QuietTactic
import Derived.BigQuiet
import Derived.IntWalk
namespace Go.Proofs.YtlalfpgpebapeaaDoor.W
open Go.RowKit

set_option maxHeartbeats 1000000 in
theorem rDigit (n : Nat) (h : n < 16) (w : World) : Calls Tryd.prog 12 #[.int .u8 n] w fun e w' => e = .returned (.int .u8 (dg n)) ∧ w = w' := by
  by_cases h1 : n < 10
  · have HE : Hid (dg n = 48 + n) := Lib.hid (by simp [dg, h1])
    go_enter Tryd.func12, Tryd.ntmps12
    go_wp2
    go_ret
    exact ⟨by rw [HE.out]; go_num, rfl⟩
  · have HE : Hid (dg n = 87 + n) := Lib.hid (by simp [dg, h1])
    go_enter Tryd.func12, Tryd.ntmps12
    go_wp2
    go_ret
    exact ⟨by rw [HE.out]; go_num, rfl⟩
set_option maxHeartbeats 1000000 in
theorem rHalf (c : UInt8) (w : World) : Calls Tryd.prog 11 #[.int .u8 c.toNat] w fun e w' => e = .returned (.int .u8 (hv c.toNat)) ∧ w = w' := by
  have hc := c.toNat_lt
  by_cases h1 : 48 ≤ c.toNat
  · by_cases h2 : c.toNat ≤ 57
    · have HE : Hid (hv c.toNat = c.toNat - 48) := Lib.hid (by unfold hv; rw [if_pos ⟨h1, h2⟩])
      go_enter Tryd.func11, Tryd.ntmps11
      go_wp2
      go_ret
      exact ⟨by rw [HE.out]; go_num, rfl⟩
    · by_cases h3 : 97 ≤ c.toNat
      · by_cases h4 : c.toNat ≤ 102
        · have HE : Hid (hv c.toNat = c.toNat - 87) := Lib.hid (by unfold hv; rw [if_neg (by omega), if_pos ⟨h3, h4⟩])
          go_enter Tryd.func11, Tryd.ntmps11
          go_wp2
          go_ret
          exact ⟨by rw [HE.out]; go_num, rfl⟩
        · have HE : Hid (hv c.toNat = 16) := Lib.hid (by unfold hv; rw [if_neg (by omega), if_neg (by omega)])
          go_enter Tryd.func11, Tryd.ntmps11
          go_wp2
          go_ret
          exact ⟨by rw [HE.out]; rfl, rfl⟩
      · have HE : Hid (hv c.toNat = 16) := Lib.hid (by unfold hv; rw [if_neg (by omega), if_neg (by omega)])
        go_enter Tryd.func11, Tryd.ntmps11
        go_wp2
        go_ret
        exact ⟨by rw [HE.out]; rfl, rfl⟩
  · have HE : Hid (hv c.toNat = 16) := Lib.hid (by unfold hv; rw [if_neg (by omega), if_neg (by omega)])
    go_enter Tryd.func11, Tryd.ntmps11
    go_wp2
    go_ret
    exact ⟨by rw [HE.out]; rfl, rfl⟩

set_option maxHeartbeats 1000000 in
set_option maxRecDepth 100000 in
theorem rPut (s : ByteArray) (w : World) (hs : s.size ≤ 35184372088832) :
    Calls Tryd.prog 9 #[.string s] w fun e w' => e = .returned (.string (bs (hput s.data.toList))) ∧ Below w.heap.size w w' := by
  obtain ⟨i0, hi, hz0, hz1, hz2⟩ := info_parts infoU8
  go_enter Tryd.func9, Tryd.ntmps9
  go_wp2
  go_loopw [3, 4] (fun v i wr => ∃ k : Nat, k ≤ s.size ∧ i = .int .i64 k ∧ PutRel s w k v wr) (fun _ i _ => s.size - (intOf i).toNat)
  case atStart => exact ⟨0, Nat.zero_le _, rfl, ⟨by simp [cells, hput], .inl ⟨rfl, rfl⟩⟩, Below.refl _ _⟩
  case round =>
    obtain ⟨k, hk, rfl, hown⟩ := hrel
    by_cases hlt : k < s.size
    · have hb := s[k].toNat_lt
      obtain ⟨a, ha⟩ : ∃ a, s[k].toNat / 16 = a := ⟨_, rfl⟩
      obtain ⟨b, hbb⟩ : ∃ b, s[k].toNat % 16 = b := ⟨_, rfl⟩
      have hstep : ∀ v' w', w'.ownsRow w.heap.size 5 1 v' (2 * k + 2) (cells (hput (s.data.toList.take k)) ++ [.int .u8 (dg a), .int .u8 (dg b)]) → Below w.heap.size w w' → PutRel s w (k + 1) v' w' := by
        intro v' w' h1 h2
        rw [← ha, ← hbb] at h1
        exact PutRel.step hlt h1 h2
      have e1 : (s[k].toNat : Int) / 16 = (a : Int) := by omega
      have e2 : (s[k].toNat : Int) % 16 = (b : Int) := by omega
      have e3 : (s[k].toNat : Int).tdiv 16 = (a : Int) := by rw [Int.tdiv_eq_ediv_of_nonneg (by omega)]; exact e1
      have e4 : (s[k].toNat : Int).tmod 16 = (b : Int) := by rw [Int.tmod_eq_emod_of_nonneg (by omega)]; exact e2
      have ha1 : a < 16 := by omega
      have hb1 : b < 16 := by omega
      have e5 : IntKind.u8.wrap (a : Int) = (a : Int) := by rw [IntKind.wrap_u8]; omega
      have e6 : IntKind.u8.wrap (b : Int) = (b : Int) := by rw [IntKind.wrap_u8]; omega
      have hk1 : (k : Int) < (s.size : Int) := by omega
      have HS := Lib.hid hstep
      have hsz := hown.2.size
      have hlo : ∀ g, u3.ownBlock = some g → w.heap.size ≤ g := fun g hg => (hown.1.lt g hg).1
      have HLO := Lib.hid hlo
      clear hlo ha hbb hstep hb
      go_wp2_with fail
      go_region_held3 (fun w' => True)
        (trivial)
        (first
          | (go_at_call 12; (with_reducible refine (rDigit a ha1 _).mono ?_); rintro e w' ⟨rfl, rfl⟩)
          | (go_at_call 12; (with_reducible refine (rDigit b hb1 _).mono ?_); rintro e w' ⟨rfl, rfl⟩)
          | (refine step_append_lies _ (by rfl) _ _ _ (by rfl) w.heap.size 5 i0 _ 1 1 Tryd.underlying30 hi hz0 hz1 hz2 rfl (by omega) u3 (2 * k) _ (by rfl) ((hown.1.alloc _).drew)
                ⟨wr.heap.size, 0, none⟩ 2 2 [.int .u8 (dg a), .int .u8 (dg b)] (by rfl) (by rfl) (World.news_of_block (cs := #[.int .u8 (dg a), .int .u8 (dg b)]) (t := 5) (fr := (0, 0)) (heap_alloc_new wr _)) (by simp [Value.oneCell'])
                (by omega) (by unfold maxLen; omega) (by omega) (by simp; omega) (wr.heap.size + 1) (by simp) ?_; intro gg cap w1 hown1 hgrow hat hlt'))
      all_goals
        have hbel : Below w.heap.size w w1 := Below.grown (by
            have h := hown.2.alloc hsz (.cells #[.int .u8 (dg a), .int .u8 (dg b)] 5)
            exact ⟨h.os, h.tape, h.output, h.size, h.block⟩) hgrow (by simp; omega) HLO.out
        have R := HS.out _ w1 hown1 hbel
        clear hown1 hgrow hown HS
        go_wp2
        go_roundw
        case rel => exact ⟨k + 1, by omega, by go_num, R⟩
        case measure => simp [intOf]; omega
    · obtain rfl : k = s.size := by omega
      have hst := run_string w.heap.size u3 (hput s.data.toList) w wr (by
        have := hown.own
        rw [List.take_of_length_le (by rw [size_list]; omega)] at this
        rw [hput_len, size_list]
        exact this)
      go_wp2
      go_ret
      exact ⟨rfl, hown.2⟩

theorem quiet_left {P : Program} {f : FuncId} {args : Array Value} {w : World} {n : Nat} {v : Value}
    (h : Calls P f args (w.drewN n) fun e w' => e = .returned v ∧ w.drewN n = w') : Calls P f args (w.drewN n) fun e w'' => e = .returned v ∧ ∃ m, w'' = w.drewN m :=
  h.mono fun _ _ ⟨he, hm⟩ => ⟨he, n, hm.symm⟩
theorem rHalf_is (c : UInt8) (n : Nat) (h : Hid (hv c.toNat = n)) (w : World) : Calls Tryd.prog 11 #[.int .u8 c.toNat] w fun e w' => e = .returned (.int .u8 n) ∧ w = w' := by
  have := h.out
  subst this
  exact rHalf c w

set_option maxHeartbeats 1000000 in
set_option maxRecDepth 100000 in
theorem rRead (s : ByteArray) (w : World) (hs : s.size ≤ 35184372088832) :
    Calls Tryd.prog 7 #[.string s] w fun e w' => e = .returned (retHex (rdHex s.data.toList)) ∧ Below w.heap.size w w' := by
  obtain ⟨i0, hi, hz0, hz1, hz2⟩ := info_parts infoU8
  by_cases hodd : s.size % 2 = 1
  · have HE := Lib.hid (rdHex_odd s hodd)
    have h2 : (s.size : Int) % 2 = 1 := by omega
    go_enter Tryd.func7, Tryd.ntmps7
    go_wp2
    go_ret2
    exact ⟨by rw [HE.out]; rfl, Below.refl _ _⟩
  · have h2 : (s.size : Int) % 2 = 0 := by omega
    obtain ⟨m, hm⟩ : ∃ m, s.size = 2 * m := ⟨s.size / 2, by omega⟩
    have hml : m ≤ 35184372088832 := by omega
    have HM := Lib.hid hm
    clear hodd hm
    go_enter Tryd.func7, Tryd.ntmps7
    go_wp2
    clear h2
    go_loopw [4, 5] (fun v i wr => ∃ k : Nat, k ≤ m ∧ i = .int .i64 ((2 * k : Nat) : Int) ∧ RdRel s w k v wr) (fun _ i _ => s.size - (intOf i).toNat)
    case atStart => exact ⟨0, Nat.zero_le _, rfl, [], HRel.zero _, OwnBuf_nil w _⟩
    case round =>
      obtain ⟨k, hk, rfl, acc, hrel, hown⟩ := hrel
      by_cases hlt : k < m
      · have hm := HM.out
        have h0 : 2 * k < s.size := by omega
        have h1 : 2 * k + 1 < s.size := by omega
        have HR := Lib.hid hrel
        clear hrel hm
        obtain ⟨a, ha⟩ : ∃ a, hv s[2 * k].toNat = a := ⟨_, rfl⟩
        obtain ⟨b, hb⟩ : ∃ b, hv s[2 * k + 1].toNat = b := ⟨_, rfl⟩
        have HA := Lib.hid ha
        have HB := Lib.hid hb
        have la := hv_le s[2 * k].toNat
        have lb := hv_le s[2 * k + 1].toNat
        rw [ha] at la
        rw [hb] at lb
        clear ha hb
        have i1 : (2 * (k : Int)) < (s.size : Int) := by omega
        have i2 : (2 * (k : Int) + 1) < (s.size : Int) := by omega
        have i3 : IntKind.i64.wrap (2 * (k : Int) + 1) = 2 * (k : Int) + 1 := IntWalk.i64_in _ (by omega)
        have i4 : (0 : Int) ≤ 2 * (k : Int) + 1 := by omega
        have i5 : (2 * (k : Int) + 1).toNat = 2 * k + 1 := by omega
        have i6 : (0 : Int) ≤ 2 * (k : Int) := by omega
        go_wp2_with fail
        go_quiet ((first
          | (go_at_call 11; with_reducible exact quiet_left (rHalf_is _ a HA _))
          | (go_at_call 11; with_reducible exact quiet_left (rHalf_is _ b HB _))))
        by_cases ha : a < 16
        · by_cases hb : b < 16
          · have HS : Hid (∀ v' w', Lib.OwnBuf w.heap.size 5 v' (k + 1) (cells acc ++ [.int .u8 ((a * 16 + b : Nat) : Int)]) w w' → RdRel s w (k + 1) v' w') := Lib.hid (by
              intro v' w' ho
              have h := HA.out
              have h' := HB.out
              subst h h'
              exact RdRel.step HR.out h0 h1 ha hb ho)
            have hown' := hown.drewN nq
            go_wp2_with (at_builtin; go_must (refine Lib.wpList_append_byte rfl _ _ 30 rfl w.heap.size 5 i0 Tryd.underlying30 hi hz0 hz1 hz2 u4 k _ rfl w (wr.drewN nq) _ hown' rfl (by omega) ?_))
            intro v1 w1 hv1
            have R := HS.out v1 w1 (by simpa using hv1)
            clear hv1 hown hown' HS
            go_wp2
            go_roundw
            case rel => exact ⟨k + 1, by omega, by go_num, R⟩
            case measure => simp [intOf]; omega
          · have HE := Lib.hid (HR.out.bad h0 h1 (by rw [HA.out, HB.out]; omega))
            go_wp2
            go_ret2
            exact ⟨by rw [HE.out]; rfl, (hown.drewN nq).2.1⟩
        · have HE := Lib.hid (HR.out.bad h0 h1 (by rw [HA.out, HB.out]; omega))
          go_wp2
          go_ret2
          exact ⟨by rw [HE.out]; rfl, (hown.drewN nq).2.1⟩
      · obtain rfl : k = m := by omega
        have HE := Lib.hid (hrel.done (by have := HM.out; omega))
        have hm2 : ¬ (2 * (k : Int) < s.size) := by have := HM.out; omega
        have hl := hrel.1
        have hst := run_string w.heap.size u4 acc w wr (by rw [hl]; exact hown)
        clear hl hrel
        go_wp2
        go_ret2
        exact ⟨by rw [HE.out]; rfl, hown.2.1⟩
end Go.Proofs.YtlalfpgpebapeaaDoor.W
