/-
  The reference's Number, shown and Split.
-/
import Derived.Test.YtjmbbkjepgahgaaDoorPRef
import Derived.Test.YtjmbbkjepgahgaaDoorPSplit
namespace Go.Proofs.YtjmbbkjepgahgaaDoor.W
open Go.RowKit

theorem clamp_is2 (n : Int) : max 0 (min n 99999999999999) = (clamp n : Int) := by unfold clamp; omega

set_option maxHeartbeats 2000000 in
set_option maxRecDepth 100000 in
theorem rNumber (n : Int) (w : World) :
    Calls Tryd.prog 13 #[.int .i64 n] w fun e w' => e = .returned (.string (bs (lowd 14 (clamp n)))) ∧ Below w.heap.size w w' := by
  have hc := clamp_is2 n
  have hm : clamp n ≤ 99999999999999 := by unfold clamp; omega
  generalize clamp n = m at *
  go_enter Tryd.func13, Tryd.ntmps13
  go_wp2
  go_loopw [0, 3, 4] (fun v s i wr => ∃ (k j : Nat) (t : List UInt8), k ≤ 14 ∧ v = .int .i64 j ∧ s = .string (bs t) ∧ i = .int .i64 k ∧ Hid (j = m / 10 ^ k) ∧ j ≤ 99999999999999 ∧ Hid (t = lowd k m) ∧ Below w.heap.size w wr) (fun _ _ i _ => 14 - (intOf i).toNat)
  case atStart => exact ⟨0, m, [], by omega, rfl, rfl, rfl, Lib.hid (by simp), hm, Lib.hid rfl, Below.refl _ _⟩
  case round =>
    obtain ⟨k, j, t, hk, rfl, rfl, rfl, hj, hj1, ht, hbel⟩ := hrel
    have htl : t.length ≤ 14 := by rw [ht.out, lowd_len]; exact hk
    have hsz := hbel.size
    by_cases hlt : k < 14
    · have hcv := run_one wr (48 + (j : Int) % 10) (by omega) (by omega)
      have e8 : (48 + (j : Int) % 10).toNat = 48 + j % 10 := by omega
      rw [e8] at hcv
      obtain ⟨c, hc⟩ : ∃ c, UInt8.ofNat (48 + j % 10) = c := ⟨_, rfl⟩
      rw [hc] at hcv
      have HC := Lib.hid hc
      have hadd := fun W => run_add W [c] t (by simp; omega)
      clear e8 hc
      go_wp2
      go_roundw
      case rel =>
        refine ⟨k + 1, j / 10, c :: t, by omega, by go_num, rfl, by go_num, Lib.hid ?_, by omega, Lib.hid ?_, hbel.alloc hsz _⟩
        · rw [hj.out, Nat.div_div_eq_div_mul, Nat.pow_succ]
        · rw [lowd_cons, ← HC.out, ht.out, hj.out]
      case measure => simp [intOf]; omega
    · obtain rfl : k = 14 := by omega
      have HE := Lib.hid (congrArg bs ht.out)
      go_wp2
      go_ret
      exact ⟨by rw [HE.out]; rfl, hbel⟩

/-- what shown has read at place k -/
def ShRel (s acc : List UInt8) (k : Nat) : Prop := shw s = (shw (s.drop k)).map (acc ++ ·)
theorem ShRel.plain {s : ByteArray} {acc : List UInt8} {k : Nat} (h : ShRel s.data.toList acc k) (hk : k < s.size) (hb : s[k] ≠ 37) : ShRel s.data.toList (acc ++ [s[k]]) (k + 1) := by
  unfold ShRel at h ⊢
  rw [h, drop_cons s k hk, shw_cons hb, Option.map_map]
  congr 1
  funext x
  simp
theorem ShRel.two {s : ByteArray} {acc : List UInt8} {k : Nat} (h : ShRel s.data.toList acc k) (hk : k + 1 < s.size) (hb : s[k] = 37) :
    shw s.data.toList = (if s[k + 1] = 112 then (shw (s.data.toList.drop (k + 2))).map (37 :: ·) else if s[k + 1] = 115 then (shw (s.data.toList.drop (k + 2))).map (47 :: ·) else none).map (acc ++ ·) := by
  unfold ShRel at h
  rw [h, drop_cons s k (by omega), drop_cons s (k + 1) hk, hb, shw, if_pos rfl]
theorem ShRel.yes {s : ByteArray} {acc : List UInt8} {k : Nat} (h : ShRel s.data.toList acc k) (hk : k + 1 < s.size) (hb : s[k] = 37) {c : UInt8} (hc : (s[k + 1] = 112 ∧ c = 37) ∨ (s[k + 1] = 115 ∧ c = 47)) : ShRel s.data.toList (acc ++ [c]) (k + 2) := by
  have e := h.two hk hb
  unfold ShRel
  rw [e]
  rcases hc with ⟨h1, rfl⟩ | ⟨h1, rfl⟩
  · rw [if_pos h1, Option.map_map]
    congr 1
    funext x
    simp
  · rw [if_neg (by rw [h1]; decide), if_pos h1, Option.map_map]
    congr 1
    funext x
    simp
theorem ShRel.no {s : ByteArray} {acc : List UInt8} {k : Nat} (h : ShRel s.data.toList acc k) (hk : k + 1 < s.size) (hb : s[k] = 37) (h1 : s[k + 1] ≠ 112) (h2 : s[k + 1] ≠ 115) : shw s.data.toList = none := by
  rw [h.two hk hb, if_neg h1, if_neg h2]
  rfl
theorem ShRel.cut {s : ByteArray} {acc : List UInt8} {k : Nat} (h : ShRel s.data.toList acc k) (hk : k + 1 = s.size) (hb : s[k] = 37) : shw s.data.toList = none := by
  unfold ShRel at h
  rw [h, drop_cons s k (by omega), hb, List.drop_eq_nil_of_le (by rw [size_list]; omega), shw, if_pos rfl]
  rfl
theorem ShRel.all {s : ByteArray} {acc : List UInt8} (h : ShRel s.data.toList acc s.size) : shw s.data.toList = some acc := by
  unfold ShRel at h
  rw [h, List.drop_eq_nil_of_le (by rw [size_list]; omega), shw]
  simp
theorem own_more {B : Nat} {e : TypeId} {v : Value} {acc : List UInt8} {c : UInt8} {W0 w : World} (h : Lib.OwnBuf B e v (acc.length + 1) (cells acc ++ [.int .u8 c.toNat]) W0 w) : Lib.OwnBuf B e v (acc ++ [c]).length (cells (acc ++ [c])) W0 w := by
  rw [cells_append, List.length_append]
  exact h

/-- shown's answer -/
def ShPost (s : ByteArray) (w : World) (e : Ending) (w' : World) : Prop :=
  Below w.heap.size w w' ∧ ((∃ t, shw s.data.toList = some t ∧ e = .returned (.tuple #[.string (bs t), .bool true])) ∨ (shw s.data.toList = none ∧ e = .returned (.tuple #[.string ⟨#[]⟩, .bool false])))

set_option maxHeartbeats 2000000 in
set_option maxRecDepth 100000 in
theorem rShown (s : ByteArray) (w : World) (hs : s.size ≤ 100000000) :
    Calls Tryd.prog 16 #[.string s] w (ShPost s w) := by
  obtain ⟨i0, hi, hz0, hz1, hz2⟩ := info_parts infoU8
  go_enter Tryd.func16, Tryd.ntmps16
  go_wp2
  go_loopw [4, 5] (fun v i wr => ∃ (k : Nat) (acc : List UInt8), k ≤ s.size ∧ i = .int .i64 k ∧ acc.length ≤ k ∧ Hid (ShRel s.data.toList acc k) ∧ Lib.OwnBuf w.heap.size 5 v acc.length (cells acc) w wr) (fun _ i _ => s.size - (intOf i).toNat)
  case atStart => exact ⟨0, [], Nat.zero_le _, rfl, by simp, Lib.hid (by unfold ShRel; simp), OwnBuf_nil w _⟩
  case round =>
    obtain ⟨k, acc, hk, rfl, hal, hrel, hown⟩ := hrel
    by_cases hlt : k < s.size
    · have hb := s[k].toNat_lt
      have hki : (k : Int) < (s.size : Int) := by omega
      by_cases h1 : s[k] = 37
      · have q1 : ((s[k].toNat : Int) != 37) = false := by rw [h1]; rfl
        by_cases h2 : k + 1 < s.size
        · have hki2 : (k : Int) + 1 < (s.size : Int) := by omega
          have hb2 := s[k + 1].toNat_lt
          by_cases h3 : s[k + 1] = 112
          · have q2 : ((s[k + 1].toNat : Int) == 112) = true := by rw [h3]; rfl
            have HN := Lib.hid (hrel.out.yes h2 h1 (.inl ⟨h3, rfl⟩))
            clear h1 h3 hrel
            go_wp2_with (at_builtin; go_must (refine Lib.wpList_append_byte rfl _ _ 43 rfl w.heap.size 5 i0 Tryd.underlying43 hi hz0 hz1 hz2 u4 acc.length (cells acc) rfl w wr _ hown rfl (by omega) ?_))
            intro v1 w1 hv
            have R := own_more (c := 37) hv
            clear hv hown
            go_wp2
            go_roundw
            case rel => exact ⟨k + 2, acc ++ [37], by omega, by go_num, by simp; omega, HN, R⟩
            case measure => simp [intOf]; omega
          · have q2 : ((s[k + 1].toNat : Int) == 112) = false := by rw [beq_eq_false_iff_ne]; exact fun e => h3 (u8_eq (n := 112) (by omega))
            by_cases h4 : s[k + 1] = 115
            · have q3 : ((s[k + 1].toNat : Int) == 115) = true := by rw [h4]; rfl
              have HN := Lib.hid (hrel.out.yes h2 h1 (.inr ⟨h4, rfl⟩))
              clear h1 h3 h4 hrel
              go_wp2_with (at_builtin; go_must (refine Lib.wpList_append_byte rfl _ _ 43 rfl w.heap.size 5 i0 Tryd.underlying43 hi hz0 hz1 hz2 u4 acc.length (cells acc) rfl w wr _ hown rfl (by omega) ?_))
              intro v1 w1 hv
              have R := own_more (c := 47) hv
              clear hv hown
              go_wp2
              go_roundw
              case rel => exact ⟨k + 2, acc ++ [47], by omega, by go_num, by simp; omega, HN, R⟩
              case measure => simp [intOf]; omega
            · have q3 : ((s[k + 1].toNat : Int) == 115) = false := by rw [beq_eq_false_iff_ne]; exact fun e => h4 (u8_eq (n := 115) (by omega))
              have HN := Lib.hid (hrel.out.no h2 h1 h3 h4)
              have hbel := hown.2.1
              clear h1 h3 h4 hrel hown
              go_wp2
              go_ret2
              exact ⟨hbel, .inr ⟨HN.out, rfl⟩⟩
        · have hki2 : ¬ (k : Int) + 1 < (s.size : Int) := by omega
          have HN := Lib.hid (hrel.out.cut (by omega) h1)
          have hbel := hown.2.1
          clear h1 hrel hown
          go_wp2
          go_ret2
          exact ⟨hbel, .inr ⟨HN.out, rfl⟩⟩
      · have q1 : ((s[k].toNat : Int) != 37) = true := by rw [bne_iff_ne]; exact fun e => h1 (u8_eq (n := 37) (by omega))
        have HN := Lib.hid (hrel.out.plain hlt h1)
        clear h1 hrel
        go_wp2_with (at_builtin; go_must (refine Lib.wpList_append_byte rfl _ _ 43 rfl w.heap.size 5 i0 Tryd.underlying43 hi hz0 hz1 hz2 u4 acc.length (cells acc) rfl w wr _ hown rfl (by omega) ?_))
        intro v1 w1 hv
        have R := own_more hv
        clear hv hown
        go_wp2
        go_roundw
        case rel => exact ⟨k + 1, acc ++ [s[k]], by omega, by go_num, by simp; omega, HN, R⟩
        case measure => simp [intOf]; omega
    · obtain rfl : k = s.size := by omega
      have HN := Lib.hid hrel.out.all
      have hcv := run_string _ _ _ _ _ hown
      have hbel := hown.2.1
      clear hrel hown
      go_wp2
      go_ret2
      exact ⟨hbel, .inl ⟨acc, HN.out, rfl⟩⟩
end Go.Proofs.YtjmbbkjepgahgaaDoor.W
