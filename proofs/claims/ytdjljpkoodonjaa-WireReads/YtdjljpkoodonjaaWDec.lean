/-
  bigEndian and decodeNum: what they answer, for every string.
-/
import Derived.Test.YtdjljpkoodonjaaWEnc
import Derived.Deep.QuietTactic
import Derived.BigQuiet
import Derived.ScopeJumps
namespace Go.Proofs.Ytdjljpkoodonjaa.W
open Go.RowKit

theorem or_i64 (a b : Nat) (ha : a < 4611686018427387904) (hb : b < 4611686018427387904) : bits .or .i64 (a : Int) (b : Int) = ((a ||| b : Nat) : Int) := by
  have hx : a ||| b < 2 ^ 62 := Nat.or_lt_two_pow (by omega) (by omega)
  have h1 : (BitVec.ofInt 64 (a : Int)).toNat = a := by
    rw [BitVec.ofInt_natCast, BitVec.toNat_ofNat]; exact Nat.mod_eq_of_lt (by omega)
  have h2 : (BitVec.ofInt 64 (b : Int)).toNat = b := by
    rw [BitVec.ofInt_natCast, BitVec.toNat_ofNat]; exact Nat.mod_eq_of_lt (by omega)
  show IntKind.i64.wrap ((BitVec.ofInt 64 (a : Int) ||| BitVec.ofInt 64 (b : Int)).toNat : Int) = _
  rw [BitVec.toNat_or, h1, h2, IntKind.wrap_i64]
  omega
theorem or_byte (m : Nat) (b : UInt8) (hm : m < 281474976710656) : bits .or .i64 ((m : Int) * 256) (wrap64 (b.toNat : Int)) = ((m * 256 + b.toNat : Nat) : Int) := by
  have hb := b.toNat_lt
  rw [show (m : Int) * 256 = ((m * 256 : Nat) : Int) by omega, show wrap64 (b.toNat : Int) = (b.toNat : Int) by simp only [wrap64]; omega,
    or_i64 _ _ (by omega) (by omega), nat_join8 _ _ (by omega) (by omega)]
theorem or_byte0 (b : UInt8) : bits .or .i64 0 (wrap64 (b.toNat : Int)) = ((b.toNat : Nat) : Int) := by
  have h := or_byte 0 b (by omega)
  simpa using h
theorem val_take (d : ByteArray) (k : Nat) (h : k < d.size) : val (d.data.toList.take (k + 1)) = val (d.data.toList.take k) * 256 + d[k].toNat := by
  rw [List.take_succ_eq_append_getElem (by rw [size_list]; exact h), val_snoc]
  rfl
theorem val_bound (d : ByteArray) (k : Nat) (hk : k < 7) : val (d.data.toList.take k) < 281474976710656 := by
  refine Nat.lt_of_lt_of_le (val_lt _) ?_
  have : (d.data.toList.take k).length ≤ 6 := by rw [List.length_take]; omega
  exact Nat.le_trans (Nat.pow_le_pow_right (by decide) this) (by decide)
set_option maxHeartbeats 1000000 in
set_option maxRecDepth 1000000 in
theorem bigEndian (d : ByteArray) (w : World) (hd : d.size ≤ 7) :
    Calls Try.prog 30 #[.string d] w fun e w' => e = .returned (.int .i64 (val d.data.toList)) ∧ w = w' := by
  go_enter Try.func30, Try.ntmps30
  go_wp2
  refine wp_scope_jumps 0 (fun a' w' => w' = w ∧ ∃ (k : Nat) (u5 u6 u7 u8 u9 u10 u11 u12 u13 u14 u15 u16 u17 u18 : Value), a' = { tmps := #[.string d, undef, .int .i64 0, .int .i64 (val (d.data.toList.take k)), .int .i64 k, u5, u6, u7, u8, u9, u10, u11, u12, u13, u14, u15, u16, u17, u18], defers := [] } ∧ k ≤ d.size) (fun a' _ => d.size - (intOf (a'.tmps.getD 4 undef)).toNat) rfl ?_ ?_
  · by_cases h0 : 0 < d.size
    · have hv := val_take d 0 h0
      rw [List.take_zero, val_nil, Nat.zero_mul, Nat.zero_add] at hv
      rw [Nat.zero_add] at hv
      have HV := Lib.hid hv
      clear hv
      go_wp2
      go_step3
      go_wp2
      go_step3
      rw [or_byte0 d[0], ← HV.out]
      exact ⟨rfl, rfl, 1, _, _, _, _, _, _, _, _, _, _, _, _, _, _, rfl, by omega⟩
    · go_wp2
      go_step3
      go_wp2
      simp only [Exit.jump]
      go_ret
      refine ⟨?_, rfl⟩
      have e : d.data.toList = [] := List.eq_nil_of_length_eq_zero (by rw [size_list]; omega)
      rw [e]
      rfl
  · rintro a' w' ⟨rfl, k, u5, u6, u7, u8, u9, u10, u11, u12, u13, u14, u15, u16, u17, u18, rfl, hk⟩
    by_cases hlt : k < d.size
    · have hv := val_bound d k (by omega)
      have HV := Lib.hid (val_take d k hlt)
      generalize val (d.data.toList.take k) = m at *
      go_wp2
      go_step3
      rw [or_byte m d[k] hv, ← HV.out]
      refine ⟨rfl, ⟨rfl, k + 1, _, _, _, _, _, _, _, _, _, _, _, _, _, _, rfl, by omega⟩, ?_⟩
      simp [intOf]
      omega
    · obtain rfl : k = d.size := by omega
      rw [show d.data.toList.take d.size = d.data.toList from List.take_of_length_le (by rw [size_list]; omega)]
      go_wp2
      simp only [Exit.jump]
      go_ret
      exact ⟨rfl, rfl⟩

def dec : List UInt8 → Nat × Nat × Int
  | [] => (0, 0, 5)
  | k :: d =>
    if 7 < k.toNat then (0, 0, 6) else if 0 < k.toNat ∧ d.head? = some 0 then (0, 0, 6) else if d.length < k.toNat then (0, 0, 5)
    else if 9007199254740992 < val (d.take k.toNat) then (0, 0, 3) else (val (d.take k.toNat), 1 + k.toNat, 0)
def retDec (p : Nat × Nat × Int) : Value := .tuple #[.int .i64 p.1, .int .i64 p.2.1, .int .i64 p.2.2]

theorem empty_of (s : ByteArray) (h : s.size = 0) : s.toList.isEmpty = true := by
  rw [ByteArray.toList_eq, List.isEmpty_iff]
  exact List.eq_nil_of_length_eq_zero (by rw [size_list]; exact h)
theorem nonempty_of (s : ByteArray) (h : 0 < s.size) : s.toList.isEmpty = false := by
  rw [ByteArray.toList_eq, Bool.eq_false_iff]
  intro e
  rw [List.isEmpty_iff] at e
  have := size_list s
  rw [e] at this
  simp at this
  omega
theorem ex_list (s : ByteArray) (a b : Nat) : (s.extract a b).data.toList = (s.data.toList.drop a).take (b - a) := by
  have h := ByteArray.extract_mk s.data.toList a b
  have e : s = ByteArray.mk s.data.toList.toArray := by cases s; simp
  conv => lhs; rw [e]
  rw [h]
theorem ex_size (s : ByteArray) : (s.extract 1 s.size).size = s.size - 1 := by
  rw [← size_list, ex_list, List.length_take, List.length_drop, size_list]; omega
theorem cons_of (s : ByteArray) (h : 0 < s.size) : s.data.toList = s[0] :: (s.extract 1 s.size).data.toList := by
  rw [ex_list, List.take_of_length_le (by rw [List.length_drop, size_list]; omega), List.drop_one]
  have hne : s.data.toList ≠ [] := by intro e; have := size_list s; rw [e] at this; simp at this; omega
  have e : s[0] = s.data.toList.head hne := by rw [List.head_eq_getElem]; rfl
  rw [e, List.cons_head_tail]
theorem head_of (d : ByteArray) (h : 0 < d.size) : d.data.toList.head? = some d[0] := by rw [cons_of d h]; rfl
theorem take_of (d : ByteArray) (k : Nat) : (d.extract 0 k).data.toList = d.data.toList.take k := by rw [ex_list]; simp

section
variable {s : ByteArray} (h0 : 0 < s.size)
include h0
theorem dec_big (h : 7 < s[0].toNat) : dec s.data.toList = (0, 0, 6) := by
  rw [cons_of s h0, dec, if_pos h]
theorem dec_form (h : ¬ 7 < s[0].toNat) (h1 : 0 < s[0].toNat) (h2 : 0 < (s.extract 1 s.size).size) (h3 : (s.extract 1 s.size)[0].toNat = 0) : dec s.data.toList = (0, 0, 6) := by
  rw [cons_of s h0, dec, if_neg h, if_pos]
  refine ⟨h1, ?_⟩
  rw [head_of _ h2]
  exact congrArg some (UInt8.toNat_inj.1 (by simpa using h3))
theorem dec_tail (h : ¬ 7 < s[0].toNat) (h1 : 0 < s[0].toNat → ∀ h2 : 0 < (s.extract 1 s.size).size, (s.extract 1 s.size)[0].toNat ≠ 0) :
    dec s.data.toList = if s.size - 1 < s[0].toNat then (0, 0, (5 : Int)) else if 9007199254740992 < val ((s.extract 1 s.size).extract 0 s[0].toNat).data.toList then (0, 0, (3 : Int)) else (val ((s.extract 1 s.size).extract 0 s[0].toNat).data.toList, 1 + s[0].toNat, (0 : Int)) := by
  rw [cons_of s h0, dec, if_neg h, if_neg, size_list, ex_size, take_of]
  rintro ⟨h2, h3⟩
  by_cases hp : 0 < (s.extract 1 s.size).size
  · rw [head_of _ hp] at h3
    refine h1 h2 hp ?_
    rw [Option.some.inj h3]
    rfl
  · rw [List.eq_nil_of_length_eq_zero (show (s.extract 1 s.size).data.toList.length = 0 by rw [size_list]; omega)] at h3
    cases h3
end

theorem quiet_below (w : World) (n : Nat) : Below w.heap.size w (w.drewN n) := ⟨rfl, rfl, rfl, Nat.le_refl _, fun _ _ => rfl⟩
theorem ret_dec {a : Nat × Nat × Int} {b : Nat × Nat × Int} (h : a = b) : Ending.returned (retDec b) = Ending.returned (retDec a) := by rw [h]

set_option maxHeartbeats 2000000 in
/-- the ways that come to the call of bigEndian, or lack bytes -/
theorem decodeNum_tail (s : ByteArray) (w : World) (hm : s.size ≤ 9223372036854775807) (h0 : 0 < s.size) (h7 : ¬ 7 < s[0].toNat)
    (h1 : 0 < s[0].toNat → ∀ h2 : 0 < (s.extract 1 s.size).size, (s.extract 1 s.size)[0].toNat ≠ 0) :
    Calls Try.prog 27 #[.string s] w fun e w' => e = .returned (retDec (dec s.data.toList)) ∧ Below w.heap.size w w' := by
  have hE := nonempty_of s h0
  have hk := s[0].toNat_lt
  have HX := Lib.hid (ex_size s)
  have HD := Lib.hid (dec_tail h0 h7 h1)
  by_cases hc : s.size - 1 < s[0].toNat
  · have HD2 := Lib.hid (show dec s.data.toList = (0, 0, (5 : Int)) by rw [HD.out, if_pos hc])
    clear HD
    by_cases hp : 0 < (s.extract 1 s.size).size
    · have hne := nonempty_of _ hp
      have hne2 : ¬ (s.extract 1 s.size).toList = [] := by intro e; rw [e] at hne; cases hne
      have hz : ((((s.extract 1 s.size)[0]'hp).toNat : Int) == 0) = false := beq_eq_false_iff_ne.2 (by have := h1 (by omega) hp; omega)
      have hs1 : 0 < s.size - 1 := by have := HX.out; omega
      clear h1
      go_enter Try.func27, Try.ntmps27
      go_wp2
      go_quiet (fail)
      go_wp2
      go_ret3
      exact ⟨ret_dec HD2.out, quiet_below _ _⟩
    · have hne := empty_of (s.extract 1 s.size) (by omega)
      have hne2 : (s.extract 1 s.size).toList = [] := by rwa [List.isEmpty_iff] at hne
      clear h1
      go_enter Try.func27, Try.ntmps27
      go_wp2
      go_quiet (fail)
      go_wp2
      go_ret3
      exact ⟨ret_dec HD2.out, quiet_below _ _⟩
  · have HD2 := Lib.hid (HD.out.trans (if_neg hc))
    clear HD
    have hsz : ((s.extract 1 s.size).extract 0 s[0].toNat).size ≤ 7 := by
      rw [← size_list, take_of, List.length_take]; omega
    have HB := Lib.hid (fun W => bigEndian ((s.extract 1 s.size).extract 0 s[0].toNat) W hsz)
    by_cases hz0 : 0 < s[0].toNat
    · have hp : 0 < (s.extract 1 s.size).size := by have := HX.out; omega
      have hne := nonempty_of _ hp
      have hne2 : ¬ (s.extract 1 s.size).toList = [] := by intro e; rw [e] at hne; cases hne
      have hz : ((((s.extract 1 s.size)[0]'hp).toNat : Int) == 0) = false := beq_eq_false_iff_ne.2 (by have := h1 (by omega) hp; omega)
      have hs1 : 0 < s.size - 1 := by have := HX.out; omega
      clear h1 hsz
      go_enter Try.func27, Try.ntmps27
      go_wp2
      go_quiet (fail)
      go_wp2_with fail
      refine (HB.out _).mono ?_
      rintro e w' ⟨rfl, rfl⟩
      generalize val ((s.extract 1 s.size).extract 0 s[0].toNat).data.toList = m at *
      by_cases hr : 9007199254740992 < m
      · go_wp2
        go_ret3
        exact ⟨ret_dec (HD2.out.trans (if_pos hr)), quiet_below _ _⟩
      · go_wp2
        go_ret3
        exact ⟨ret_dec (HD2.out.trans (if_neg hr)), quiet_below _ _⟩
    · clear h1 hsz
      go_enter Try.func27, Try.ntmps27
      go_wp2
      go_quiet (fail)
      go_wp2_with fail
      refine (HB.out _).mono ?_
      rintro e w' ⟨rfl, rfl⟩
      generalize val ((s.extract 1 s.size).extract 0 s[0].toNat).data.toList = m at *
      by_cases hr : 9007199254740992 < m
      · go_wp2
        go_ret3
        exact ⟨ret_dec (HD2.out.trans (if_pos hr)), quiet_below _ _⟩
      · go_wp2
        go_ret3
        exact ⟨ret_dec (HD2.out.trans (if_neg hr)), quiet_below _ _⟩

set_option maxHeartbeats 2000000 in
theorem decodeNum (s : ByteArray) (w : World) (hm : s.size ≤ 9223372036854775807) :
    Calls Try.prog 27 #[.string s] w fun e w' => e = .returned (retDec (dec s.data.toList)) ∧ Below w.heap.size w w' := by
  by_cases h0 : 0 < s.size
  · have hE := nonempty_of s h0
    have hk := s[0].toNat_lt
    have hxs := ex_size s
    by_cases h7 : 7 < s[0].toNat
    · have HD := Lib.hid (dec_big h0 h7)
      clear hxs
      go_enter Try.func27, Try.ntmps27
      go_wp2
      go_quiet (fail)
      go_wp2
      go_ret3
      exact ⟨ret_dec HD.out, quiet_below _ _⟩
    · by_cases hf : 0 < s[0].toNat ∧ ∃ h2 : 0 < (s.extract 1 s.size).size, (s.extract 1 s.size)[0].toNat = 0
      · obtain ⟨hz0, hp, hz⟩ := hf
        have HD := Lib.hid (dec_form h0 h7 hz0 hp hz)
        have hne := nonempty_of _ hp
        have hne2 : ¬ (s.extract 1 s.size).toList = [] := by intro e; rw [e] at hne; cases hne
        have hz2 : ((((s.extract 1 s.size)[0]'hp).toNat : Int) == 0) = true := beq_iff_eq.2 (by omega)
        have hs1 : 0 < s.size - 1 := by omega
        clear hz hxs
        go_enter Try.func27, Try.ntmps27
        go_wp2
        go_quiet (fail)
        go_wp2
        go_ret3
        exact ⟨ret_dec HD.out, quiet_below _ _⟩
      · exact decodeNum_tail s w hm h0 h7 (fun a b c => hf ⟨a, b, c⟩)
  · have hE := empty_of s (by omega)
    have HD := Lib.hid (show dec s.data.toList = (0, 0, 5) by rw [List.eq_nil_of_length_eq_zero (show s.data.toList.length = 0 by rw [size_list]; omega)]; rfl)
    go_enter Try.func27, Try.ntmps27
    go_wp2
    go_ret3
    exact ⟨by rw [HD.out]; rfl, Below.refl _ _⟩
end Go.Proofs.Ytdjljpkoodonjaa.W
