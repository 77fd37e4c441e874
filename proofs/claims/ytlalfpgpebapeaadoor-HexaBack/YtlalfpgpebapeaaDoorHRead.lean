/-
  hexa.Read, for every string, in every world that holds the table of digits.
-/
import Derived.Test.YtlalfpgpebapeaaDoorHHalf
namespace Go.Proofs.YtlalfpgpebapeaaDoor.W
open Go.RowKit

def retHex (p : List UInt8 × Int) : Value := .tuple #[.string (bs p.1), .int .i64 p.2]
theorem or_u8 (a b : Nat) (ha : a < 16) (hb : b < 16) : bits .or .u8 ((a : Int) * 16) (b : Int) = ((a * 16 + b : Nat) : Int) := by
  have e : ((a : Int) * 16) = ((a * 16 : Nat) : Int) := by omega
  rw [e, u8_or_nat (a * 16) b (by omega) (by omega)]
  congr 1
  have := Nat.two_pow_add_eq_or_of_lt (i := 4) (b := b) (by omega) a
  rw [show a * 16 = 2 ^ 4 * a by omega, this]
def RdRel (s : ByteArray) (w : World) (k : Nat) (v : Value) (wr : World) : Prop := ∃ acc : List UInt8, HRel s.data.toList k acc ∧ Lib.OwnBuf w.heap.size 5 v k (cells acc) w wr
theorem RdRel.step {s : ByteArray} {w wr : World} {k : Nat} {v : Value} {acc : List UInt8} (h : HRel s.data.toList k acc) (h0 : 2 * k < s.size) (h1 : 2 * k + 1 < s.size)
    (ha : hv s[2 * k].toNat < 16) (hb : hv s[2 * k + 1].toNat < 16)
    (ho : Lib.OwnBuf w.heap.size 5 v (k + 1) (cells acc ++ [.int .u8 ((hv s[2 * k].toNat * 16 + hv s[2 * k + 1].toNat : Nat) : Int)]) w wr) : RdRel s w (k + 1) v wr := by
  refine ⟨_, h.step h0 h1 ha hb, ?_⟩
  rw [cells_append]
  simp only [cells, List.map_cons, List.map_nil]
  rw [toNat_ofNat (by omega)]
  exact ho

theorem half_ok (c : UInt8) (n : Nat) (hc : hv c.toNat = n) (h : n < 16) (w : World) (hd : Digs w) :
    Calls Tryd.prog 10 #[.int .u8 c.toNat] w fun e w' => e = .returned (.tuple #[.int .u8 n, .bool true]) ∧ w = w' := by
  have e : halfV c = .tuple #[.int .u8 n, .bool true] := by simp [halfV, hc, h]
  rw [← e]
  exact half c w hd
theorem half_none (c : UInt8) (h : ¬ hv c.toNat < 16) (w : World) (hd : Digs w) :
    Calls Tryd.prog 10 #[.int .u8 c.toNat] w fun e w' => e = .returned (.tuple #[.int .u8 0, .bool false]) ∧ w = w' := by
  have e : halfV c = .tuple #[.int .u8 0, .bool false] := by simp [halfV, h]
  rw [← e]
  exact half c w hd

set_option maxHeartbeats 4000000 in
set_option maxRecDepth 100000 in
theorem hRead (s : ByteArray) (w : World) (hd : Digs w) (hs : s.size ≤ 35184372088832) :
    Calls Tryd.prog 6 #[.string s] w fun e w' => e = .returned (retHex (rdHex s.data.toList)) ∧ Below w.heap.size w w' := by
  obtain ⟨i0, hi, hz0, hz1, hz2⟩ := info_parts infoU8
  by_cases hodd : s.size % 2 = 1
  · have HE := Lib.hid (rdHex_odd s hodd)
    have h2 : (s.size : Int) % 2 = 1 := by omega
    go_enter Tryd.func6, Tryd.ntmps6
    go_wp2
    go_ret2
    exact ⟨by rw [HE.out]; rfl, Below.refl _ _⟩
  · have h2 : (s.size : Int) % 2 = 0 := by omega
    obtain ⟨m, hm⟩ : ∃ m, s.size = 2 * m := ⟨s.size / 2, by omega⟩
    have hm2 : (s.size : Int) / 2 = (m : Int) := by omega
    have hml : m ≤ 35184372088832 := by omega
    have HM := Lib.hid hm
    have hmk := fun W : World => run_make0 m (by omega) W
    have HO := Lib.hid (OwnBuf_made m (by unfold maxLen; omega) w)
    clear hodd hm
    go_enter Tryd.func6, Tryd.ntmps6
    go_wp2
    clear hmk h2 hm2
    go_loopw [4, 5] (fun v i wr => ∃ k : Nat, k ≤ m ∧ i = .int .i64 ((2 * k : Nat) : Int) ∧ RdRel s w k v wr) (fun _ i _ => s.size - (intOf i).toNat)
    case atStart => exact ⟨0, Nat.zero_le _, rfl, [], HRel.zero _, HO.out⟩
    case round =>
      clear HO
      obtain ⟨k, hk, rfl, acc, hrel, hown⟩ := hrel
      have hdr := hd.next hown.2.1
      by_cases hlt : k < m
      · have hm := HM.out
        have h0 : 2 * k < s.size := by omega
        have h1 : 2 * k + 1 < s.size := by omega
        have HR := Lib.hid hrel
        clear hrel hm
        obtain ⟨a, ha⟩ : ∃ a, hv s[2 * k].toNat = a := ⟨_, rfl⟩
        obtain ⟨b, hb⟩ : ∃ b, hv s[2 * k + 1].toNat = b := ⟨_, rfl⟩
        have HA := Lib.hid ha
        have HB := Lib.hid hb
        clear ha hb
        by_cases ha : a < 16
        · by_cases hb : b < 16
          · have HS : Hid (∀ v' w', Lib.OwnBuf w.heap.size 5 v' (k + 1) (cells acc ++ [.int .u8 ((a * 16 + b : Nat) : Int)]) w w' → RdRel s w (k + 1) v' w') := Lib.hid (by
              intro v' w' ho
              have h := HA.out
              have h' := HB.out
              subst h h'
              exact RdRel.step HR.out h0 h1 ha hb ho)
            have hor := or_u8 a b ha hb
            have hsh : (a : Int) * 16 % 256 = (a : Int) * 16 := by omega
            go_wp2_with fail
            refine (half_ok _ a HA.out ha wr hdr).mono ?_
            rintro e w' ⟨rfl, rfl⟩
            go_wp2_with fail
            refine (half_ok _ b HB.out hb wr hdr).mono ?_
            rintro e w' ⟨rfl, rfl⟩
            go_wp2_with (at_builtin; go_must (refine Lib.wpList_append_byte rfl _ _ 30 rfl w.heap.size 5 i0 Tryd.underlying30 hi hz0 hz1 hz2 u4 k _ rfl w wr _ hown rfl (by omega) ?_))
            intro v1 w1 hv1
            have R := HS.out v1 w1 (by simpa using hv1)
            clear hv1 hown HS
            go_wp2
            go_roundw
            case rel => exact ⟨k + 1, by omega, by go_num, R⟩
            case measure => simp [intOf]; omega
          · have HE := Lib.hid (HR.out.bad h0 h1 (by rw [HA.out, HB.out]; omega))
            go_wp2_with fail
            refine (half_ok _ a HA.out ha wr hdr).mono ?_
            rintro e w' ⟨rfl, rfl⟩
            go_wp2_with fail
            refine (half_none _ (by rw [HB.out]; exact hb) wr hdr).mono ?_
            rintro e w' ⟨rfl, rfl⟩
            go_wp2
            go_ret2
            exact ⟨by rw [HE.out]; rfl, hown.2.1⟩
        · have HE := Lib.hid (HR.out.bad h0 h1 (by rw [HA.out, HB.out]; omega))
          go_wp2_with fail
          refine (half_none _ (by rw [HA.out]; exact ha) wr hdr).mono ?_
          rintro e w' ⟨rfl, rfl⟩
          go_wp2_with fail
          refine (half _ wr hdr).mono ?_
          rintro e w' ⟨rfl, rfl⟩
          unfold halfV
          go_wp2
          all_goals
            go_ret2
            exact ⟨by rw [HE.out]; rfl, hown.2.1⟩
      · obtain rfl : k = m := by omega
        have HE := Lib.hid (hrel.done (by have := HM.out; omega))
        have hm2 : ¬ (2 * (k : Int) < s.size) := by have := HM.out; omega
        have hl := hrel.1
        have hst := run_string w.heap.size u4 acc w wr (by rw [hl]; exact hown)
        clear hl hrel
        go_wp2
        go_ret2
        exact ⟨by rw [HE.out]; rfl, hown.2.1⟩
end Go.Proofs.YtlalfpgpebapeaaDoor.W
