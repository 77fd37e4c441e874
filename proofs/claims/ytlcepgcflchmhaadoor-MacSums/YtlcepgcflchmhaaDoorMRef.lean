/-
  The reference's mixed and Sum.
-/
import Derived.Test.YtlcepgcflchmhaaDoorMMask
import Derived.Test.YtlcepgcflchmhaaDoorSRefS
namespace Go.Proofs.YtlcepgcflchmhaaDoor.W
open Go.RowKit

theorem mixed_step {f : List UInt8} {x c : UInt8} {j : Nat} {B : Nat} {v : Value} {W0 w : World} (hc : f[j]? = some c) (h : Lib.OwnBuf B 5 v (j + 1) (cells (mix x (f.take j)) ++ [.int .u8 (c ^^^ x).toNat]) W0 w) :
    Lib.OwnBuf B 5 v (j + 1) (cells (mix x (f.take (j + 1)))) W0 w := by
  have hj : j < f.length := by
    rcases Nat.lt_or_ge j f.length with h | h
    · exact h
    · rw [List.getElem?_eq_none h] at hc; cases hc
  have e : f[j] = c := by rw [List.getElem?_eq_getElem hj] at hc; exact Option.some.inj hc
  rw [mix_step f x j hj, cells_append, e]
  exact h

set_option maxHeartbeats 1000000 in
set_option maxRecDepth 100000 in
theorem mixed (k : ByteArray) (x : UInt8) (w : World) (hk : k.size ≤ 64) (f out : List UInt8) (HF : Hid (fill k.data.toList = f)) (HO : Hid (mix x f = out)) :
    Calls Tryd.prog 13 #[.string k, .int .u8 x.toNat] w fun e w' => e = .returned (.string (bs out)) ∧ Below w.heap.size w w' := by
  have FL := Lib.hid (show f.length = 64 by rw [← HF.out, fill_len _ (by rw [size_list]; exact hk)])
  obtain ⟨i0, hi, hz0, hz1, hz2⟩ := info_parts infoU8
  go_enter Tryd.func13, Tryd.ntmps13
  go_wp2
  go_loopw [5, 6] (fun v i wr => ∃ j : Nat, j ≤ 64 ∧ i = .int .i64 j ∧ Lib.OwnBuf w.heap.size 5 v j (cells (mix x (f.take j))) w wr) (fun _ i _ => 64 - (intOf i).toNat)
  case atStart => exact ⟨0, Nat.zero_le _, rfl, OwnBuf_nil w 5⟩
  case round =>
    obtain ⟨j, hj, rfl, hown⟩ := hrel
    by_cases hlt : j < 64
    · have jl : (j : Int) < 64 := by omega
      by_cases hjk : j < k.size
      · have tk : (j : Int) < (k.size : Int) := by omega
        have hc : f[j]? = some (k[j]) := by rw [← HF.out, fill_in _ _ (by rw [size_list]; exact hjk)]; rfl
        have HC := Lib.hid hc
        obtain ⟨c, hcc⟩ : ∃ c, k[j] = c := ⟨_, rfl⟩
        rw [hcc] at HC
        have hx := xor_byte c x
        have ST := Lib.hid (fun v W h => mixed_step (B := w.heap.size) (v := v) (W0 := w) (w := W) (x := x) HC.out h)
        clear hc HC
        generalize c ^^^ x = y at *
        go_wp2_with (at_builtin; go_must (refine Lib.wpList_append_byte rfl _ _ 29 rfl w.heap.size 5 i0 Tryd.underlying29 hi hz0 hz1 hz2 u5 j _ rfl w wr _ hown rfl (by omega) ?_))
        intro v7 w7 h7
        have R := Lib.hid (ST.out v7 w7 h7)
        clear h7 hown ST hx
        go_wp2
        go_roundw
        case rel => exact ⟨j + 1, by omega, by go_num, R.out⟩
        case measure => simp [intOf]; omega
      · have tk : ¬ (j : Int) < (k.size : Int) := by omega
        have hc : f[j]? = some 0 := by rw [← HF.out, fill_out _ _ (by rw [size_list]; omega) hlt]
        have hx : bits .xor .u8 0 (x.toNat : Int) = ((0 ^^^ x : UInt8).toNat : Int) := xor_byte 0 x
        have ST := Lib.hid (fun v W h => mixed_step (B := w.heap.size) (v := v) (W0 := w) (w := W) (x := x) hc h)
        clear hc
        generalize (0 ^^^ x : UInt8) = y at *
        go_wp2_with (at_builtin; go_must (refine Lib.wpList_append_byte rfl _ _ 29 rfl w.heap.size 5 i0 Tryd.underlying29 hi hz0 hz1 hz2 u5 j _ rfl w wr _ hown rfl (by omega) ?_))
        intro v7 w7 h7
        have R := Lib.hid (ST.out v7 w7 h7)
        clear h7 hown ST hx
        go_wp2
        go_roundw
        case rel => exact ⟨j + 1, by omega, by go_num, R.out⟩
        case measure => simp [intOf]; omega
    · obtain rfl : j = 64 := by omega
      have hst := run_string w.heap.size u5 out w wr (by
        rw [show out.length = 64 by rw [← HO.out, mix_len, FL.out], ← HO.out]
        rwa [List.take_of_length_le (by rw [FL.out]; exact Nat.le_refl _)] at hown)
      go_wp2
      go_ret
      exact ⟨rfl, hown.2.1⟩

set_option maxHeartbeats 1000000 in
set_option maxRecDepth 100000 in
theorem rmac_this (k s k2 : ByteArray) (w : World) (hk : k.size ≤ 1099511627776) (hs : s.size ≤ 1000000) (f m1 m2 q1 q2 : List UInt8) (h1 : mix 92 f = m1) (h2 : mix 54 f = m2)
    (h3 : shaOf (m2 ++ s.data.toList) = q1) (h4 : shaOf (m1 ++ q1) = q2) (hk2 : k2 = bs (keyOf k.data.toList)) (hf : fill k2.data.toList = f) :
    Calls Tryd.prog 7 #[.string k, .string s] w fun e w' => e = .returned (.string (bs q2)) ∧ Below w.heap.size w w' := by
  have kl : k2.size ≤ 64 := by rw [hk2, bs_size]; exact keyOf_len _
  have fl : f.length = 64 := by rw [← hf, fill_len _ (by rw [size_list]; exact kl)]
  have l1 : m1.length = 64 := by rw [← h1, mix_len, fl]
  have l2 : m2.length = 64 := by rw [← h2, mix_len, fl]
  have l3 : q1.length = 32 := by rw [← h3, shaOf_len]
  have a1 : ∀ W : World, (Op.stringOp .add (bs m2) s).run Tryd.prog W = .ok (.string (bs (m2 ++ s.data.toList))) W := fun W => by
    have h := run_add W m2 s.data.toList (by rw [size_list, l2]; omega)
    rwa [bs_of] at h
  have a2 : ∀ W : World, (Op.stringOp .add (bs m1) (bs q1)).run Tryd.prog W = .ok (.string (bs (m1 ++ q1))) W := fun W => run_add W m1 q1 (by omega)
  have S1 := Lib.hid (fun (W : World) => rsum (bs (m2 ++ s.data.toList)) W (by rw [bs_size, List.length_append, l2, size_list]; omega))
  have S2 := Lib.hid (fun (W : World) => rsum (bs (m1 ++ q1)) W (by rw [bs_size, List.length_append, l1, l3]; omega))
  rw [bs_data, h3] at S1
  rw [bs_data, h4] at S2
  have M1 := Lib.hid (fun (W : World) => mixed k2 92 W kl f m1 (Lib.hid hf) (Lib.hid h1))
  have M2 := Lib.hid (fun (W : World) => mixed k2 54 W kl f m2 (Lib.hid hf) (Lib.hid h2))
  clear h1 h2 h3 h4 hf fl l1 l2 l3
  by_cases hk64 : 64 < k.size
  · have R := Lib.hid (rsum k w hk)
    rw [← keyOf_long _ (by rw [size_list]; exact hk64), ← hk2] at R
    clear hk2
    have t64 : (64 : Int) < (k.size : Int) := by omega
    go_enter Tryd.func7, Tryd.ntmps7
    go_wp2_with fail
    refine R.out.mono ?_
    rintro e w1 ⟨rfl, b1⟩
    clear R
    go_wp2_with fail
    refine (M1.out _).mono ?_
    rintro e w2 ⟨rfl, b2⟩
    replace b2 := Lib.hid (step_below b1 b2)
    clear b1 M1
    go_wp2_with fail
    refine (M2.out w2).mono ?_
    rintro e w3 ⟨rfl, b3⟩
    replace b3 := Lib.hid (step_below b2.out b3)
    clear b2 M2
    go_wp2_with fail
    refine (S1.out w3).mono ?_
    rintro e w4 ⟨rfl, b4⟩
    replace b4 := Lib.hid (step_below b3.out b4)
    clear b3 S1 a1
    go_wp2_with fail
    refine (S2.out w4).mono ?_
    rintro e w5 ⟨rfl, b5⟩
    replace b5 := step_below b4.out b5
    clear b4 S2 a2
    go_wp2
    go_ret
    exact ⟨rfl, b5⟩
  · obtain rfl : k = k2 := by rw [hk2, keyOf_short _ (by rw [size_list]; omega), bs_of]
    have t64 : ¬ (64 : Int) < (k.size : Int) := by omega
    have b1 := Below.refl w.heap.size w
    clear hk2
    go_enter Tryd.func7, Tryd.ntmps7
    go_wp2_with fail
    refine (M1.out _).mono ?_
    rintro e w2 ⟨rfl, b2⟩
    replace b2 := Lib.hid (step_below b1 b2)
    clear b1 M1
    go_wp2_with fail
    refine (M2.out w2).mono ?_
    rintro e w3 ⟨rfl, b3⟩
    replace b3 := Lib.hid (step_below b2.out b3)
    clear b2 M2
    go_wp2_with fail
    refine (S1.out w3).mono ?_
    rintro e w4 ⟨rfl, b4⟩
    replace b4 := Lib.hid (step_below b3.out b4)
    clear b3 S1 a1
    go_wp2_with fail
    refine (S2.out w4).mono ?_
    rintro e w5 ⟨rfl, b5⟩
    replace b5 := step_below b4.out b5
    clear b4 S2 a2
    go_wp2
    go_ret
    exact ⟨rfl, b5⟩
theorem rmac (k s : ByteArray) (w : World) (hk : k.size ≤ 1099511627776) (hs : s.size ≤ 1000000) :
    Calls Tryd.prog 7 #[.string k, .string s] w fun e w' => e = .returned (.string (bs (macOf k.data.toList s.data.toList))) ∧ Below w.heap.size w w' :=
  rmac_this k s (bs (keyOf k.data.toList)) w hk hs _ _ _ _ _ rfl rfl rfl rfl rfl rfl
end Go.Proofs.YtlcepgcflchmhaaDoor.W
