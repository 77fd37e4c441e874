/-
  What math/bits.Len64 answers, for every uint64: how many bits its argument has; and how many bytes that makes.
-/
import Derived.Test.YtbfpepiglcikbaaDoorProg
import Derived.Test.YtbfpepiglcikbaaDoorWMath
import Derived.WalkKit
import Derived.Handy
import Derived.Lib.BitFns
namespace Go.Proofs.YtbfpepiglcikbaaDoor.W
open Go.RowKit

theorem tab_at (y c : Int) (h0 : 0 ≤ y) (h1 : y ≤ 255) (hc0 : 0 ≤ c) (hc1 : c ≤ 56) (h : y.toNat < Lib.len8tab.size) :
    wrap64 (c + wrap64 (Lib.len8tab[y.toNat].toNat : Int)) = c + (Lib.bitLen y.toNat : Int) := by
  have e := Lib.len8_of y h0 h1
  have l := Lib.bitLen_le8' y h0 h1
  have hb : (Lib.len8tab[y.toNat].toNat : Int) = (Lib.bitLen y.toNat : Int) := by
    rw [← e]
    unfold Lib.len8
    rw [ByteArray.getElem?_lt' _ _ h]
    rfl
  rw [hb]
  simp only [wrap64]
  omega
theorem tab_at0 (y : Int) (h0 : 0 ≤ y) (h1 : y ≤ 255) (h : y.toNat < Lib.len8tab.size) :
    wrap64 (wrap64 (Lib.len8tab[y.toNat].toNat : Int)) = (Lib.bitLen y.toNat : Int) := by
  have e := tab_at y 0 h0 h1 (by omega) (by omega) h
  rwa [Int.zero_add, Int.zero_add] at e

set_option maxHeartbeats 4000000 in
set_option maxRecDepth 100000 in
theorem len64 (x : Int) (w : World) (h0 : 0 ≤ x) (h1 : x ≤ 18446744073709551615) :
    Calls Tryd.prog 40 #[.int .u64 x] w fun e w' => e = .returned (.int .i64 (Lib.bitLen x.toNat)) ∧ w = w' := by
  have hsz := Lib.len8tab_size
  go_enter Tryd.func40, Tryd.ntmps40
  go_wp2
  all_goals (go_ret; refine ⟨congrArg Ending.returned (congrArg (Value.int IntKind.i64) ?_), rfl⟩)
  · rw [tab_at _ 56 (by omega) (by omega) (by omega) (by omega)]
    have e : (x / 4294967296 / 65536 / 256).toNat = x.toNat / 72057594037927936 := by omega
    have s := Lib.bitLen_shift56 x.toNat (by omega) (by omega)
    rw [e]; omega
  · rw [tab_at _ 48 (by omega) (by omega) (by omega) (by omega)]
    have e : (x / 4294967296 / 65536).toNat = x.toNat / 281474976710656 := by omega
    have s := Lib.bitLen_shift48 x.toNat (by omega) (by omega)
    rw [e]; omega
  · rw [tab_at _ 40 (by omega) (by omega) (by omega) (by omega)]
    have e : (x / 4294967296 / 256).toNat = x.toNat / 1099511627776 := by omega
    have s := Lib.bitLen_shift40 x.toNat (by omega) (by omega)
    rw [e]; omega
  · rw [tab_at _ 32 (by omega) (by omega) (by omega) (by omega)]
    have e : (x / 4294967296).toNat = x.toNat / 4294967296 := by omega
    have s := Lib.bitLen_shift32 x.toNat (by omega) (by omega)
    rw [e]; omega
  · rw [tab_at _ 24 (by omega) (by omega) (by omega) (by omega)]
    have e : (x / 65536 / 256).toNat = x.toNat / 16777216 := by omega
    have s := Lib.bitLen_shift24 x.toNat (by omega) (by omega)
    rw [e]; omega
  · rw [tab_at _ 16 (by omega) (by omega) (by omega) (by omega)]
    have e : (x / 65536).toNat = x.toNat / 65536 := by omega
    have s := Lib.bitLen_shift16 x.toNat (by omega) (by omega)
    rw [e]; omega
  · rw [tab_at _ 8 (by omega) (by omega) (by omega) (by omega)]
    have e : (x / 256).toNat = x.toNat / 256 := by omega
    have s := Lib.bitLen_shift8 x.toNat (by omega) (by omega)
    rw [e]; omega
  · rw [tab_at0 _ (by omega) (by omega)]

theorem bitLen_zero : Lib.bitLen 0 = 0 := by decide +kernel
theorem bitLen_small (n : Nat) (h0 : n ≠ 0) (h : n < 256) : (Lib.bitLen n + 7) / 8 = 1 := by
  have := Lib.bitLen_le8 ⟨n, h⟩
  have h2 := Lib.bitLen_half n h0 (by omega)
  simp only at this
  omega
/-- the number of bytes, by the number of bits -/
theorem be_len (n : Nat) (h : n < 18446744073709551616) : (be n).length = (Lib.bitLen n + 7) / 8 := by
  induction n using Nat.strongRecOn with
  | _ n ih =>
    by_cases h0 : n = 0
    · subst h0; rw [be_zero, bitLen_zero]; rfl
    · rw [be_pos h0, List.length_append, List.length_singleton]
      by_cases hs : n < 256
      · rw [show n / 256 = 0 by omega, be_zero, bitLen_small n h0 hs]; rfl
      · rw [ih (n / 256) (by omega) (by omega), Lib.bitLen_shift8 n (by omega) h]; omega
end Go.Proofs.YtbfpepiglcikbaaDoor.W
