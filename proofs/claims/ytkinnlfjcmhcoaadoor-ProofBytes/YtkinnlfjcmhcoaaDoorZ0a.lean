/-
  Texts of one level, merged: CMath, SMath, SGen, WMath, WBits, CBlk, CBuf, WAppend, WEnc, TMath, KMath, XMath, WDec, CTxs, WState.
-/
import Derived.Test.YtkinnlfjcmhcoaaDoorProg
import Derived.WalkKit
import Derived.Handy
import Derived.Lib.BitFns
import Derived.Lib.Hide
import Derived.WalkSpells
import Derived.WalkLawsBesides
import Derived.Lib.BufSteps
import Derived.Lib.Bytealg
import Derived.Lib.Strings
import Derived.Deep.QuietTactic
import Derived.BigQuiet
import Derived.ScopeJumps
/-
  Bytes as lists: plain lemmas. No program is named here.
-/
namespace Go.Proofs.YtkinnlfjcmhcoaaDoor.W

/-- A list of bytes as a Go string. -/
def bs (l : List UInt8) : ByteArray := ⟨l.toArray⟩
theorem bs_data (l : List UInt8) : (bs l).data.toList = l := rfl
theorem bs_of (s : ByteArray) : bs s.data.toList = s := by cases s; rfl
theorem bs_inj {a b : List UInt8} (h : bs a = bs b) : a = b := by rw [← bs_data a, ← bs_data b, h]
theorem bs_size (l : List UInt8) : (bs l).size = l.length := by simp [bs, ByteArray.size]
theorem size_list (s : ByteArray) : s.data.toList.length = s.size := by rw [Array.length_toList]; rfl
theorem bs_append (a b : List UInt8) : bs a ++ bs b = bs (a ++ b) := by
  apply ByteArray.ext
  simp [bs, ByteArray.data_append]
theorem append_data (a b : ByteArray) : (a ++ b).data.toList = a.data.toList ++ b.data.toList := by simp [ByteArray.data_append]

theorem snocInd {α : Type} {P : List α → Prop} (h0 : P []) (h1 : ∀ l a, P l → P (l ++ [a])) (l : List α) : P l := by
  have : ∀ r : List α, P r.reverse := by
    intro r
    induction r with
    | nil => exact h0
    | cons a r ih => rw [List.reverse_cons]; exact h1 _ _ ih
  have h := this l.reverse
  rwa [List.reverse_reverse] at h
theorem toNat_ofNat {n : Nat} (h : n < 256) : (UInt8.ofNat n).toNat = n := by
  rw [UInt8.toNat_ofNat']; omega
theorem ofNat_toNat (b : UInt8) : UInt8.ofNat b.toNat = b := by
  apply UInt8.toNat_inj.1
  rw [toNat_ofNat b.toNat_lt]
theorem take_snoc (s : ByteArray) (k : Nat) (h : k < s.size) : s.data.toList.take (k + 1) = s.data.toList.take k ++ [s[k]] := by
  rw [List.take_succ_eq_append_getElem (by simpa using h)]; rfl
theorem drop_cons (s : ByteArray) (k : Nat) (h : k < s.size) : s.data.toList.drop k = s[k] :: s.data.toList.drop (k + 1) := by
  rw [List.drop_eq_getElem_cons (by simpa using h)]; rfl
end Go.Proofs.YtkinnlfjcmhcoaaDoor.W
/-
  SHA-256 over plain numbers: words, the schedule, the rounds, the padding. No program is named here.
-/
namespace Go.Proofs.YtkinnlfjcmhcoaaDoor.W

/-! words of 32 bits, as numbers -/
def wadd (a b : Nat) : Nat := (a + b) % 4294967296
def wxor (a b : Nat) : Nat := (a ^^^ b) % 4294967296
def wand (a b : Nat) : Nat := (a &&& b) % 4294967296
def wor (a b : Nat) : Nat := (a ||| b) % 4294967296
def wnot (a : Nat) : Nat := (4294967295 ^^^ a) % 4294967296
def wshl (a n : Nat) : Nat := (a * 2 ^ n) % 4294967296
def wshr (a n : Nat) : Nat := a / 2 ^ n
def rotr (a n : Nat) : Nat := wor (wshl a (32 - n)) (wshr a n)
def sg0 (x : Nat) : Nat := wxor (wxor (rotr x 7) (rotr x 18)) (wshr x 3)
def sg1 (x : Nat) : Nat := wxor (wxor (rotr x 17) (rotr x 19)) (wshr x 10)
def SG1 (e : Nat) : Nat := wxor (wxor (rotr e 6) (rotr e 11)) (rotr e 25)
def SG0 (a : Nat) : Nat := wxor (wxor (rotr a 2) (rotr a 13)) (rotr a 22)
def ch (e f g : Nat) : Nat := wxor (wand e f) (wand (wnot e) g)
def maj (a b c : Nat) : Nat := wxor (wxor (wand a b) (wand a c)) (wand b c)

theorem wadd_lt (a b : Nat) : wadd a b < 4294967296 := Nat.mod_lt _ (by decide)
theorem wxor_lt (a b : Nat) : wxor a b < 4294967296 := Nat.mod_lt _ (by decide)
theorem wand_lt (a b : Nat) : wand a b < 4294967296 := Nat.mod_lt _ (by decide)
theorem wor_lt (a b : Nat) : wor a b < 4294967296 := Nat.mod_lt _ (by decide)
theorem wnot_lt (a : Nat) : wnot a < 4294967296 := Nat.mod_lt _ (by decide)
theorem wshl_lt (a n : Nat) : wshl a n < 4294967296 := Nat.mod_lt _ (by decide)
theorem wadd_comm (a b : Nat) : wadd a b = wadd b a := by unfold wadd; rw [Nat.add_comm]
theorem wadd_assoc (a b c : Nat) : wadd (wadd a b) c = wadd a (wadd b c) := by unfold wadd; omega
theorem wor_comm (a b : Nat) : wor a b = wor b a := by unfold wor; rw [Nat.or_comm]
theorem wor_zero (a : Nat) (h : a < 4294967296) : wor a 0 = a := by unfold wor; rw [Nat.or_zero]; exact Nat.mod_eq_of_lt h
theorem wadd4 (a b c d : Nat) : wadd (wadd (wadd d b) c) a = wadd (wadd (wadd a b) c) d := by unfold wadd; omega

/-! lists of words -/
def nth (l : List Nat) (i : Nat) : Nat := l.getD i 0
theorem nth_lt (l : List Nat) (i : Nat) (h : i < l.length) : l[i]? = some (nth l i) := by
  unfold nth
  rw [List.getD_eq_getElem?_getD, List.getElem?_eq_getElem h, Option.getD_some]
theorem nth_set_same (l : List Nat) (i v : Nat) (h : i < l.length) : nth (l.set i v) i = v := by
  unfold nth
  rw [List.getD_eq_getElem?_getD, List.getElem?_set_self h, Option.getD_some]
theorem nth_set_other (l : List Nat) (i j v : Nat) (h : i ≠ j) : nth (l.set i v) j = nth l j := by
  unfold nth
  rw [List.getD_eq_getElem?_getD, List.getD_eq_getElem?_getD, List.getElem?_set_ne h]
theorem nth_ext {a b : List Nat} (hl : a.length = b.length) (h : ∀ i, i < a.length → nth a i = nth b i) : a = b := by
  apply List.ext_getElem? 
  intro i
  by_cases hi : i < a.length
  · rw [nth_lt a i hi, nth_lt b i (by omega), h i hi]
  · rw [List.getElem?_eq_none (by omega), List.getElem?_eq_none (by omega)]
def byteAt (l : List UInt8) (i : Nat) : Nat := (l.getD i 0).toNat
theorem byteAt_in (s : ByteArray) (i : Nat) (h : i < s.size) : byteAt s.data.toList i = (s[i]).toNat := by
  unfold byteAt
  rw [List.getD_eq_getElem?_getD, List.getElem?_eq_getElem (by simpa using h), Option.getD_some]
  rfl
theorem byteAt_out (s : ByteArray) (i : Nat) (h : s.size ≤ i) : byteAt s.data.toList i = 0 := by
  unfold byteAt
  rw [List.getD_eq_getElem?_getD, List.getElem?_eq_none (by simpa using h), Option.getD_none]
  rfl

/-! the schedule -/
def wordTo (l : List UInt8) (p : Nat) : Nat → Nat
  | 0 => 0
  | k + 1 => wor (wshl (wordTo l p k) 8) (byteAt l (p + k))
theorem wordTo_lt (l : List UInt8) (p k : Nat) : wordTo l p k < 4294967296 := by
  cases k with
  | zero => exact (by decide : 0 < 4294967296)
  | succ k => exact wor_lt _ _
def nextW (ws : List Nat) (t : Nat) : Nat := wadd (wadd (wadd (sg1 (nth ws (t - 2))) (nth ws (t - 7))) (sg0 (nth ws (t - 15)))) (nth ws (t - 16))
def wordNo (l : List UInt8) (ws : List Nat) (t : Nat) : Nat := if t < 16 then wordTo l (4 * t) 4 else nextW ws t
def arr (l : List UInt8) : Nat → List Nat
  | 0 => List.replicate 64 0
  | t + 1 => (arr l t).set t (wordNo l (arr l t) t)
theorem arr_len (l : List UInt8) (t : Nat) : (arr l t).length = 64 := by
  induction t with
  | zero => simp [arr]
  | succ t ih => simp [arr, ih]
theorem arr_low (l : List UInt8) (t : Nat) (h : t < 16) : arr l (t + 1) = (arr l t).set t (wordTo l (4 * t) 4) := by
  show (arr l t).set t (wordNo l (arr l t) t) = _
  unfold wordNo
  rw [if_pos h]
theorem arr_high (l : List UInt8) (t : Nat) (h : 16 ≤ t) : arr l (t + 1) = (arr l t).set t (nextW (arr l t) t) := by
  show (arr l t).set t (wordNo l (arr l t) t) = _
  unfold wordNo
  rw [if_neg (by omega)]
/-- every word of a list of words is below 2^32 -/
def Small (l : List Nat) : Prop := ∀ i, nth l i < 4294967296
theorem Small.set {l : List Nat} (h : Small l) (i v : Nat) (hv : v < 4294967296) : Small (l.set i v) := by
  intro j
  by_cases e : i = j
  · subst e
    by_cases hi : i < l.length
    · rw [nth_set_same l i v hi]; exact hv
    · rw [List.set_eq_of_length_le (by omega)]; exact h i
  · rw [nth_set_other l i j v e]; exact h j
theorem small_zeros (n : Nat) : Small (List.replicate n 0) := by
  intro i
  unfold nth
  rw [List.getD_eq_getElem?_getD, List.getElem?_replicate]
  split <;> simp
theorem arr_small (l : List UInt8) (t : Nat) : Small (arr l t) := by
  induction t with
  | zero => exact small_zeros 64
  | succ t ih =>
    refine ih.set t _ ?_
    unfold wordNo nextW
    split
    · exact wordTo_lt _ _ _
    · exact wadd_lt _ _

/-! the rounds -/
structure Reg where
  (a b c d e f g h : Nat)
deriving DecidableEq
def Reg.list (r : Reg) : List Nat := [r.a, r.b, r.c, r.d, r.e, r.f, r.g, r.h]
def regOf (l : List Nat) : Reg := ⟨nth l 0, nth l 1, nth l 2, nth l 3, nth l 4, nth l 5, nth l 6, nth l 7⟩
theorem regOf_list (r : Reg) : regOf r.list = r := rfl
theorem list_regOf {l : List Nat} (h : l.length = 8) : (regOf l).list = l := by
  match l, h with
  | [a, b, c, d, e, f, g, i], _ => rfl
def kk : List Nat := [
  0x428a2f98, 0x71374491, 0xb5c0fbcf, 0xe9b5dba5, 0x3956c25b, 0x59f111f1, 0x923f82a4, 0xab1c5ed5,
  0xd807aa98, 0x12835b01, 0x243185be, 0x550c7dc3, 0x72be5d74, 0x80deb1fe, 0x9bdc06a7, 0xc19bf174,
  0xe49b69c1, 0xefbe4786, 0x0fc19dc6, 0x240ca1cc, 0x2de92c6f, 0x4a7484aa, 0x5cb0a9dc, 0x76f988da,
  0x983e5152, 0xa831c66d, 0xb00327c8, 0xbf597fc7, 0xc6e00bf3, 0xd5a79147, 0x06ca6351, 0x14292967,
  0x27b70a85, 0x2e1b2138, 0x4d2c6dfc, 0x53380d13, 0x650a7354, 0x766a0abb, 0x81c2c92e, 0x92722c85,
  0xa2bfe8a1, 0xa81a664b, 0xc24b8b70, 0xc76c51a3, 0xd192e819, 0xd6990624, 0xf40e3585, 0x106aa070,
  0x19a4c116, 0x1e376c08, 0x2748774c, 0x34b0bcb5, 0x391c0cb3, 0x4ed8aa4a, 0x5b9cca4f, 0x682e6ff3,
  0x748f82ee, 0x78a5636f, 0x84c87814, 0x8cc70208, 0x90befffa, 0xa4506ceb, 0xbef9a3f7, 0xc67178f2]
def up (k w : Nat) (r : Reg) : Nat := wadd (wadd (wadd (wadd r.h (SG1 r.e)) (ch r.e r.f r.g)) k) w
def down (r : Reg) : Nat := wadd (SG0 r.a) (maj r.a r.b r.c)
def rnd (k w : Nat) (r : Reg) : Reg := ⟨wadd (up k w r) (down r), r.a, r.b, r.c, wadd r.d (up k w r), r.e, r.f, r.g⟩
def rds (ws : List Nat) (r : Reg) : Nat → Reg
  | 0 => r
  | t + 1 => rnd (nth kk t) (nth ws t) (rds ws r t)
/-- the words of the second list added to those of the first, the first i of them -/
def addTo (h v : List Nat) : Nat → List Nat
  | 0 => h
  | i + 1 => (addTo h v i).set i (wadd (nth (addTo h v i) i) (nth v i))
theorem addTo_len (h v : List Nat) (i : Nat) : (addTo h v i).length = h.length := by
  induction i with
  | zero => rfl
  | succ i ih => simp [addTo, ih]
theorem addTo_at (h v : List Nat) (i j : Nat) (hj : j < h.length) : nth (addTo h v i) j = if j < i then wadd (nth h j) (nth v j) else nth h j := by
  induction i with
  | zero => simp [addTo]
  | succ i ih =>
    show nth ((addTo h v i).set i (wadd (nth (addTo h v i) i) (nth v i))) j = _
    by_cases e : i = j
    · subst e
      rw [nth_set_same _ _ _ (by rw [addTo_len]; exact hj), ih, if_neg (by omega), if_pos (by omega)]
    · rw [nth_set_other _ _ _ _ e, ih]
      by_cases hlt : j < i
      · rw [if_pos hlt, if_pos (by omega)]
      · rw [if_neg hlt, if_neg (by omega)]
theorem addTo_swap (h v : List Nat) (hh : h.length = 8) (hv : v.length = 8) : addTo v h 8 = addTo h v 8 := by
  refine nth_ext (by rw [addTo_len, addTo_len, hh, hv]) fun i hi => ?_
  rw [addTo_len, hv] at hi
  rw [addTo_at v h 8 i (by omega), addTo_at h v 8 i (by omega), if_pos hi, if_pos hi, wadd_comm]
/-- the registers behind a block -/
def blk (h : List Nat) (l : List UInt8) : List Nat := addTo h (rds (arr l 64) (regOf h) 64).list 8
theorem blk_len (h : List Nat) (l : List UInt8) (hh : h.length = 8) : (blk h l).length = 8 := by unfold blk; rw [addTo_len, hh]

/-! the padding -/
def zs (n : Nat) : Nat := (119 - n % 64) % 64
def by8 (m : Nat) : Nat → List UInt8
  | 0 => []
  | i + 1 => by8 m i ++ [UInt8.ofNat (m / 2 ^ (56 - 8 * i) % 256)]
theorem by8_len (m i : Nat) : (by8 m i).length = i := by
  induction i with
  | zero => rfl
  | succ i ih => simp [by8, ih]
def padOf (n : Nat) : List UInt8 := 128 :: List.replicate (zs n) 0 ++ by8 (n * 8 % 18446744073709551616) 8
theorem padOf_len (n : Nat) : (padOf n).length = 9 + zs n := by simp [padOf, by8_len]; omega
theorem zs_lt (n : Nat) : zs n < 64 := Nat.mod_lt _ (by decide)
theorem padOf_whole (n : Nat) : (n + (padOf n).length) % 64 = 0 := by rw [padOf_len]; unfold zs; omega
def padI (n : Int) : List UInt8 := if n < 0 then [] else padOf n.toNat

/-! the hash -/
def regs0 : List Nat := [0x6a09e667, 0xbb67ae85, 0x3c6ef372, 0xa54ff53a, 0x510e527f, 0x9b05688c, 0x1f83d9ab, 0x5be0cd19]
def blks (p : List UInt8) : Nat → List Nat
  | 0 => regs0
  | k + 1 => blk (blks p k) ((p.drop (64 * k)).take 64)
theorem blks_len (p : List UInt8) (k : Nat) : (blks p k).length = 8 := by
  induction k with
  | zero => rfl
  | succ k ih => exact blk_len _ _ ih
def by4 (x : Nat) : List UInt8 := [UInt8.ofNat (x / 16777216 % 256), UInt8.ofNat (x / 65536 % 256), UInt8.ofNat (x / 256 % 256), UInt8.ofNat (x % 256)]
def outTo (h : List Nat) : Nat → List UInt8
  | 0 => []
  | i + 1 => outTo h i ++ by4 (nth h i)
theorem outTo_len (h : List Nat) (i : Nat) : (outTo h i).length = 4 * i := by
  induction i with
  | zero => rfl
  | succ i ih => simp [outTo, by4, ih]; omega
def padded (l : List UInt8) : List UInt8 := l ++ padOf l.length
theorem padded_len (l : List UInt8) : (padded l).length = 64 * ((padded l).length / 64) := by
  have h := padOf_whole l.length
  have e : (padded l).length = l.length + (padOf l.length).length := by simp [padded]
  omega
def shaOf (l : List UInt8) : List UInt8 := outTo (blks (padded l) ((padded l).length / 64)) 8
theorem shaOf_len (l : List UInt8) : (shaOf l).length = 32 := outTo_len _ _
end Go.Proofs.YtkinnlfjcmhcoaaDoor.W
/-
  SHA-256 by certificates: a list of words and a list of states are the schedule and the rounds if each follows from those before it.
-/
namespace Go.Proofs.YtkinnlfjcmhcoaaDoor.W

/-! A list of words, a list of states: if each follows from those before it, they are the schedule and the rounds. -/
theorem arr_of (l : List UInt8) (ws : List Nat) (h : ∀ t, t < 64 → nth ws t = wordNo l ws t) : ∀ t, t ≤ 64 → ∀ i, i < t → nth (arr l t) i = nth ws i := by
  intro t
  induction t with
  | zero => intro _ i hi; omega
  | succ t ih =>
    intro ht i hi
    have ih' := ih (by omega)
    show nth ((arr l t).set t (wordNo l (arr l t) t)) i = nth ws i
    by_cases e : t = i
    · subst e
      rw [nth_set_same _ _ _ (by rw [arr_len]; omega), h t (by omega)]
      unfold wordNo
      by_cases hlt : t < 16
      · rw [if_pos hlt, if_pos hlt]
      · rw [if_neg hlt, if_neg hlt]
        unfold nextW
        rw [ih' (t - 2) (by omega), ih' (t - 7) (by omega), ih' (t - 15) (by omega), ih' (t - 16) (by omega)]
    · rw [nth_set_other _ _ _ _ e, ih' i (by omega)]
theorem arr_is (l : List UInt8) (ws : List Nat) (hl : ws.length = 64) (h : ∀ t, t < 64 → nth ws t = wordNo l ws t) : arr l 64 = ws :=
  nth_ext (by rw [arr_len, hl]) fun i hi => arr_of l ws h 64 (Nat.le_refl _) i (by rw [arr_len] at hi; exact hi)
def stAt (ss : List Reg) (t : Nat) : Reg := ss.getD t ⟨0, 0, 0, 0, 0, 0, 0, 0⟩
theorem rds_is (ws : List Nat) (r : Reg) (ss : List Reg) (h0 : stAt ss 0 = r) (h : ∀ t, t < 64 → stAt ss (t + 1) = rnd (nth kk t) (nth ws t) (stAt ss t)) : ∀ t, t ≤ 64 → rds ws r t = stAt ss t := by
  intro t
  induction t with
  | zero => intro _; exact h0.symm
  | succ t ih =>
    intro ht
    show rnd (nth kk t) (nth ws t) (rds ws r t) = _
    rw [ih (by omega), h t (by omega)]
theorem blk_is {l : List UInt8} {h : List Nat} {ws : List Nat} {ss : List Reg} (hl : ws.length = 64) (hw : ∀ t, t < 64 → nth ws t = wordNo l ws t) (h0 : stAt ss 0 = regOf h) (hs : ∀ t, t < 64 → stAt ss (t + 1) = rnd (nth kk t) (nth ws t) (stAt ss t)) : blk h l = addTo h (stAt ss 64).list 8 := by
  unfold blk
  rw [arr_is l ws hl hw, rds_is ws _ ss h0 hs 64 (Nat.le_refl _)]
theorem sha_one (l : List UInt8) (h : (padded l).length = 64) : shaOf l = outTo (blk regs0 (padded l)) 8 := by
  unfold shaOf
  rw [h]
  show outTo (blk regs0 (((padded l).drop 0).take 64)) 8 = _
  rw [List.drop_zero, List.take_of_length_le (by omega)]
theorem sha_two (l : List UInt8) (b1 b2 : List UInt8) (h1 h2 : List Nat) (hl : (padded l).length = 128) (e1 : (padded l).take 64 = b1) (e2 : (padded l).drop 64 = b2) (k1 : blk regs0 b1 = h1) (k2 : blk h1 b2 = h2) : shaOf l = outTo h2 8 := by
  unfold shaOf
  rw [hl]
  show outTo (blk (blk regs0 (((padded l).drop 0).take 64)) (((padded l).drop 64).take 64)) 8 = _
  rw [List.drop_zero, e1, k1, e2, List.take_of_length_le (by rw [← e2, List.length_drop, hl]; omega), k2]
end Go.Proofs.YtkinnlfjcmhcoaaDoor.W
/-
  Plain mathematics of package wire: the bytes of a number, of a text, of a list of texts, and what a reader makes of bytes. No program is named here.
-/
namespace Go.Proofs.YtkinnlfjcmhcoaaDoor.W

theorem head_app {α : Type} {a b : List α} (h : a ≠ []) : (a ++ b).head? = a.head? := by
  cases a with
  | nil => exact absurd rfl h
  | cons x r => rfl

/-- n in base 256, the greatest first, no zero in front. -/
def be (n : Nat) : List UInt8 := if _h : n = 0 then [] else be (n / 256) ++ [UInt8.ofNat (n % 256)]
termination_by n
decreasing_by omega
theorem be_zero : be 0 = [] := by rw [be]; simp
theorem be_pos {n : Nat} (h : n ≠ 0) : be n = be (n / 256) ++ [UInt8.ofNat (n % 256)] := by rw [be]; simp [h]

/-- what a list of bytes is worth -/
def val (l : List UInt8) : Nat := l.foldl (fun n b => n * 256 + b.toNat) 0
theorem val_nil : val [] = 0 := rfl
theorem val_snoc (l : List UInt8) (b : UInt8) : val (l ++ [b]) = val l * 256 + b.toNat := by simp [val]
theorem val_lt (l : List UInt8) : val l < 256 ^ l.length := by
  induction l using snocInd with
  | h0 => simp [val]
  | h1 l b ih =>
    rw [val_snoc, List.length_append, List.length_singleton, Nat.pow_succ]
    have := b.toNat_lt
    omega
theorem val_be (n : Nat) : val (be n) = n := by
  induction n using Nat.strongRecOn with
  | _ n ih =>
    by_cases h : n = 0
    · subst h; rw [be_zero]; rfl
    · rw [be_pos h, val_snoc, ih (n / 256) (by omega), toNat_ofNat (by omega)]; omega

/-- how many bytes n has -/
theorem be_len_le (n k : Nat) (h : n < 256 ^ k) : (be n).length ≤ k := by
  induction k generalizing n with
  | zero => have : n = 0 := by simpa using h
            subst this; rw [be_zero]; simp
  | succ k ih =>
    by_cases hn : n = 0
    · subst hn; rw [be_zero]; simp
    · rw [be_pos hn, List.length_append, List.length_singleton]
      have := ih (n / 256) (by rw [Nat.pow_succ] at h; omega)
      omega
theorem be_head (n : Nat) : (be n).head? ≠ some 0 := by
  induction n using Nat.strongRecOn with
  | _ n ih =>
    by_cases h : n = 0
    · subst h; rw [be_zero]; simp
    · rw [be_pos h]
      by_cases hq : n / 256 = 0
      · rw [hq, be_zero]
        simp only [List.nil_append, List.head?_cons, ne_eq, Option.some.injEq]
        intro he
        have := congrArg UInt8.toNat he
        rw [toNat_ofNat (by omega)] at this
        simp at this
        omega
      · have hne : be (n / 256) ≠ [] := by
          intro he
          have := val_be (n / 256)
          rw [he, val_nil] at this
          omega
        rw [head_app hne]
        exact ih (n / 256) (by omega)
/-- bytes without a zero in front are those of what they are worth -/
theorem be_val (l : List UInt8) (h : l.head? ≠ some 0) : be (val l) = l := by
  induction l using snocInd with
  | h0 => rw [val_nil, be_zero]
  | h1 l b ih =>
    rw [val_snoc]
    have hb := b.toNat_lt
    by_cases hl : l = []
    · subst hl
      rw [val_nil]
      have hb0 : b ≠ 0 := by simpa using h
      have hbn : b.toNat ≠ 0 := fun e => hb0 (UInt8.toNat_inj.1 (by simpa using e))
      rw [be_pos (by omega), show (0 * 256 + b.toNat) / 256 = 0 by omega, be_zero, show (0 * 256 + b.toNat) % 256 = b.toNat by omega]
      simp
    · rw [head_app hl] at h
      have hv : val l ≠ 0 := by
        intro e
        have := ih h
        rw [e, be_zero] at this
        exact hl this.symm
      rw [be_pos (by omega), show (val l * 256 + b.toNat) / 256 = val l by omega, show (val l * 256 + b.toNat) % 256 = b.toNat by omega, ih h]
      simp

/-- the encodings -/
def num (n : Nat) : List UInt8 := UInt8.ofNat (be n).length :: be n
def text (s : List UInt8) : List UInt8 := num s.length ++ s
def join (l : List (List UInt8)) : List UInt8 := num l.length ++ (l.map text).flatten

/-- the i-th byte from the end -/
theorem be_at (n i : Nat) (h : i < (be n).length) : (be n)[(be n).length - 1 - i]'(by omega) = UInt8.ofNat (n / 256 ^ i % 256) := by
  induction i generalizing n with
  | zero =>
    have h0 : n ≠ 0 := by intro e; subst e; rw [be_zero] at h; simp at h
    have e := be_pos h0
    simp only [e, List.length_append, List.length_singleton, Nat.add_sub_cancel, Nat.sub_zero, Nat.pow_zero, Nat.div_one]
    simp
  | succ i ih =>
    have h0 : n ≠ 0 := by intro e; subst e; rw [be_zero] at h; simp at h
    have e := be_pos h0
    have hl : i < (be (n / 256)).length := by rw [e] at h; simp at h; omega
    have h2 := ih (n / 256) hl
    have hd : n / 256 / 256 ^ i = n / 256 ^ (i + 1) := by rw [Nat.div_div_eq_div_mul, Nat.pow_succ, Nat.mul_comm]
    rw [hd] at h2
    rw [← h2]
    simp only [e, List.length_append, List.length_singleton]
    rw [List.getElem_append_left (by omega)]
    congr 1
    omega
theorem be_take (n j : Nat) (h : j < (be n).length) : (be n).take (j + 1) = (be n).take j ++ [UInt8.ofNat (n / 256 ^ ((be n).length - 1 - j) % 256)] := by
  rw [List.take_succ_eq_append_getElem h, ← be_at n ((be n).length - 1 - j) (by omega)]
  congr 2
  congr 1
  omega
theorem num_len (n : Nat) : (num n).length = (be n).length + 1 := rfl

end Go.Proofs.YtkinnlfjcmhcoaaDoor.W
/-
  What math/bits.Len64 answers, for every uint64: how many bits its argument has; and how many bytes that makes.
-/
namespace Go.Proofs.YtkinnlfjcmhcoaaDoor.W
open Go.RowKit

theorem tab_at (y c : Int) (h0 : 0 ≤ y) (h1 : y ≤ 255) (hc0 : 0 ≤ c) (hc1 : c ≤ 56) (h : y.toNat < Lib.len8tab.size) :
    wrap64 (c + wrap64 (Lib.len8tab[y.toNat].toNat : Int)) = c + (Lib.bitLen y.toNat : Int) := by
  have e := Lib.len8_of y h0 h1
  have l := Lib.bitLen_le8' y h0 h1
  have hb : (Lib.len8tab[y.toNat].toNat : Int) = (Lib.bitLen y.toNat : Int) := by
    rw [← e]
    unfold Lib.len8
    rw [ByteArray.getElem?_lt' _ _ h]
    rfl
  rw [hb]
  simp only [wrap64]
  omega
theorem tab_at0 (y : Int) (h0 : 0 ≤ y) (h1 : y ≤ 255) (h : y.toNat < Lib.len8tab.size) :
    wrap64 (wrap64 (Lib.len8tab[y.toNat].toNat : Int)) = (Lib.bitLen y.toNat : Int) := by
  have e := tab_at y 0 h0 h1 (by omega) (by omega) h
  rwa [Int.zero_add, Int.zero_add] at e

set_option maxHeartbeats 4000000 in
set_option maxRecDepth 100000 in
theorem len64 (x : Int) (w : World) (h0 : 0 ≤ x) (h1 : x ≤ 18446744073709551615) :
    Calls Tryd.prog 92 #[.int .u64 x] w fun e w' => e = .returned (.int .i64 (Lib.bitLen x.toNat)) ∧ w = w' := by
  have hsz := Lib.len8tab_size
  go_enter Tryd.func92, Tryd.ntmps92
  go_wp2
  all_goals (go_ret; refine ⟨congrArg Ending.returned (congrArg (Value.int IntKind.i64) ?_), rfl⟩)
  · rw [tab_at _ 56 (by omega) (by omega) (by omega) (by omega)]
    have e : (x / 4294967296 / 65536 / 256).toNat = x.toNat / 72057594037927936 := by omega
    have s := Lib.bitLen_shift56 x.toNat (by omega) (by omega)
    rw [e]; omega
  · rw [tab_at _ 48 (by omega) (by omega) (by omega) (by omega)]
    have e : (x / 4294967296 / 65536).toNat = x.toNat / 281474976710656 := by omega
    have s := Lib.bitLen_shift48 x.toNat (by omega) (by omega)
    rw [e]; omega
  · rw [tab_at _ 40 (by omega) (by omega) (by omega) (by omega)]
    have e : (x / 4294967296 / 256).toNat = x.toNat / 1099511627776 := by omega
    have s := Lib.bitLen_shift40 x.toNat (by omega) (by omega)
    rw [e]; omega
  · rw [tab_at _ 32 (by omega) (by omega) (by omega) (by omega)]
    have e : (x / 4294967296).toNat = x.toNat / 4294967296 := by omega
    have s := Lib.bitLen_shift32 x.toNat (by omega) (by omega)
    rw [e]; omega
  · rw [tab_at _ 24 (by omega) (by omega) (by omega) (by omega)]
    have e : (x / 65536 / 256).toNat = x.toNat / 16777216 := by omega
    have s := Lib.bitLen_shift24 x.toNat (by omega) (by omega)
    rw [e]; omega
  · rw [tab_at _ 16 (by omega) (by omega) (by omega) (by omega)]
    have e : (x / 65536).toNat = x.toNat / 65536 := by omega
    have s := Lib.bitLen_shift16 x.toNat (by omega) (by omega)
    rw [e]; omega
  · rw [tab_at _ 8 (by omega) (by omega) (by omega) (by omega)]
    have e : (x / 256).toNat = x.toNat / 256 := by omega
    have s := Lib.bitLen_shift8 x.toNat (by omega) (by omega)
    rw [e]; omega
  · rw [tab_at0 _ (by omega) (by omega)]

theorem bitLen_zero : Lib.bitLen 0 = 0 := by decide +kernel
theorem bitLen_small (n : Nat) (h0 : n ≠ 0) (h : n < 256) : (Lib.bitLen n + 7) / 8 = 1 := by
  have := Lib.bitLen_le8 ⟨n, h⟩
  have h2 := Lib.bitLen_half n h0 (by omega)
  simp only at this
  omega
/-- the number of bytes, by the number of bits -/
theorem be_len (n : Nat) (h : n < 18446744073709551616) : (be n).length = (Lib.bitLen n + 7) / 8 := by
  induction n using Nat.strongRecOn with
  | _ n ih =>
    by_cases h0 : n = 0
    · subst h0; rw [be_zero, bitLen_zero]; rfl
    · rw [be_pos h0, List.length_append, List.length_singleton]
      by_cases hs : n < 256
      · rw [show n / 256 = 0 by omega, be_zero, bitLen_small n h0 hs]; rfl
      · rw [ih (n / 256) (by omega) (by omega), Lib.bitLen_shift8 n (by omega) h]; omega
end Go.Proofs.YtkinnlfjcmhcoaaDoor.W
/-
  What has turned in the world; a block that is known whole; only one block has turned.
-/
namespace Go.Proofs.YtkinnlfjcmhcoaaDoor.W
open Go.RowKit

theorem step_below {w a b : World} (h : Below w.heap.size w a) (k : Below a.heap.size a b) : Below w.heap.size w b := h.trans (k.mono h.size)
theorem step_only {w a b : World} {g : Nat} (h : Below w.heap.size w a) (k : a.grownBy b (some g)) (hg : w.heap.size ≤ g) : Below w.heap.size w b := h.trans ⟨k.os, k.tape, k.output, k.size, fun i hi => k.block i (Nat.lt_of_lt_of_le hi h.size) (by intro e; injection e with e; omega)⟩
theorem Below.drewN {B : Nat} {a w : World} (h : Below B a w) (n : Nat) : Below B a (w.drewN n) := ⟨h.os, h.tape, h.output, h.size, h.block⟩
theorem quiet_below (w : World) (n : Nat) : Below w.heap.size w (w.drewN n) := ⟨rfl, rfl, rfl, Nat.le_refl _, fun _ _ => rfl⟩

/-- block g is just the cells cs of element type t, none frozen -/
def Blk (w : World) (g : Nat) (t : TypeId) (cs : Array Value) : Prop := w.heap[g]? = some (.cells cs t (0, 0))
section
variable {w w' : World} {g : Nat} {t : TypeId} {cs : Array Value}
theorem Blk.lt (h : Blk w g t cs) : g < w.heap.size := by
  rcases Nat.lt_or_ge g w.heap.size with hlt | hge
  · exact hlt
  · unfold Blk at h; rw [Array.getElem?_eq_none hge] at h; cases h
theorem Blk.cell (h : Blk w g t cs) (i : Nat) : w.cell? ⟨g, i, none⟩ = cs[i]? := cell_of_row w g i cs t (0, 0) h
theorem Blk.frozen (h : Blk w g t cs) (i : Nat) : w.frozen? ⟨g, i, none⟩ = false := by
  unfold Blk at h
  simp [World.frozen?, h]
theorem Blk.new (w : World) (t : TypeId) (cs : Array Value) : Blk (w.alloc (.cells cs t)) w.heap.size t cs := heap_alloc_new w _
theorem Blk.alloc (h : Blk w g t cs) (o : Obj) : Blk (w.alloc o) g t cs := (Below.heap_alloc w o g h.lt).trans h
theorem Blk.set_ (h : Blk w g t cs) (i : Nat) (u : Value) : Blk (w.setCell ⟨g, i, none⟩ u) g t (cs.setIfInBounds i u) := by
  unfold Blk at h ⊢
  simp [World.setCell, Array.getElem?_modify, h]
theorem Blk.far (h : Blk w g t cs) {p : Addr} (hp : g ≠ p.block) (u : Value) : Blk (w.setCell p u) g t cs := (Below.heap_setCell w p u g hp).trans h
theorem Blk.below {B : Nat} (h : Blk w g t cs) (hb : Below B w w') (hg : g < B) : Blk w' g t cs := (hb.block g hg).trans h
theorem Blk.grown {row : Option Nat} (h : Blk w g t cs) (hb : w.grownBy w' row) (hg : some g ≠ row) : Blk w' g t cs := (hb.block g h.lt hg).trans h
end

/-- only block g, and what is new, has turned -/
theorem only_refl (w : World) (r : Option Nat) : w.grownBy w r := ⟨rfl, rfl, rfl, Nat.le_refl _, fun _ _ _ => rfl⟩
theorem only_trans {a b c : World} {r : Option Nat} (h : a.grownBy b r) (k : b.grownBy c r) : a.grownBy c r :=
  ⟨k.os.trans h.os, k.tape.trans h.tape, k.output.trans h.output, Nat.le_trans h.size k.size, fun i hi hne => (k.block i (Nat.lt_of_lt_of_le hi h.size) hne).trans (h.block i hi hne)⟩
theorem only_of_below {a b c : World} {r : Option Nat} (h : a.grownBy b r) {B : Nat} (k : Below B b c) (hB : a.heap.size ≤ B) : a.grownBy c r :=
  ⟨k.os.trans h.os, k.tape.trans h.tape, k.output.trans h.output, Nat.le_trans h.size k.size, fun i hi hne => (k.block i (by omega)).trans (h.block i hi hne)⟩
theorem only_set {a b : World} {g : Nat} (h : a.grownBy b (some g)) (i : Nat) (u : Value) : a.grownBy (b.setCell ⟨g, i, none⟩ u) (some g) :=
  ⟨h.os, h.tape, h.output, by have := h.size; simpa [World.setCell] using this, fun k hk hne => (Below.heap_setCell b ⟨g, i, none⟩ u k (fun e => hne (by rw [e]))).trans (h.block k hk hne)⟩
theorem below_of_only {a b : World} {g B : Nat} (h : a.grownBy b (some g)) (hg : B ≤ g) (hB : B ≤ a.heap.size) : Below B a b :=
  ⟨h.os, h.tape, h.output, h.size, fun k hk => h.block k (by omega) (fun e => by cases e; omega)⟩

/-- nothing that lay in w0 has turned since (a plain conjunction: it reads the same behind a draw) -/
def Since (w0 W : World) : Prop := W.os = w0.os ∧ W.tape = w0.tape ∧ W.output = w0.output ∧ w0.heap.size ≤ W.heap.size ∧ ∀ i, i < w0.heap.size → W.heap[i]? = w0.heap[i]?
theorem Since.refl (w : World) : Since w w := ⟨rfl, rfl, rfl, Nat.le_refl _, fun _ _ => rfl⟩
theorem Since.below {w0 W : World} (h : Since w0 W) : Below w0.heap.size w0 W := ⟨h.1, h.2.1, h.2.2.1, h.2.2.2.1, h.2.2.2.2⟩
theorem since_of {w0 W : World} (h : Below w0.heap.size w0 W) : Since w0 W := ⟨h.os, h.tape, h.output, h.size, h.block⟩
theorem Since.cell {w0 W : World} (h : Since w0 W) {p : Addr} {v : Value} (hc : w0.cell? p = some v) : W.cell? p = some v := (h.below.cell (World.block_lt_of_cell? w0 _ hc)).trans hc
theorem Since.after {a b c : World} (h : Since b c) (k : Since a b) : Below a.heap.size a c := step_below k.below h.below
theorem calls_since {P : Program} {f : FuncId} {args : Array Value} {w0 W : World} {x : Ending} (h : Calls P f args W fun e w' => e = x ∧ Below W.heap.size W w') (hs : Since w0 W) :
    Calls P f args W fun e w' => e = x ∧ Since w0 w' :=
  h.mono fun _ _ ⟨he, hb⟩ => ⟨he, since_of (step_below hs.below hb)⟩
end Go.Proofs.YtkinnlfjcmhcoaaDoor.W
/-
  A buffer of bytes that a call owns; what has turned in the world.
-/
namespace Go.Proofs.YtkinnlfjcmhcoaaDoor.W
open Go.RowKit

theorem infoU8 : (Tryd.prog.info? 5).map (fun i => (i.zero, i.size, i.bytes)) = some (some (.int .u8 0), 1, 1) := by kernel_rfl

/-- bytes as cells -/
def cells (l : List UInt8) : List Value := l.map fun b => Value.int .u8 b.toNat
theorem cells_append (a b : List UInt8) : cells (a ++ b) = cells a ++ cells b := by simp [cells]
theorem cells_len (a : List UInt8) : (cells a).length = a.length := by simp [cells]
theorem strCells_eq (s : ByteArray) : Lib.strCells s = cells s.data.toList := rfl

theorem OwnBuf_nil (w : World) (e : TypeId) : Lib.OwnBuf w.heap.size e (.slice none 0 0) 0 [] w w :=
  ⟨World.ownsRowF_nil _ _ _ _, Below.refl _ _, Nat.le_refl _⟩
/-- 'string(b)', b a buffer that the call owns -/
theorem run_string (B : Nat) (v : Value) (l : List UInt8) (W0 w : World) (h : Lib.OwnBuf B 5 v l.length (cells l) W0 w) :
    (convert 74 9 v).run Tryd.prog w = .ok (.string (bs l)) w := by
  rcases h.1.2 with ⟨rfl, hn⟩ | ⟨g, cap, cur, fz, rfl, _⟩
  · have hl : l = [] := List.eq_nil_of_length_eq_zero hn
    subst hl
    exact run_convert_bytes_nil w 74 5 Tryd.underlying74 Tryd.underlying5 0 0 9 Tryd.underlying9
  · refine run_convert_bytes_back w 74 9 5 ⟨g, 0, none⟩ cap l Tryd.underlying74 Tryd.underlying5 Tryd.underlying9 ?_
    intro j hj
    exact h.1.cells (g := g) rfl j _ (by simp [cells, hj])

/-- 'buf = append(buf, c, d)': the two new bytes lie in the block that the statement has just laid for its variadic slice. -/
theorem wpList_append_two {P : Program} {ops : Array Oper} {rest : List Oper} {o : Oper} {a : Act} {Q : Exit → Act → World → Prop} (hgd : o.guard = none) (s x : Operand) (t : TypeId)
    (ho : o.op = .call { callee := .builtin .append, args := #[s, x], argTypes := #[t, t] })
    (B : Nat) (e : TypeId) (i : TypeInfo) (ht : P.underlying t = some (.slice e)) (hi : P.info? e = some i) (hz : i.zero = some (.int .u8 0)) (hsize : i.size = 1) (hby : i.bytes = 1)
    (v : Value) (n : Nat) (xs : List Value) (hs : a.eval s = v) (W0 w0 : World) (c d : Int) (hb : Lib.OwnBuf B e v n xs W0 w0)
    (hx : a.eval x = .slice (some ⟨w0.heap.size, 0, none⟩) 2 2) (hlen : n + 2 ≤ 140737488355328)
    (h : ∀ v' w', Lib.OwnBuf B e v' (n + 2) (xs ++ [.int .u8 c, .int .u8 d]) W0 w' → wpList P ops Q rest (a.put o.dst v') w') : wpList P ops Q (o :: rest) a (w0.alloc (.cells #[.int .u8 c, .int .u8 d] e)) := by
  have hb' := hb.alloc (.cells #[.int .u8 c, .int .u8 d] e)
  refine wpList_append_ownF _ hgd s x t ho B e i (.int .u8 0) 1 1 ht hi hz hsize hby rfl (by decide) v n xs hs hb'.1 ⟨w0.heap.size, 0, none⟩ 2 2 [.int .u8 c, .int .u8 d] hx rfl ?_ ?_ (by unfold maxLen; omega) (by omega) hb'.2.2 ?_
  · intro j u hj
    match j, hj with
    | 0, hj => simp at hj; subst hj; simp [Addr.add]
    | 1, hj => simp at hj; subst hj; simp [Addr.add]
    | (j + 2), hj => simp at hj
  · intro u hu
    simp at hu
    rcases hu with rfl | rfl <;> rfl
  · intro v' w' ho' hg _
    exact h v' w' (hb'.grown ho' hg)

/-- 'make([]byte, 0, n)' -/
theorem run_make0 (n : Nat) (h : n ≤ 140737488355328) (w : World) : (Instr.makeSlice 74 (.int .i64 0) (.int .i64 n)).run Tryd.prog w = .ok (.slice (some ⟨w.heap.size, 0, none⟩) 0 n) (w.alloc (.cells (madeCells (Value.int .u8 0).cells n) 5)) := by
  obtain ⟨i0, hi, hz0, hz1, hz2⟩ := info_parts infoU8
  have hr := run_make (P := Tryd.prog) w 74 5 i0 _ Tryd.underlying74 hi hz0 .i64 .i64 0 n (by omega) (by omega) (by rw [hz2]; omega) (by omega)
  rw [hz1] at hr
  simpa using hr
theorem OwnBuf_made (n : Nat) (h : n ≤ maxLen) (w : World) : Lib.OwnBuf w.heap.size 5 (.slice (some ⟨w.heap.size, 0, none⟩) 0 n) 0 [] w (w.alloc (.cells (madeCells (Value.int .u8 0).cells n) 5)) := by
  exact ⟨World.ownsRowF_of (World.ownsRow_made w _ n (Nat.le_refl _) h (by rw [size_madeCells, Nat.mul_one])), (Below.refl _ _).alloc (Nat.le_refl _) _, by simp⟩
theorem own_made (n : Nat) (h : n ≤ maxLen) (w : World) : (w.alloc (.cells (madeCells (Value.int .u8 0).cells n) 5)).ownsRow w.heap.size 5 1 (.slice (some ⟨w.heap.size, 0, none⟩) 0 n) 0 [] ∧ Below w.heap.size w (w.alloc (.cells (madeCells (Value.int .u8 0).cells n) 5)) :=
  ⟨World.ownsRow_made w _ n (Nat.le_refl _) h (by rw [size_madeCells, Nat.mul_one]), (Below.refl _ _).alloc (Nat.le_refl _) _⟩
end Go.Proofs.YtkinnlfjcmhcoaaDoor.W
/-
  appendNum and appendText, for every buffer that the call owns.
-/
namespace Go.Proofs.YtkinnlfjcmhcoaaDoor.W
open Go.RowKit

/-- Len64, as its caller wants it -/
theorem len64_bytes (n : Nat) (w : World) (hn : n ≤ 9007199254740992) :
    Calls Tryd.prog 92 #[.int .u64 n] w fun e w' => ∃ m : Nat, e = .returned (.int .i64 m) ∧ ((m : Int) + 7) / 8 = ((be n).length : Nat) ∧ m ≤ 64 ∧ w = w' := by
  refine (len64 n w (by omega) (by omega)).mono ?_
  rintro e w' ⟨rfl, rfl⟩
  have hL := be_len n (by omega)
  refine ⟨Lib.bitLen n, by rw [Int.toNat_natCast], by rw [hL]; omega, ?_, rfl⟩
  exact Lib.bitLen_le n 64 (by omega) (by omega)

/-- what is laid behind j rounds -/
def part (n c j : Nat) : List Value := cells (UInt8.ofNat c :: (be n).take j)
theorem part_step {n c j B k : Nat} {xs : List Value} {v : Value} {W0 w : World} {T : TypeId} (hc : (be n).length = c) (hj : j < c)
    (h : Lib.OwnBuf B T v (k + 1 + j + 1) (xs ++ (part n c j ++ [Value.int .u8 ((n : Int) / 2 ^ (8 * (c - 1 - j)) % 256)])) W0 w) : Lib.OwnBuf B T v (k + 1 + (j + 1)) (xs ++ part n c (j + 1)) W0 w := by
  have e : part n c (j + 1) = part n c j ++ [Value.int .u8 ((n : Int) / 2 ^ (8 * (c - 1 - j)) % 256)] := by
    unfold part
    rw [be_take n j (by omega), ← List.cons_append, cells_append, hc]
    congr 1
    simp only [cells, List.map_cons, List.map_nil]
    rw [W.toNat_ofNat (Nat.mod_lt _ (by decide))]
    have hp : (256 : Nat) ^ (c - 1 - j) = 2 ^ (8 * (c - 1 - j)) := by rw [Nat.pow_mul]
    rw [hp]
    congr 2
  rw [e]
  exact h
theorem part_end {n j B k : Nat} {xs : List Value} {v : Value} {W0 w : World} {T : TypeId} (hc : (be n).length = j)
    (h : Lib.OwnBuf B T v (k + 1 + j) (xs ++ part n j j) W0 w) : Lib.OwnBuf B T v (k + (num n).length) (xs ++ cells (num n)) W0 w := by
  have e1 : k + (num n).length = k + 1 + j := by rw [num_len, hc]; omega
  have e2 : cells (num n) = part n j j := by
    unfold part num
    rw [hc, List.take_of_length_le (by omega)]
  rw [e1, e2]
  exact h
set_option maxHeartbeats 1000000 in
set_option maxRecDepth 100000 in
theorem appendNum (B : Nat) (v : Value) (k : Nat) (xs : List Value) (n : Nat) (W0 w : World) (h : Lib.OwnBuf B 5 v k xs W0 w) (hk : k ≤ 70368744177664) (hn : n ≤ 9007199254740992) :
    Calls Tryd.prog 78 #[v, .int .i64 n] w fun e w' => ∃ v', e = .returned v' ∧ Lib.OwnBuf B 5 v' (k + (num n).length) (xs ++ cells (num n)) W0 w' := by
  obtain ⟨i0, hi, hz0, hz1, hz2⟩ := info_parts infoU8
  have hle := be_len_le n 7 (by omega)
  have hc := len64_bytes n w hn
  obtain ⟨c, hcc⟩ : ∃ c, (be n).length = c := ⟨_, rfl⟩
  rw [hcc] at hc hle
  have HC := Lib.hid hcc
  have HL := Lib.hid hc
  clear hc hcc
  go_enter Tryd.func78, Tryd.ntmps78
  go_wp2_with fail
  refine HL.out.mono ?_
  rintro e w' ⟨m, rfl, hm, hm64, rfl⟩
  go_wp2_with (at_builtin; refine Lib.wpList_append_byte rfl _ _ 74 rfl B 5 i0 Tryd.underlying74 hi hz0 hz1 hz2 v k xs rfl W0 w _ h rfl (by omega) ?_)
  intro v1 w1 h1
  go_wp2
  go_loopw [0, 6] (fun v i wr => ∃ j : Nat, j ≤ c ∧ i = .int .i64 ((c : Int) - 1 - j) ∧ Lib.OwnBuf B 5 v (k + 1 + j) (xs ++ part n c j) W0 wr) (fun _ i _ => (intOf i + 1).toNat)
  case atStart => exact ⟨0, Nat.zero_le _, by simp, by simpa [part, cells, W.toNat_ofNat (show c < 256 by omega)] using h1⟩
  case round =>
    obtain ⟨j, hj, rfl, hown⟩ := hrel
    by_cases hlt : j < c
    · go_wp2_with (at_builtin; go_must (refine Lib.wpList_append_byte rfl _ _ 74 rfl B 5 i0 Tryd.underlying74 hi hz0 hz1 hz2 u0 (k + 1 + j) _ rfl W0 wr _ hown rfl (by omega) ?_))
      intro v2 w2 h2
      have R := part_step (n := n) (c := c) (j := j) HC.out hlt h2
      clear h2 hown
      go_wp2
      go_roundw
      case rel => exact ⟨j + 1, by omega, by go_num, R⟩
      case measure => simp [intOf]; omega
    · obtain rfl : j = c := by omega
      have R := part_end HC.out hown
      clear hown
      go_wp2
      go_ret
      exact ⟨_, rfl, R⟩

set_option maxHeartbeats 1000000 in
theorem appendText (B : Nat) (v : Value) (k : Nat) (xs : List Value) (s : ByteArray) (W0 w : World) (h : Lib.OwnBuf B 5 v k xs W0 w) (hk : k ≤ 70000000000000) (hs : s.size ≤ 65536) :
    Calls Tryd.prog 79 #[v, .string s] w fun e w' => ∃ v', e = .returned v' ∧ Lib.OwnBuf B 5 v' (k + (text s.data.toList).length) (xs ++ cells (text s.data.toList)) W0 w' := by
  obtain ⟨i0, hi, hz0, hz1, hz2⟩ := info_parts infoU8
  have HA := Lib.hid (appendNum B v k xs s.size W0 w h (by omega) (by omega))
  have hle := be_len_le s.size 7 (by omega)
  go_enter Tryd.func79, Tryd.ntmps79
  go_wp2_with fail
  refine HA.out.mono ?_
  rintro e w1 ⟨v1, rfl, h1⟩
  have hln := num_len s.size
  go_wp2_with (at_builtin; go_must (refine Lib.wpList_append_text rfl _ _ 74 9 rfl B 5 i0 Tryd.underlying74 Tryd.underlying9 hi hz0 hz1 hz2 v1 _ _ rfl W0 h1 s rfl (by omega) ?_))
  intro v2 w2 h2
  have R : Lib.OwnBuf B 5 v2 (k + (text s.data.toList).length) (xs ++ cells (text s.data.toList)) W0 w2 := by
    unfold text
    rw [cells_append, ← List.append_assoc, List.length_append, size_list, ← Nat.add_assoc]
    simpa [strCells_eq, num_len] using h2
  clear h2 h1
  go_wp2
  go_ret
  exact ⟨_, rfl, R⟩

end Go.Proofs.YtkinnlfjcmhcoaaDoor.W
/-
  wire.Num, wire.Text and wire.Join: what each answers, for every argument; nothing that was there has turned.
-/
namespace Go.Proofs.YtkinnlfjcmhcoaaDoor.W
open Go.RowKit

/-- a text and an error, as Go returns them -/
def retSE (p : List UInt8 × Int) : Value := .tuple #[.string (bs p.1), .int .i64 p.2]
def encNum (n : Int) : List UInt8 × Int := if 0 ≤ n ∧ n ≤ 9007199254740992 then (num n.toNat, 0) else ([], 3)
def encText (s : ByteArray) : List UInt8 × Int := if s.size ≤ 65536 then (text s.data.toList, 0) else ([], 4)
def encJoin (l : List ByteArray) : List UInt8 × Int := if l.length ≤ 256 ∧ ∀ s ∈ l, s.size ≤ 65536 then (join (l.map fun s => s.data.toList), 0) else ([], 4)

set_option maxHeartbeats 1000000 in
theorem wNum (n : Int) (w : World) :
    Calls Tryd.prog 43 #[.int .i64 n] w fun e w' => e = .returned (retSE (encNum n)) ∧ Below w.heap.size w w' := by
  by_cases h0 : 0 ≤ n
  · by_cases h1 : n ≤ 9007199254740992
    · obtain ⟨m, rfl⟩ := Int.eq_ofNat_of_zero_le h0
      have HE := Lib.hid (show encNum m = (num m, 0) by simp [encNum, h1])
      have HA := Lib.hid (appendNum w.heap.size (.slice none 0 0) 0 [] m w w (OwnBuf_nil w _) (by omega) (by omega))
      go_enter Tryd.func43, Tryd.ntmps43
      go_wp2_with fail
      refine HA.out.mono ?_
      rintro e w1 ⟨v1, rfl, h2⟩
      have hs := run_string w.heap.size v1 (num m) w w1 (by simpa using h2)
      go_wp2
      go_ret2
      exact ⟨by rw [HE.out]; rfl, h2.2.1⟩
    · have HE := Lib.hid (show encNum n = ([], 3) by simp [encNum, h1])
      go_enter Tryd.func43, Tryd.ntmps43
      go_wp2
      go_ret2
      exact ⟨by rw [HE.out]; rfl, Below.refl _ _⟩
  · have HE := Lib.hid (show encNum n = ([], 3) by simp [encNum, h0])
    go_enter Tryd.func43, Tryd.ntmps43
    go_wp2
    go_ret2
    exact ⟨by rw [HE.out]; rfl, Below.refl _ _⟩

set_option maxHeartbeats 1000000 in
theorem wText (s : ByteArray) (w : World) :
    Calls Tryd.prog 44 #[.string s] w fun e w' => e = .returned (retSE (encText s)) ∧ Below w.heap.size w w' := by
  by_cases h1 : s.size ≤ 65536
  · have HE := Lib.hid (show encText s = (text s.data.toList, 0) by simp [encText, h1])
    have HA := Lib.hid (appendText w.heap.size (.slice none 0 0) 0 [] s w w (OwnBuf_nil w _) (by omega) (by omega))
    go_enter Tryd.func44, Tryd.ntmps44
    go_wp2_with fail
    refine HA.out.mono ?_
    rintro e w1 ⟨v1, rfl, h2⟩
    have hs := run_string w.heap.size v1 (text s.data.toList) w w1 (by simpa using h2)
    go_wp2
    go_ret2
    exact ⟨by rw [HE.out]; rfl, h2.2.1⟩
  · have HE := Lib.hid (show encText s = ([], 4) by simp [encText, h1])
    go_enter Tryd.func44, Tryd.ntmps44
    go_wp2
    go_ret2
    exact ⟨by rw [HE.out]; rfl, Below.refl _ _⟩
end Go.Proofs.YtkinnlfjcmhcoaaDoor.W
/-
  Pairs in the order of their keys: plain lemmas. No program is named here.
-/
namespace Go.Proofs.YtkinnlfjcmhcoaaDoor.W

/-! ### The order of strings -/
open Lib (compareBytes)
theorem cb_cases : ∀ a b : List UInt8, compareBytes a b = -1 ∨ compareBytes a b = 0 ∨ compareBytes a b = 1
  | [], [] => by simp [compareBytes]
  | [], _ :: _ => by simp [compareBytes]
  | _ :: _, [] => by simp [compareBytes]
  | a :: ar, b :: bs => by
    unfold compareBytes
    split
    · simp
    · split
      · simp
      · exact cb_cases ar bs
theorem u8_lt_ne {a b : UInt8} (h : a < b) : ¬ b < a := fun h2 => by
  rw [UInt8.lt_iff_toNat_lt] at h h2; omega
theorem u8_eq {a b : UInt8} (h : ¬ a < b) (h2 : ¬ b < a) : a = b := by
  rw [UInt8.lt_iff_toNat_lt] at h h2; exact UInt8.toNat_inj.1 (by omega)
theorem cb_flip : ∀ a b : List UInt8, compareBytes b a = - compareBytes a b
  | [], [] => by simp [compareBytes]
  | [], _ :: _ => by simp [compareBytes]
  | _ :: _, [] => by simp [compareBytes]
  | a :: ar, b :: bs => by
    unfold compareBytes
    by_cases h : a < b
    · simp [h, u8_lt_ne h]
    · by_cases h2 : b < a
      · simp [h2, u8_lt_ne h2]
      · simp [h, h2, cb_flip ar bs]
theorem cb_self : ∀ a : List UInt8, compareBytes a a = 0
  | [] => by simp [compareBytes]
  | a :: ar => by unfold compareBytes; simp [UInt8.lt_irrefl, cb_self ar]
theorem cb_zero : ∀ {a b : List UInt8}, compareBytes a b = 0 → a = b
  | [], [], _ => rfl
  | [], _ :: _, h => by simp [compareBytes] at h
  | _ :: _, [], h => by simp [compareBytes] at h
  | a :: ar, b :: bs, h => by
    unfold compareBytes at h
    by_cases h1 : a < b
    · simp [h1] at h
    · by_cases h2 : b < a
      · simp [h1, h2] at h
      · simp only [h1, h2, if_false] at h
        rw [u8_eq h1 h2, cb_zero h]
theorem cb_trans : ∀ {a b c : List UInt8}, compareBytes a b = -1 → compareBytes b c = -1 → compareBytes a c = -1
  | [], _ :: _, _ :: _, _, _ => by simp [compareBytes]
  | [], [], _, h, _ => by simp [compareBytes] at h
  | _, _ :: _, [], _, h => by simp [compareBytes] at h
  | _ :: _, [], _, h, _ => by simp [compareBytes] at h
  | a :: ar, b :: bs, c :: cs, h, k => by
    unfold compareBytes at h k ⊢
    by_cases h1 : a < b
    · by_cases k1 : b < c
      · have : a < c := by rw [UInt8.lt_iff_toNat_lt] at *; omega
        simp [this]
      · by_cases k2 : c < b
        · simp [k1, k2] at k
        · have e := u8_eq k1 k2
          subst e
          simp [h1]
    · by_cases h2 : b < a
      · simp [h1, h2] at h
      · have e := u8_eq h1 h2
        subst e
        simp only [h1, if_false] at h
        by_cases k1 : a < c
        · simp [k1]
        · by_cases k2 : c < a
          · simp [k1, k2] at k
          · simp only [k1, k2, if_false] at k ⊢
            exact cb_trans h k
/-- a beginning is not greater -/
theorem cb_prefix : ∀ {p a : List UInt8}, p.isPrefixOf a = true → compareBytes a p ≠ -1
  | [], [], _ => by simp [compareBytes]
  | [], _ :: _, _ => by simp [compareBytes]
  | _ :: _, [], h => by simp at h
  | p :: ps, a :: ar, h => by
    simp only [List.isPrefixOf_cons_cons, Bool.and_eq_true, beq_iff_eq] at h
    obtain ⟨rfl, h⟩ := h
    unfold compareBytes
    simp only [UInt8.lt_irrefl, if_false]
    exact cb_prefix h
/-- what begins so stands together -/
theorem cb_between : ∀ {p a b : List UInt8}, compareBytes a p ≠ -1 → compareBytes a b = -1 → p.isPrefixOf b = true → p.isPrefixOf a = true
  | [], _, _, _, _, _ => by simp
  | _ :: _, _, [], _, _, h => by simp at h
  | _ :: _, [], _, h, _, _ => by simp [compareBytes] at h
  | p :: ps, a :: ar, b :: bs, h, k, hb => by
    simp only [List.isPrefixOf_cons_cons, Bool.and_eq_true, beq_iff_eq] at hb ⊢
    obtain ⟨rfl, hb⟩ := hb
    unfold compareBytes at h k
    by_cases h1 : a < p
    · simp [h1] at h
    · by_cases h2 : p < a
      · simp [h1, h2] at k
      · have e := u8_eq h1 h2
        subst e
        simp only [h1, if_false] at h k
        exact ⟨rfl, cb_between h k hb⟩

/-- strings.Compare -/
def kc (a b : ByteArray) : Int := compareBytes a.data.toList b.data.toList
theorem kc_cases (a b : ByteArray) : kc a b = -1 ∨ kc a b = 0 ∨ kc a b = 1 := cb_cases _ _
theorem kc_flip (a b : ByteArray) : kc b a = - kc a b := cb_flip _ _
theorem kc_self (a : ByteArray) : kc a a = 0 := cb_self _
theorem kc_zero {a b : ByteArray} (h : kc a b = 0) : a = b := by
  rw [← bs_of a, ← bs_of b, cb_zero h]
theorem kc_trans {a b c : ByteArray} (h : kc a b = -1) (k : kc b c = -1) : kc a c = -1 := cb_trans h k
theorem kc_ne {a b : ByteArray} (h : kc a b = -1) : a ≠ b := fun e => by rw [e, kc_self] at h; cases h
theorem kc_gt {a b : ByteArray} (h : kc a b = -1) : kc b a = 1 := by rw [kc_flip, h]; rfl
theorem kc_lt {a b : ByteArray} (h : kc a b = 1) : kc b a = -1 := by rw [kc_flip, h]
/-- begins so -/
def pfx (p k : ByteArray) : Bool := p.data.toList.isPrefixOf k.data.toList

/-! ### Pairs -/
abbrev KV := ByteArray × ByteArray
/-- in rising order of the keys -/
def Up (l : List KV) : Prop := l.Pairwise fun x y => kc x.1 y.1 = -1
def lget (l : List KV) (k : ByteArray) : Option ByteArray := (l.find? fun x => decide (x.1 = k)).map Prod.snd
def ldel (l : List KV) (k : ByteArray) : List KV := l.filter fun x => decide (x.1 ≠ k)
def lset : List KV → ByteArray → ByteArray → List KV
  | [], k, v => [(k, v)]
  | x :: r, k, v => if kc k x.1 = -1 then (k, v) :: x :: r else if kc k x.1 = 0 then (k, v) :: r else x :: lset r k v
def lall (l : List KV) (p : ByteArray) : List KV := l.filter fun x => pfx p x.1
/-- not less than low -/
def lfrom (l : List KV) (low : ByteArray) : List KV := l.filter fun x => decide (kc x.1 low ≠ -1)

section
variable {A B : List KV} {x : KV} {k v : ByteArray}
theorem up_mid (h : Up (A ++ x :: B)) : Up A ∧ Up B ∧ (∀ a ∈ A, kc a.1 x.1 = -1) ∧ (∀ b ∈ B, kc x.1 b.1 = -1) ∧ ∀ a ∈ A, ∀ b ∈ B, kc a.1 b.1 = -1 := by
  unfold Up at *
  rw [List.pairwise_append, List.pairwise_cons] at h
  obtain ⟨h1, ⟨h2, h3⟩, h4⟩ := h
  exact ⟨h1, h3, fun a ha => h4 a ha x (by simp), h2, fun a ha b hb => h4 a ha b (by simp [hb])⟩
theorem lset_left (h : kc k x.1 = -1) : lset (A ++ x :: B) k v = lset A k v ++ x :: B := by
  induction A with
  | nil => simp [lset, h]
  | cons a A ih =>
    simp only [List.cons_append, lset]
    split
    · rfl
    · split
      · rfl
      · rw [ih]; rfl
theorem lset_skip (h : ∀ a ∈ A, kc k a.1 = 1) (l : List KV) : lset (A ++ l) k v = A ++ lset l k v := by
  induction A with
  | nil => rfl
  | cons a A ih =>
    have h1 := h a (by simp)
    simp only [List.cons_append, lset]
    rw [if_neg (by rw [h1]; decide), if_neg (by rw [h1]; decide), ih (fun b hb => h b (by simp [hb]))]
theorem lset_right (hu : Up (A ++ x :: B)) (h : kc k x.1 = 1) : lset (A ++ x :: B) k v = A ++ x :: lset B k v := by
  obtain ⟨_, _, h1, _, _⟩ := up_mid hu
  rw [lset_skip (fun a ha => kc_gt (kc_trans (h1 a ha) (kc_lt h)))]
  simp only [lset]
  rw [if_neg (by rw [h]; decide), if_neg (by rw [h]; decide)]
theorem lset_here (hu : Up (A ++ x :: B)) (h : kc k x.1 = 0) : lset (A ++ x :: B) k v = A ++ (k, v) :: B := by
  obtain ⟨_, _, h1, _, _⟩ := up_mid hu
  have e := kc_zero h
  rw [lset_skip (fun a ha => by rw [e]; exact kc_gt (h1 a ha))]
  simp only [lset]
  rw [if_neg (by rw [h]; decide), if_pos h]
theorem lset_mem {l : List KV} {y : KV} (h : y ∈ lset l k v) : y = (k, v) ∨ y ∈ l := by
  induction l with
  | nil => simpa [lset] using h
  | cons a r ih =>
    simp only [lset] at h
    split at h
    · simpa using h
    · split at h
      · simp at h
        rcases h with h | h
        · exact .inl h
        · exact .inr (by simp [h])
      · simp at h
        rcases h with h | h
        · exact .inr (by simp [h])
        · rcases ih h with h | h
          · exact .inl h
          · exact .inr (by simp [h])
theorem lset_up {l : List KV} (hu : Up l) : Up (lset l k v) := by
  unfold Up at *
  induction l with
  | nil => simp [lset]
  | cons a r ih =>
    rw [List.pairwise_cons] at hu
    simp only [lset]
    split
    · rename_i h
      rw [List.pairwise_cons, List.pairwise_cons]
      refine ⟨fun y hy => ?_, hu⟩
      simp at hy
      rcases hy with rfl | hy
      · exact h
      · exact kc_trans h (hu.1 y hy)
    · rename_i h1
      split
      · rename_i h
        rw [List.pairwise_cons]
        have e := kc_zero h
        exact ⟨fun y hy => by rw [e]; exact hu.1 y hy, hu.2⟩
      · rename_i h2
        rw [List.pairwise_cons]
        refine ⟨fun y hy => ?_, ih hu.2⟩
        have h3 : kc k a.1 = 1 := by rcases kc_cases k a.1 with h | h | h <;> simp_all
        rcases lset_mem hy with rfl | hy
        · exact kc_lt h3
        · exact hu.1 y hy
theorem lset_len (l : List KV) : (lset l k v).length ≤ l.length + 1 := by
  induction l with
  | nil => simp [lset]
  | cons a r ih =>
    simp only [lset]
    split
    · simp
    · split
      · simp
      · simp only [List.length_cons]; omega

theorem lget_append (l m : List KV) : lget (l ++ m) k = (lget l k).or (lget m k) := by
  unfold lget
  rw [List.find?_append]
  cases l.find? (fun x => decide (x.1 = k)) <;> simp
theorem lget_none {l : List KV} (h : ∀ y ∈ l, y.1 ≠ k) : lget l k = none := by
  unfold lget
  rw [List.find?_eq_none.2 (fun y hy => by simpa using h y hy)]
  rfl
theorem lget_cons_ne (h : x.1 ≠ k) (B : List KV) : lget (x :: B) k = lget B k := by
  unfold lget
  rw [List.find?_cons_of_neg (by simpa using h)]
theorem lget_cons_eq (h : x.1 = k) (B : List KV) : lget (x :: B) k = some x.2 := by
  unfold lget
  rw [List.find?_cons_of_pos (by simpa using h)]
  rfl
theorem lget_left (hu : Up (A ++ x :: B)) (h : kc k x.1 = -1) : lget (A ++ x :: B) k = lget A k := by
  obtain ⟨_, _, _, h2, _⟩ := up_mid hu
  rw [lget_append, lget_none (l := x :: B)]
  · cases lget A k <;> rfl
  · intro y hy
    simp at hy
    rcases hy with rfl | hy
    · exact (kc_ne h).symm
    · exact (kc_ne (kc_trans h (h2 y hy))).symm
theorem lget_right (hu : Up (A ++ x :: B)) (h : kc k x.1 = 1) : lget (A ++ x :: B) k = lget B k := by
  obtain ⟨_, _, h1, _, _⟩ := up_mid hu
  rw [lget_append, lget_none (l := A) (fun y hy => kc_ne (kc_trans (h1 y hy) (kc_lt h))), lget_cons_ne (kc_ne (kc_lt h))]
  rfl
theorem lget_here (hu : Up (A ++ x :: B)) (h : kc k x.1 = 0) : lget (A ++ x :: B) k = some x.2 := by
  obtain ⟨_, _, h1, _, _⟩ := up_mid hu
  have e := kc_zero h
  rw [lget_append, lget_none (l := A) (fun y hy => by rw [e]; exact kc_ne (h1 y hy)), lget_cons_eq e.symm]
  rfl

theorem ldel_same {l : List KV} (h : ∀ y ∈ l, y.1 ≠ k) : ldel l k = l := by
  unfold ldel
  rw [List.filter_eq_self]
  intro y hy
  simpa using h y hy
theorem ldel_append (l m : List KV) : ldel (l ++ m) k = ldel l k ++ ldel m k := List.filter_append ..
theorem ldel_cons_ne (h : x.1 ≠ k) (B : List KV) : ldel (x :: B) k = x :: ldel B k := List.filter_cons_of_pos (by simpa using h)
theorem ldel_cons_eq (h : x.1 = k) (B : List KV) : ldel (x :: B) k = ldel B k := List.filter_cons_of_neg (by simpa using h)
theorem ldel_left (hu : Up (A ++ x :: B)) (h : kc k x.1 = -1) : ldel (A ++ x :: B) k = ldel A k ++ x :: B := by
  obtain ⟨_, _, _, h2, _⟩ := up_mid hu
  rw [ldel_append, ldel_cons_ne (kc_ne h).symm, ldel_same (l := B) (fun y hy => (kc_ne (kc_trans h (h2 y hy))).symm)]
theorem ldel_right (hu : Up (A ++ x :: B)) (h : kc k x.1 = 1) : ldel (A ++ x :: B) k = A ++ x :: ldel B k := by
  obtain ⟨_, _, h1, _, _⟩ := up_mid hu
  rw [ldel_append, ldel_same (l := A) (fun y hy => kc_ne (kc_trans (h1 y hy) (kc_lt h))), ldel_cons_ne (kc_ne (kc_lt h))]
theorem ldel_here (hu : Up (A ++ x :: B)) (h : kc k x.1 = 0) : ldel (A ++ x :: B) k = A ++ B := by
  obtain ⟨_, _, h1, h2, _⟩ := up_mid hu
  have e := kc_zero h
  rw [ldel_append, ldel_same (l := A) (fun y hy => by rw [e]; exact kc_ne (h1 y hy)), ldel_cons_eq e.symm, ldel_same (l := B) (fun y hy => by rw [e]; exact (kc_ne (h2 y hy)).symm)]
theorem ldel_up {l : List KV} (hu : Up l) : Up (ldel l k) := List.Pairwise.filter _ hu
theorem ldel_len (l : List KV) : (ldel l k).length ≤ l.length := List.length_filter_le ..
end

theorem lset_size {l : List KV} (hu : Up l) (k v : ByteArray) : (lset l k v).length = if (lget l k).isSome then l.length else l.length + 1 := by
  induction l with
  | nil => simp [lset, lget]
  | cons a r ih =>
    have hu' := hu
    unfold Up at hu
    rw [List.pairwise_cons] at hu
    simp only [lset]
    rcases kc_cases k a.1 with h | h | h
    · rw [if_pos h, lget_none]
      · simp
      · intro y hy
        simp at hy
        rcases hy with rfl | hy
        · exact (kc_ne h).symm
        · exact (kc_ne (kc_trans h (hu.1 y hy))).symm
    · rw [if_neg (by rw [h]; decide), if_pos h, lget_cons_eq (kc_zero h).symm]
      simp
    · rw [if_neg (by rw [h]; decide), if_neg (by rw [h]; decide), lget_cons_ne (kc_ne (kc_lt h))]
      simp only [List.length_cons, ih hu.2]
      split <;> simp
theorem ldel_size {l : List KV} (hu : Up l) (k : ByteArray) : (ldel l k).length + (if (lget l k).isSome then 1 else 0) = l.length := by
  induction l with
  | nil => simp [ldel, lget]
  | cons a r ih =>
    unfold Up at hu
    rw [List.pairwise_cons] at hu
    by_cases h : a.1 = k
    · rw [ldel_cons_eq h, lget_cons_eq h, ldel_same (fun y hy => by rw [← h]; exact (kc_ne (hu.1 y hy)).symm)]
      simp
    · rw [ldel_cons_ne h, lget_cons_ne h, List.length_cons, List.length_cons, ← ih hu.2]
      omega
theorem ldel_absent {l : List KV} {k : ByteArray} (h : lget l k = none) : ldel l k = l := by
  refine ldel_same fun y hy e => ?_
  unfold lget at h
  rw [Option.map_eq_none_iff, List.find?_eq_none] at h
  exact h y hy (by simpa using e)

/-! ### Going over them -/
theorem lfrom_low {A B : List KV} {x : KV} {low : ByteArray} (hu : Up (A ++ x :: B)) (h : kc x.1 low = -1) : lfrom (A ++ x :: B) low = lfrom B low := by
  obtain ⟨_, _, h1, _, _⟩ := up_mid hu
  unfold lfrom
  rw [List.filter_append, List.filter_cons_of_neg (by simp [h]), List.filter_eq_nil_iff.2 (fun a ha => by simp [kc_trans (h1 a ha) h])]
  rfl
theorem lfrom_high {A B : List KV} {x : KV} {low : ByteArray} (h : kc x.1 low ≠ -1) : lfrom (A ++ x :: B) low = lfrom A low ++ x :: lfrom B low := by
  unfold lfrom
  rw [List.filter_append, List.filter_cons_of_pos (by simp [h])]
theorem pfx_from {p k : ByteArray} (h : pfx p k = true) : kc k p ≠ -1 := cb_prefix h
theorem pfx_between {p a b : ByteArray} (h : kc a p ≠ -1) (k : kc a b = -1) (hb : pfx p b = true) : pfx p a = true := cb_between h k hb
/-- behind the first that does not begin so none does -/
theorem take_pfx {l : List KV} {p : ByteArray} (hu : Up l) (h : ∀ x ∈ l, kc x.1 p ≠ -1) : l.takeWhile (fun x => pfx p x.1) = l.filter (fun x => pfx p x.1) := by
  induction l with
  | nil => rfl
  | cons a r ih =>
    unfold Up at hu
    rw [List.pairwise_cons] at hu
    rw [List.takeWhile_cons, List.filter_cons]
    split
    · rw [ih hu.2 (fun x hx => h x (by simp [hx]))]
    · rename_i ha
      symm
      rw [List.filter_eq_nil_iff]
      intro x hx hp
      exact ha (pfx_between (h a (by simp)) (hu.1 x hx) hp)
theorem lall_is {l : List KV} {p : ByteArray} (hu : Up l) : (lfrom l p).takeWhile (fun x => pfx p x.1) = lall l p := by
  have hu2 : Up (lfrom l p) := List.Pairwise.filter _ hu
  rw [take_pfx hu2 (fun x hx => by simpa using (List.mem_filter.1 hx).2)]
  unfold lfrom lall
  rw [List.filter_filter]
  congr 1
  funext x
  cases h : pfx p x.1
  · simp
  · simp [pfx_from h]
theorem lall_empty (l : List KV) : lall l ⟨#[]⟩ = l := by
  unfold lall
  rw [List.filter_eq_self]
  intro x _
  show pfx ⟨#[]⟩ x.1 = true
  unfold pfx
  exact List.isPrefixOf_nil_left ..
end Go.Proofs.YtkinnlfjcmhcoaaDoor.W
/-
  The Merkle tree of a list of pairs, over plain lists of bytes. Two lists whose trees are equal are equal, if no two texts that are hashed have one hash. No program is named here.
-/
namespace Go.Proofs.YtkinnlfjcmhcoaaDoor.W

/-! ### The largest power of two below a number -/
def spl (n : Nat) : Nat := if n < 2 then 0 else 2 ^ (Lib.bitLen (n - 1) - 1)
theorem bitLen_two : ∀ (j x : Nat), 2 ^ j ≤ x → x < 2 ^ (j + 1) → x < 2 ^ 64 → Lib.bitLen x = j + 1
  | 0, x, h1, h2, _ => by
    obtain rfl : x = 1 := by omega
    decide +kernel
  | j + 1, x, h1, h2, h3 => by
    have h0 : x ≠ 0 := by have := Nat.two_pow_pos (j + 1); omega
    rw [Nat.pow_succ] at h1 h2
    rw [Lib.bitLen_half x h0 h3, bitLen_two j (x / 2) (by omega) (by rw [Nat.pow_succ] at *; omega) (by omega)]
    omega
theorem spl_small (n : Nat) (h : n < 2) : spl n = 0 := by unfold spl; rw [if_pos h]
theorem spl_is (j n : Nat) (h1 : 2 ^ j < n) (h2 : n ≤ 2 * 2 ^ j) (h3 : n < 2 ^ 64) : spl n = 2 ^ j := by
  have h0 := Nat.two_pow_pos j
  unfold spl
  rw [if_neg (by omega), bitLen_two j (n - 1) (by omega) (by rw [Nat.pow_succ]; omega) (by omega), Nat.add_sub_cancel]
theorem pow_of : ∀ n : Nat, 2 ≤ n → ∃ j, 2 ^ j < n ∧ n ≤ 2 * 2 ^ j := by
  intro n
  induction n using Nat.strongRecOn with
  | _ n ih =>
    intro h
    by_cases h2 : n = 2
    · subst h2; exact ⟨0, by decide, by decide⟩
    · by_cases h3 : n = 3
      · subst h3; exact ⟨1, by decide, by decide⟩
      · obtain ⟨j, h4, h5⟩ := ih ((n + 1) / 2) (by omega) (by omega)
        exact ⟨j + 1, by rw [Nat.pow_succ]; omega, by rw [Nat.pow_succ]; omega⟩
theorem spl_pos {n : Nat} (h : 2 ≤ n) (h3 : n < 2 ^ 64) : 1 ≤ spl n ∧ spl n < n ∧ n - spl n ≤ spl n := by
  obtain ⟨j, h1, h2⟩ := pow_of n h
  have h0 := Nat.two_pow_pos j
  rw [spl_is j n h1 h2 h3]
  omega

/-! ### What is hashed -/
def leafOf (p : KV) : List UInt8 := 0 :: ((encText p.1).1 ++ (encText p.2).1)
def nodeOf (a b : List UInt8) : List UInt8 := 1 :: (a ++ b)
def topOf (n : Int) (t : List UInt8) : List UInt8 := 2 :: ((encNum n).1 ++ t)
/-- the tree hash, with as much fuel as there are pairs -/
def treeF : Nat → List KV → List UInt8
  | 0, _ => []
  | f + 1, l => match l with
    | [] => []
    | [p] => shaOf (leafOf p)
    | p :: q :: r => shaOf (nodeOf (treeF f ((p :: q :: r).take (spl (r.length + 2)))) (treeF f ((p :: q :: r).drop (spl (r.length + 2)))))
def tree (l : List KV) : List UInt8 := treeF l.length l
theorem treeF_more : ∀ (f : Nat) (l : List KV), l.length ≤ f → l.length < 2 ^ 64 → ∀ g, l.length ≤ g → treeF f l = treeF g l := by
  intro f
  induction f with
  | zero =>
    intro l h _ g _
    obtain rfl : l = [] := List.eq_nil_of_length_eq_zero (by omega)
    cases g <;> rfl
  | succ f ih =>
    intro l h h64 g hg
    match l, g with
    | [], 0 => rfl
    | [], g + 1 => rfl
    | [p], g + 1 => rfl
    | p :: q :: r, g + 1 =>
      simp only [List.length_cons] at h hg h64
      obtain ⟨s1, s2, s3⟩ := spl_pos (n := r.length + 2) (by omega) (by omega)
      have e1 : ((p :: q :: r).take (spl (r.length + 2))).length = spl (r.length + 2) := by rw [List.length_take]; simp only [List.length_cons]; omega
      have e2 : ((p :: q :: r).drop (spl (r.length + 2))).length = r.length + 2 - spl (r.length + 2) := by rw [List.length_drop]; simp only [List.length_cons]
      show shaOf _ = shaOf _
      rw [ih _ (by rw [e1]; omega) (by rw [e1]; omega) g (by rw [e1]; omega), ih _ (by rw [e2]; omega) (by rw [e2]; omega) g (by rw [e2]; omega)]
theorem tree_nil : tree [] = [] := rfl
theorem tree_one (p : KV) : tree [p] = shaOf (leafOf p) := rfl
theorem tree_two (l : List KV) (h : 2 ≤ l.length) (h64 : l.length < 2 ^ 64) : tree l = shaOf (nodeOf (tree (l.take (spl l.length))) (tree (l.drop (spl l.length)))) := by
  match l, h with
  | p :: q :: r, _ =>
    simp only [List.length_cons] at h64
    obtain ⟨s1, s2, s3⟩ := spl_pos (n := r.length + 2) (by omega) (by omega)
    have e1 : ((p :: q :: r).take (spl (r.length + 2))).length = spl (r.length + 2) := by rw [List.length_take]; simp only [List.length_cons]; omega
    have e2 : ((p :: q :: r).drop (spl (r.length + 2))).length = r.length + 2 - spl (r.length + 2) := by rw [List.length_drop]; simp only [List.length_cons]
    show shaOf (nodeOf (treeF (r.length + 1) ((p :: q :: r).take (spl (r.length + 2)))) (treeF (r.length + 1) ((p :: q :: r).drop (spl (r.length + 2))))) = shaOf (nodeOf (tree ((p :: q :: r).take (spl (r.length + 2)))) (tree ((p :: q :: r).drop (spl (r.length + 2)))))
    unfold tree
    rw [treeF_more (r.length + 1) _ (by rw [e1]; omega) (by rw [e1]; omega) _ (Nat.le_refl _), treeF_more (r.length + 1) _ (by rw [e2]; omega) (by rw [e2]; omega) _ (Nat.le_refl _)]
theorem tree_len (l : List KV) (h : l ≠ []) (h64 : l.length < 2 ^ 64) : (tree l).length = 32 := by
  match l, h with
  | [p], _ => rw [tree_one, shaOf_len]
  | p :: q :: r, _ => rw [tree_two _ (by simp) h64, shaOf_len]
theorem tree_le (l : List KV) (h64 : l.length < 2 ^ 64) : (tree l).length ≤ 32 := by
  by_cases h : l = []
  · subst h; rw [tree_nil]; simp
  · rw [tree_len l h h64]; omega
/-- all that is hashed, in the order in which the reference lists it -/
def textsF : Nat → List KV → List (List UInt8)
  | 0, _ => []
  | f + 1, l => match l with
    | [] => []
    | [p] => [leafOf p]
    | p :: q :: r => textsF f ((p :: q :: r).take (spl (r.length + 2))) ++ textsF f ((p :: q :: r).drop (spl (r.length + 2))) ++ [nodeOf (tree ((p :: q :: r).take (spl (r.length + 2)))) (tree ((p :: q :: r).drop (spl (r.length + 2))))]
def texts (l : List KV) : List (List UInt8) := textsF l.length l
theorem textsF_more : ∀ (f : Nat) (l : List KV), l.length ≤ f → l.length < 2 ^ 64 → ∀ g, l.length ≤ g → textsF f l = textsF g l := by
  intro f
  induction f with
  | zero =>
    intro l h _ g _
    obtain rfl : l = [] := List.eq_nil_of_length_eq_zero (by omega)
    cases g <;> rfl
  | succ f ih =>
    intro l h h64 g hg
    match l, g with
    | [], 0 => rfl
    | [], g + 1 => rfl
    | [p], g + 1 => rfl
    | p :: q :: r, g + 1 =>
      simp only [List.length_cons] at h hg h64
      obtain ⟨s1, s2, s3⟩ := spl_pos (n := r.length + 2) (by omega) (by omega)
      have e1 : ((p :: q :: r).take (spl (r.length + 2))).length = spl (r.length + 2) := by rw [List.length_take]; simp only [List.length_cons]; omega
      have e2 : ((p :: q :: r).drop (spl (r.length + 2))).length = r.length + 2 - spl (r.length + 2) := by rw [List.length_drop]; simp only [List.length_cons]
      show textsF f _ ++ textsF f _ ++ _ = textsF g _ ++ textsF g _ ++ _
      rw [ih _ (by rw [e1]; omega) (by rw [e1]; omega) g (by rw [e1]; omega), ih _ (by rw [e2]; omega) (by rw [e2]; omega) g (by rw [e2]; omega)]
theorem texts_nil : texts [] = [] := rfl
theorem texts_one (p : KV) : texts [p] = [leafOf p] := rfl
theorem texts_two (l : List KV) (h : 2 ≤ l.length) (h64 : l.length < 2 ^ 64) : texts l = texts (l.take (spl l.length)) ++ texts (l.drop (spl l.length)) ++ [nodeOf (tree (l.take (spl l.length))) (tree (l.drop (spl l.length)))] := by
  match l, h with
  | p :: q :: r, _ =>
    simp only [List.length_cons] at h64
    obtain ⟨s1, s2, s3⟩ := spl_pos (n := r.length + 2) (by omega) (by omega)
    have e1 : ((p :: q :: r).take (spl (r.length + 2))).length = spl (r.length + 2) := by rw [List.length_take]; simp only [List.length_cons]; omega
    have e2 : ((p :: q :: r).drop (spl (r.length + 2))).length = r.length + 2 - spl (r.length + 2) := by rw [List.length_drop]; simp only [List.length_cons]
    show textsF (r.length + 1) ((p :: q :: r).take (spl (r.length + 2))) ++ textsF (r.length + 1) ((p :: q :: r).drop (spl (r.length + 2))) ++ [nodeOf (tree ((p :: q :: r).take (spl (r.length + 2)))) (tree ((p :: q :: r).drop (spl (r.length + 2))))] = textsF _ ((p :: q :: r).take (spl (r.length + 2))) ++ textsF _ ((p :: q :: r).drop (spl (r.length + 2))) ++ [nodeOf (tree ((p :: q :: r).take (spl (r.length + 2)))) (tree ((p :: q :: r).drop (spl (r.length + 2))))]
    rw [textsF_more (r.length + 1) _ (by rw [e1]; omega) (by rw [e1]; omega) _ (Nat.le_refl _), textsF_more (r.length + 1) _ (by rw [e2]; omega) (by rw [e2]; omega) _ (Nat.le_refl _)]
    rfl
def rootOf (l : List KV) : List UInt8 := shaOf (topOf l.length (tree l))
def allOf (l : List KV) : List (List UInt8) := texts l ++ [topOf l.length (tree l)]

/-! ### Sizes -/
theorem encNum_len (n : Int) : (encNum n).1.length ≤ 8 := by
  unfold encNum
  split
  · rename_i h
    have := be_len_le n.toNat 7 (by omega)
    show (num n.toNat).length ≤ 8
    rw [num_len]
    omega
  · exact Nat.zero_le _
theorem encText_len (s : ByteArray) : (encText s).1.length ≤ 65544 := by
  unfold encText
  split
  · rename_i h
    have := be_len_le s.data.toList.length 7 (by rw [size_list]; omega)
    show (num s.data.toList.length ++ s.data.toList).length ≤ 65544
    rw [List.length_append, num_len, size_list] at *
    omega
  · exact Nat.zero_le _
theorem leafOf_len (p : KV) : (leafOf p).length ≤ 131089 := by
  have h1 := encText_len p.1
  have h2 := encText_len p.2
  unfold leafOf
  rw [List.length_cons, List.length_append]
  omega
theorem nodeOf_len (a b : List UInt8) : (nodeOf a b).length = a.length + b.length + 1 := by simp [nodeOf]
theorem topOf_len (n : Int) (t : List UInt8) : (topOf n t).length ≤ t.length + 9 := by
  have := encNum_len n
  unfold topOf
  rw [List.length_cons, List.length_append]
  omega
theorem texts_len (l : List KV) (h64 : l.length < 2 ^ 64) : (texts l).length ≤ 2 * l.length := by
  have key : ∀ n (l : List KV), l.length = n → l.length < 2 ^ 64 → (texts l).length ≤ 2 * l.length - 1 := by
    intro n
    induction n using Nat.strongRecOn with
    | _ n ih =>
      intro l hl h64
      by_cases h2 : 2 ≤ l.length
      · obtain ⟨s1, s2, s3⟩ := spl_pos h2 h64
        have e1 : (l.take (spl l.length)).length = spl l.length := by rw [List.length_take]; omega
        have e2 : (l.drop (spl l.length)).length = l.length - spl l.length := List.length_drop
        have i1 := ih _ (by omega) (l.take (spl l.length)) e1 (by omega)
        have i2 := ih _ (by omega) (l.drop (spl l.length)) e2 (by omega)
        rw [texts_two l h2 h64, List.length_append, List.length_append, List.length_singleton]
        omega
      · match l with
        | [] => simp [texts_nil]
        | [p] => simp [texts_one]
        | p :: q :: r => simp at h2
  have := key _ l rfl h64
  omega

/-! ### What is laid can be told apart -/
theorem num_inj {n m : Nat} {x y : List UInt8} (hn : n ≤ 9007199254740992) (hm : m ≤ 9007199254740992) (h : num n ++ x = num m ++ y) : n = m ∧ x = y := by
  have l1 := be_len_le n 7 (by omega)
  have l2 := be_len_le m 7 (by omega)
  simp only [num, List.cons_append, List.cons.injEq] at h
  obtain ⟨h1, h2⟩ := h
  have h3 : (be n).length = (be m).length := by
    have := congrArg UInt8.toNat h1
    rwa [toNat_ofNat (by omega), toNat_ofNat (by omega)] at this
  obtain ⟨h4, h5⟩ := List.append_inj h2 h3
  exact ⟨by rw [← val_be n, ← val_be m, h4], h5⟩
theorem text_inj {a b x y : List UInt8} (ha : a.length ≤ 65536) (hb : b.length ≤ 65536) (h : text a ++ x = text b ++ y) : a = b ∧ x = y := by
  unfold text at h
  rw [List.append_assoc, List.append_assoc] at h
  obtain ⟨h1, h2⟩ := num_inj (by omega) (by omega) h
  exact List.append_inj h2 h1
theorem encText_small {s : ByteArray} (h : s.size ≤ 65536) : (encText s).1 = text s.data.toList := by simp [encText, h]
theorem leafOf_inj {p q : KV} (h1 : p.1.size ≤ 200) (h2 : p.2.size ≤ 200) (h3 : q.1.size ≤ 200) (h4 : q.2.size ≤ 200) (h : leafOf p = leafOf q) : p = q := by
  unfold leafOf at h
  rw [encText_small (by omega), encText_small (by omega), encText_small (by omega), encText_small (by omega)] at h
  simp only [List.cons.injEq, true_and] at h
  obtain ⟨a1, a2⟩ := text_inj (by rw [size_list]; omega) (by rw [size_list]; omega) h
  rw [← List.append_nil (text p.2.data.toList), ← List.append_nil (text q.2.data.toList)] at a2
  obtain ⟨a3, _⟩ := text_inj (by rw [size_list]; omega) (by rw [size_list]; omega) a2
  exact Prod.ext (by rw [← bs_of p.1, ← bs_of q.1, a1]) (by rw [← bs_of p.2, ← bs_of q.2, a3])
/-- no two texts of the list have one hash -/
def Apart (L : List (List UInt8)) : Prop := ∀ x ∈ L, ∀ y ∈ L, shaOf x = shaOf y → x = y
abbrev Short (l : List KV) : Prop := ∀ p ∈ l, p.1.size ≤ 200 ∧ p.2.size ≤ 200
theorem tree_apart (L : List (List UInt8)) (hL : Apart L) : ∀ (n : Nat) (l m : List KV), l.length = n → m.length = n → n < 2 ^ 64 → Short l → Short m → (∀ x ∈ texts l, x ∈ L) → (∀ x ∈ texts m, x ∈ L) → tree l = tree m → l = m := by
  intro n
  induction n using Nat.strongRecOn with
  | _ n ih =>
    intro l m hl hm h64 sl sm il im h
    by_cases h2 : 2 ≤ n
    · have t1 := tree_two l (by omega) (by omega)
      have t2 := tree_two m (by omega) (by omega)
      have x1 := texts_two l (by omega) (by omega)
      have x2 := texts_two m (by omega) (by omega)
      rw [hl] at t1 x1
      rw [hm] at t2 x2
      obtain ⟨s1, s2, s3⟩ := spl_pos h2 h64
      have e1 : (l.take (spl n)).length = spl n := by rw [List.length_take]; omega
      have e2 : (l.drop (spl n)).length = n - spl n := by rw [List.length_drop, hl]
      have e3 : (m.take (spl n)).length = spl n := by rw [List.length_take]; omega
      have e4 : (m.drop (spl n)).length = n - spl n := by rw [List.length_drop, hm]
      rw [t1, t2] at h
      have hx := hL _ (il _ (by rw [x1]; simp)) _ (im _ (by rw [x2]; simp)) h
      simp only [nodeOf, List.cons.injEq, true_and] at hx
      have l1 : (tree (l.take (spl n))).length = 32 := tree_len _ (by intro e; rw [e] at e1; simp at e1; omega) (by omega)
      have l2 : (tree (m.take (spl n))).length = 32 := tree_len _ (by intro e; rw [e] at e3; simp at e3; omega) (by omega)
      obtain ⟨y1, y2⟩ := List.append_inj hx (by rw [l1, l2])
      have r1 := ih (spl n) (by omega) _ _ e1 e3 (by omega) (fun p hp => sl p (List.mem_of_mem_take hp)) (fun p hp => sm p (List.mem_of_mem_take hp)) (fun x hx => il x (by rw [x1]; simp [hx])) (fun x hx => im x (by rw [x2]; simp [hx])) y1
      have r2 := ih (n - spl n) (by omega) _ _ e2 e4 (by omega) (fun p hp => sl p (List.mem_of_mem_drop hp)) (fun p hp => sm p (List.mem_of_mem_drop hp)) (fun x hx => il x (by rw [x1]; simp [hx])) (fun x hx => im x (by rw [x2]; simp [hx])) y2
      rw [← List.take_append_drop (spl n) l, ← List.take_append_drop (spl n) m, r1, r2]
    · match l, m with
      | [], [] => rfl
      | [p], [q] =>
        rw [tree_one, tree_one] at h
        have hx := hL _ (il _ (by rw [texts_one]; simp)) _ (im _ (by rw [texts_one]; simp)) h
        have k1 := sl p (by simp)
        have k2 := sm q (by simp)
        rw [leafOf_inj k1.1 k1.2 k2.1 k2.2 hx]
      | [], _ :: _ => simp at hl hm; omega
      | _ :: _, [] => simp at hl hm; omega
      | [_], _ :: _ :: _ => simp at hl hm; omega
      | _ :: _ :: _, _ => simp at hl; omega
theorem root_apart (l m : List KV) (hl : l.length ≤ 9007199254740992) (hm : m.length ≤ 9007199254740992) (sl : Short l) (sm : Short m) (hL : Apart (allOf l ++ allOf m)) (h : rootOf l = rootOf m) : l = m := by
  have hx := hL _ (by simp [allOf]) _ (by simp [allOf]) h
  simp only [topOf, List.cons.injEq, true_and] at hx
  have e : ∀ n : Nat, n ≤ 9007199254740992 → (encNum n).1 = num n := fun n hn => by
    unfold encNum
    rw [if_pos ⟨by omega, by omega⟩, Int.toNat_natCast]
  rw [e _ hl, e _ hm] at hx
  obtain ⟨h1, h2⟩ := num_inj hl hm hx
  exact tree_apart _ hL l.length l m rfl h1.symm (by omega) sl sm (fun x hx => by simp [allOf, hx]) (fun x hx => by simp [allOf, hx]) h2
end Go.Proofs.YtkinnlfjcmhcoaaDoor.W
/-
  Paths in a Merkle tree of pairs, and where a leaf and a path lead: over plain lists of bytes. No program is named here.
-/
namespace Go.Proofs.YtkinnlfjcmhcoaaDoor.W

/-- the hashes beside the way from position i up to the tree, the lowest first -/
def pth (l : List KV) (i : Nat) : List (List UInt8) :=
  if _h : 2 ≤ l.length ∧ l.length < 2 ^ 64 then
    if i < spl l.length then pth (l.take (spl l.length)) i ++ [tree (l.drop (spl l.length))]
    else pth (l.drop (spl l.length)) (i - spl l.length) ++ [tree (l.take (spl l.length))]
  else []
termination_by l.length
decreasing_by
  all_goals
    obtain ⟨_, s2, _⟩ := spl_pos _h.1 _h.2
    simp only [List.length_take, List.length_drop]
    omega
theorem pth_small {l : List KV} (h : l.length < 2) (i : Nat) : pth l i = [] := by rw [pth, dif_neg (by omega)]
theorem pth_left {l : List KV} (h : 2 ≤ l.length) (h64 : l.length < 2 ^ 64) {i : Nat} (hi : i < spl l.length) : pth l i = pth (l.take (spl l.length)) i ++ [tree (l.drop (spl l.length))] := by
  rw [pth, dif_pos ⟨h, h64⟩, if_pos hi]
theorem pth_right {l : List KV} (h : 2 ≤ l.length) (h64 : l.length < 2 ^ 64) {i : Nat} (hi : ¬ i < spl l.length) : pth l i = pth (l.drop (spl l.length)) (i - spl l.length) ++ [tree (l.take (spl l.length))] := by
  rw [pth, dif_pos ⟨h, h64⟩, if_neg hi]
theorem pth_len : ∀ (n : Nat) (l : List KV) (i : Nat), l.length = n → l.length < 2 ^ 64 → (pth l i).length ≤ l.length ∧ ∀ x ∈ pth l i, x.length ≤ 32 := by
  intro n
  induction n using Nat.strongRecOn with
  | _ n ih =>
    intro l i hl h64
    by_cases h2 : 2 ≤ l.length
    · obtain ⟨s1, s2, s3⟩ := spl_pos h2 h64
      have e1 : (l.take (spl l.length)).length = spl l.length := by rw [List.length_take]; omega
      have e2 : (l.drop (spl l.length)).length = l.length - spl l.length := List.length_drop
      have t1 := tree_le (l.take (spl l.length)) (by omega)
      have t2 := tree_le (l.drop (spl l.length)) (by omega)
      by_cases hi : i < spl l.length
      · obtain ⟨i1, i2⟩ := ih _ (by omega) (l.take (spl l.length)) i e1 (by omega)
        rw [pth_left h2 h64 hi]
        refine ⟨by rw [List.length_append, List.length_singleton]; omega, fun x hx => ?_⟩
        rw [List.mem_append, List.mem_singleton] at hx
        rcases hx with hx | rfl
        · exact i2 x hx
        · exact t2
      · obtain ⟨i1, i2⟩ := ih _ (by omega) (l.drop (spl l.length)) (i - spl l.length) e2 (by omega)
        rw [pth_right h2 h64 hi]
        refine ⟨by rw [List.length_append, List.length_singleton]; omega, fun x hx => ?_⟩
        rw [List.mem_append, List.mem_singleton] at hx
        rcases hx with hx | rfl
        · exact i2 x hx
        · exact t1
    · rw [pth_small (by omega)]
      exact ⟨Nat.zero_le _, fun x hx => by cases hx⟩

/-- where a leaf and a path (its last hash first) lead at position i of n, and what is hashed on the way -/
def leadR (leaf : List UInt8) : List (List UInt8) → Int → Int → Option (List UInt8 × List (List UInt8))
  | [], i, n => if 0 ≤ i ∧ i < n ∧ n = 1 then some (leaf, []) else none
  | last :: r, i, n =>
    if 0 ≤ i ∧ i < n ∧ n ≠ 1 then
      (if i < (spl n.toNat : Nat) then (leadR leaf r i (spl n.toNat : Nat)).map fun t => (shaOf (nodeOf t.1 last), t.2 ++ [nodeOf t.1 last])
      else (leadR leaf r (i - (spl n.toNat : Nat)) (n - (spl n.toNat : Nat))).map fun t => (shaOf (nodeOf last t.1), t.2 ++ [nodeOf last t.1]))
    else none
def lead (leaf : List UInt8) (p : List (List UInt8)) (i n : Int) : Option (List UInt8 × List (List UInt8)) := leadR leaf p.reverse i n
theorem lead_nil (leaf : List UInt8) (i n : Int) : lead leaf [] i n = if 0 ≤ i ∧ i < n ∧ n = 1 then some (leaf, []) else none := rfl
theorem lead_snoc (leaf : List UInt8) (p : List (List UInt8)) (x : List UInt8) (i n : Int) : lead leaf (p ++ [x]) i n =
    if 0 ≤ i ∧ i < n ∧ n ≠ 1 then
      (if i < (spl n.toNat : Nat) then (lead leaf p i (spl n.toNat : Nat)).map fun t => (shaOf (nodeOf t.1 x), t.2 ++ [nodeOf t.1 x])
      else (lead leaf p (i - (spl n.toNat : Nat)) (n - (spl n.toNat : Nat))).map fun t => (shaOf (nodeOf x t.1), t.2 ++ [nodeOf x t.1]))
    else none := by
  unfold lead
  rw [List.reverse_append]
  rfl
theorem lead_out {leaf : List UInt8} {p : List (List UInt8)} {i n : Int} (h : ¬ (0 ≤ i ∧ i < n)) : lead leaf p i n = none := by
  unfold lead
  cases p.reverse with
  | nil => exact if_neg fun e => h ⟨e.1, e.2.1⟩
  | cons x r => exact if_neg fun e => h ⟨e.1, e.2.1⟩
theorem lead_len {leaf : List UInt8} (hl : leaf.length = 32) (p : List (List UInt8)) : ∀ (i n : Int) (t : List UInt8 × List (List UInt8)), lead leaf p i n = some t → t.1.length = 32 := by
  induction p using snocInd with
  | h0 =>
    intro i n t h
    rw [lead_nil] at h
    split at h
    · cases h; exact hl
    · cases h
  | h1 p x ih =>
    intro i n t h
    rw [lead_snoc] at h
    split at h
    · split at h
      · rw [Option.map_eq_some_iff] at h
        obtain ⟨u, _, rfl⟩ := h
        exact shaOf_len _
      · rw [Option.map_eq_some_iff] at h
        obtain ⟨u, _, rfl⟩ := h
        exact shaOf_len _
    · cases h
/-- the path of a position leads to the tree -/
theorem lead_pth (p : KV) : ∀ (n : Nat) (l : List KV) (i : Nat), l[i]? = some p → l.length = n → n < 2 ^ 63 → (lead (shaOf (leafOf p)) (pth l i) i n).map Prod.fst = some (tree l) := by
  intro n
  induction n using Nat.strongRecOn with
  | _ n ih =>
    intro l i hp hl h63
    have hi : i < l.length := (List.getElem?_eq_some_iff.1 hp).1
    by_cases h2 : 2 ≤ n
    · obtain ⟨s1, s2, s3⟩ := spl_pos h2 (by omega)
      have e1 : (l.take (spl n)).length = spl n := by rw [List.length_take]; omega
      have e2 : (l.drop (spl n)).length = n - spl n := by rw [List.length_drop, hl]
      have ht := tree_two l (by omega) (by omega)
      rw [hl] at ht
      by_cases hlt : i < spl n
      · have i1 := ih _ s2 (l.take (spl n)) i (by rw [List.getElem?_take_of_lt hlt]; exact hp) e1 (by omega)
        have hq := pth_left (l := l) (by omega) (by omega) (i := i) (by rw [hl]; exact hlt)
        rw [hl] at hq
        rw [hq, lead_snoc, if_pos ⟨by omega, by omega, by omega⟩, Int.toNat_natCast, if_pos (by omega), Option.map_map]
        rw [Option.map_eq_some_iff] at i1 ⊢
        obtain ⟨t, h1, h3⟩ := i1
        exact ⟨t, h1, by show shaOf (nodeOf t.1 _) = _; rw [h3, ht]⟩
      · have i1 := ih _ (by omega) (l.drop (spl n)) (i - spl n) (by rw [List.getElem?_drop]; rw [show spl n + (i - spl n) = i by omega]; exact hp) e2 (by omega)
        have hq := pth_right (l := l) (by omega) (by omega) (i := i) (by rw [hl]; exact hlt)
        rw [hl] at hq
        rw [hq, lead_snoc, if_pos ⟨by omega, by omega, by omega⟩, Int.toNat_natCast, if_neg (by omega), Option.map_map]
        rw [show ((i - spl n : Nat) : Int) = (i : Int) - (spl n : Nat) by omega, show ((n - spl n : Nat) : Int) = (n : Int) - (spl n : Nat) by omega] at i1
        rw [Option.map_eq_some_iff] at i1 ⊢
        obtain ⟨t, h1, h3⟩ := i1
        exact ⟨t, h1, by show shaOf (nodeOf _ t.1) = _; rw [h3, ht]⟩
    · match l, hp with
      | [p0], hp =>
        obtain rfl : i = 0 := by simpa using hi
        obtain rfl : n = 1 := by simpa using hl.symm
        obtain rfl : p0 = p := by simpa using hp
        rw [pth_small (by simp), lead_nil, if_pos (by simp)]
        rfl
      | p0 :: q :: r, _ => simp at hl; omega
      | [], hp => simp at hp
/-- what leads to a tree is at its place, if no two texts that are hashed have one hash -/
theorem lead_is (L : List (List UInt8)) (hL : Apart L) (p : KV) (hp : p.1.size ≤ 200 ∧ p.2.size ≤ 200) (hpL : leafOf p ∈ L) : ∀ (n : Nat) (l : List KV) (q : List (List UInt8)) (i : Int) (T : List (List UInt8)), l.length = n → n < 2 ^ 63 → Short l → (∀ x ∈ texts l, x ∈ L) → (∀ x ∈ T, x ∈ L) →
    lead (shaOf (leafOf p)) q i n = some (tree l, T) → 0 ≤ i ∧ l[i.toNat]? = some p := by
  intro n
  induction n using Nat.strongRecOn with
  | _ n ih =>
    intro l q i T hl h63 sl il iT h
    induction q using snocInd with
    | h0 =>
      rw [lead_nil] at h
      split at h
      · rename_i hc
        obtain ⟨c1, c2, c3⟩ := hc
        match l, hl with
        | [p0], _ =>
          simp only [Option.some.injEq, Prod.mk.injEq] at h
          rw [tree_one] at h
          have hx := hL _ hpL _ (il _ (by rw [texts_one]; simp)) h.1
          have k2 := sl p0 (by simp)
          obtain rfl : i = 0 := by omega
          exact ⟨by omega, by rw [leafOf_inj hp.1 hp.2 k2.1 k2.2 hx]; rfl⟩
        | [], hl => simp at hl; omega
        | _ :: _ :: _, hl => simp at hl; omega
      · cases h
    | h1 q x _ =>
      rw [lead_snoc] at h
      split at h
      · rename_i hc
        obtain ⟨c1, c2, c3⟩ := hc
        have h2 : 2 ≤ n := by omega
        rw [Int.toNat_natCast] at h
        obtain ⟨s1, s2, s3⟩ := spl_pos h2 (by omega)
        have t1 := tree_two l (by omega) (by omega)
        have x1 := texts_two l (by omega) (by omega)
        rw [hl] at t1 x1
        have e1 : (l.take (spl n)).length = spl n := by rw [List.length_take]; omega
        have e2 : (l.drop (spl n)).length = n - spl n := by rw [List.length_drop, hl]
        have l1 : (tree (l.take (spl n))).length = 32 := tree_len _ (by intro e; rw [e] at e1; simp at e1; omega) (by omega)
        have l2 : (tree (l.drop (spl n))).length = 32 := tree_len _ (by intro e; rw [e] at e2; simp at e2; omega) (by omega)
        have hN : nodeOf (tree (l.take (spl n))) (tree (l.drop (spl n))) ∈ L := il _ (by rw [x1]; simp)
        split at h
        · rename_i hlt
          rw [Option.map_eq_some_iff] at h
          obtain ⟨t, ht, he⟩ := h
          simp only [Prod.mk.injEq] at he
          obtain ⟨he1, he2⟩ := he
          rw [t1] at he1
          have hx := hL _ (iT _ (by rw [← he2]; simp)) _ hN he1
          simp only [nodeOf, List.cons.injEq, true_and] at hx
          have tl := lead_len (shaOf_len _) q _ _ t ht
          obtain ⟨y1, y2⟩ := List.append_inj hx (by rw [l1, tl])
          obtain ⟨t1', T'⟩ := t
          simp only at y1 he2 ht
          subst y1
          obtain ⟨g2, g3⟩ := ih (spl n) s2 (l.take (spl n)) q i T' e1 (by omega) (fun p hp => sl p (List.mem_of_mem_take hp)) (fun x hx => il x (by rw [x1]; simp [hx])) (fun x hx => iT x (by rw [← he2]; simp [hx])) ht
          rw [List.getElem?_take_of_lt (by omega)] at g3
          exact ⟨g2, g3⟩
        · rename_i hlt
          rw [Option.map_eq_some_iff] at h
          obtain ⟨t, ht, he⟩ := h
          simp only [Prod.mk.injEq] at he
          obtain ⟨he1, he2⟩ := he
          rw [t1] at he1
          have hx := hL _ (iT _ (by rw [← he2]; simp)) _ hN he1
          simp only [nodeOf, List.cons.injEq, true_and] at hx
          have tl := lead_len (shaOf_len _) q _ _ t ht
          obtain ⟨y1, y2⟩ := List.append_inj' hx (by rw [l2, tl])
          obtain ⟨t1', T'⟩ := t
          simp only at y2 he2 ht
          subst y2
          rw [show (n : Int) - (spl n : Nat) = ((n - spl n : Nat) : Int) by omega] at ht
          obtain ⟨g2, g3⟩ := ih (n - spl n) (by omega) (l.drop (spl n)) q _ T' e2 (by omega) (fun p hp => sl p (List.mem_of_mem_drop hp)) (fun x hx => il x (by rw [x1]; simp [hx])) (fun x hx => iT x (by rw [← he2]; simp [hx])) ht
          rw [List.getElem?_drop, show spl n + (i - (spl n : Nat)).toNat = i.toNat by omega] at g3
          exact ⟨by omega, g3⟩
      · cases h

/-! ### Does a pair lead to a root -/
def reach (root : List UInt8) (p : KV) (q : List (List UInt8)) (i n : Int) : Bool :=
  match lead (shaOf (leafOf p)) q i n with
  | some t => decide (shaOf (topOf n t.1) = root)
  | none => false
/-- all that is hashed on the way to a root -/
def reachTexts (p : KV) (q : List (List UInt8)) (i n : Int) : List (List UInt8) :=
  match lead (shaOf (leafOf p)) q i n with
  | some t => [leafOf p] ++ t.2 ++ [topOf n t.1]
  | none => []
theorem reach_some {root : List UInt8} {p : KV} {q : List (List UInt8)} {i n : Int} {t : List UInt8 × List (List UInt8)} (h : lead (shaOf (leafOf p)) q i n = some t) : reach root p q i n = decide (shaOf (topOf n t.1) = root) := by unfold reach; rw [h]
theorem reach_none {root : List UInt8} {p : KV} {q : List (List UInt8)} {i n : Int} (h : lead (shaOf (leafOf p)) q i n = none) : reach root p q i n = false := by unfold reach; rw [h]
theorem reachTexts_some {p : KV} {q : List (List UInt8)} {i n : Int} {t : List UInt8 × List (List UInt8)} (h : lead (shaOf (leafOf p)) q i n = some t) : reachTexts p q i n = [leafOf p] ++ t.2 ++ [topOf n t.1] := by unfold reachTexts; rw [h]
theorem reach_pth {l : List KV} {i : Nat} {p : KV} (hp : l[i]? = some p) (h63 : l.length < 2 ^ 63) : reach (rootOf l) p (pth l i) i l.length = true := by
  have h := lead_pth p _ l i hp rfl h63
  rw [Option.map_eq_some_iff] at h
  obtain ⟨t, h1, h2⟩ := h
  rw [reach_some h1, h2]
  exact decide_eq_true rfl
/-- equal tops are tops of equal numbers and trees -/
theorem top_is {n : Int} {t : List UInt8} {l : List KV} (hn : t.length = 32 ∨ n = 0 ∧ t = []) (hl : l.length ≤ 200) (h : topOf n t = topOf l.length (tree l)) : n = l.length ∧ t = tree l := by
  have e : ∀ k : Nat, k ≤ 9007199254740992 → (encNum k).1 = num k := fun k hk => by
    unfold encNum
    rw [if_pos ⟨by omega, by omega⟩, Int.toNat_natCast]
  simp only [topOf, List.cons.injEq, true_and] at h
  rw [e l.length (by omega)] at h
  by_cases hb : 0 ≤ n ∧ n ≤ 9007199254740992
  · obtain ⟨k, rfl⟩ := Int.eq_ofNat_of_zero_le hb.1
    rw [e k (by omega)] at h
    obtain ⟨h1, h2⟩ := num_inj (by omega) (by omega) h
    exact ⟨by rw [h1], h2⟩
  · have e0 : (encNum n).1 = [] := by unfold encNum; rw [if_neg hb]
    rw [e0, List.nil_append] at h
    rcases hn with hn | ⟨rfl, _⟩
    · have h1 := congrArg List.length h
      rw [List.length_append, num_len, hn] at h1
      by_cases hz : l = []
      · subst hz
        rw [tree_nil] at h1
        have := be_len_le 0 0 (by decide)
        simp at h1
        omega
      · rw [tree_len l hz (by omega)] at h1
        omega
    · exact absurd ⟨by omega, by omega⟩ hb
theorem reach_is (L : List (List UInt8)) (hL : Apart L) {l : List KV} {p : KV} {q : List (List UInt8)} {i n : Int} (hl : l.length ≤ 200) (sl : Short l) (hp : p.1.size ≤ 200 ∧ p.2.size ≤ 200) (il : ∀ x ∈ allOf l, x ∈ L) (ip : ∀ x ∈ reachTexts p q i n, x ∈ L)
    (h : reach (rootOf l) p q i n = true) : n = l.length ∧ 0 ≤ i ∧ l[i.toNat]? = some p := by
  cases ht : lead (shaOf (leafOf p)) q i n with
  | none => rw [reach_none ht] at h; cases h
  | some t =>
    rw [reach_some ht, decide_eq_true_eq] at h
    rw [reachTexts_some ht] at ip
    have hx := hL _ (ip _ (by simp)) _ (il _ (by simp [allOf])) h
    obtain ⟨rfl, h2⟩ := top_is (.inl (lead_len (shaOf_len _) q _ _ t ht)) hl hx
    obtain ⟨t1, T⟩ := t
    simp only at h2
    subst h2
    exact ⟨rfl, lead_is L hL p hp (ip _ (by simp)) l.length l q i T rfl (by omega) sl (fun x hx => il x (by simp [allOf, hx])) (fun x hx => ip x (by simp [hx])) ht⟩
end Go.Proofs.YtkinnlfjcmhcoaaDoor.W
/-
  bigEndian and decodeNum: what they answer, for every string.
-/
namespace Go.Proofs.YtkinnlfjcmhcoaaDoor.W
open Go.RowKit

theorem or_i64 (a b : Nat) (ha : a < 4611686018427387904) (hb : b < 4611686018427387904) : bits .or .i64 (a : Int) (b : Int) = ((a ||| b : Nat) : Int) := by
  have hx : a ||| b < 2 ^ 62 := Nat.or_lt_two_pow (by omega) (by omega)
  have h1 : (BitVec.ofInt 64 (a : Int)).toNat = a := by
    rw [BitVec.ofInt_natCast, BitVec.toNat_ofNat]; exact Nat.mod_eq_of_lt (by omega)
  have h2 : (BitVec.ofInt 64 (b : Int)).toNat = b := by
    rw [BitVec.ofInt_natCast, BitVec.toNat_ofNat]; exact Nat.mod_eq_of_lt (by omega)
  show IntKind.i64.wrap ((BitVec.ofInt 64 (a : Int) ||| BitVec.ofInt 64 (b : Int)).toNat : Int) = _
  rw [BitVec.toNat_or, h1, h2, IntKind.wrap_i64]
  omega
theorem or_byte (m : Nat) (b : UInt8) (hm : m < 281474976710656) : bits .or .i64 ((m : Int) * 256) (wrap64 (b.toNat : Int)) = ((m * 256 + b.toNat : Nat) : Int) := by
  have hb := b.toNat_lt
  rw [show (m : Int) * 256 = ((m * 256 : Nat) : Int) by omega, show wrap64 (b.toNat : Int) = (b.toNat : Int) by simp only [wrap64]; omega,
    or_i64 _ _ (by omega) (by omega), nat_join8 _ _ (by omega) (by omega)]
theorem or_byte0 (b : UInt8) : bits .or .i64 0 (wrap64 (b.toNat : Int)) = ((b.toNat : Nat) : Int) := by
  have h := or_byte 0 b (by omega)
  simpa using h
theorem val_take (d : ByteArray) (k : Nat) (h : k < d.size) : val (d.data.toList.take (k + 1)) = val (d.data.toList.take k) * 256 + d[k].toNat := by
  rw [List.take_succ_eq_append_getElem (by rw [size_list]; exact h), val_snoc]
  rfl
theorem val_bound (d : ByteArray) (k : Nat) (hk : k < 7) : val (d.data.toList.take k) < 281474976710656 := by
  refine Nat.lt_of_lt_of_le (val_lt _) ?_
  have : (d.data.toList.take k).length ≤ 6 := by rw [List.length_take]; omega
  exact Nat.le_trans (Nat.pow_le_pow_right (by decide) this) (by decide)
set_option maxHeartbeats 1000000 in
set_option maxRecDepth 1000000 in
theorem bigEndian (d : ByteArray) (w : World) (hd : d.size ≤ 7) :
    Calls Tryd.prog 93 #[.string d] w fun e w' => e = .returned (.int .i64 (val d.data.toList)) ∧ w = w' := by
  go_enter Tryd.func93, Tryd.ntmps93
  go_wp2
  refine wp_scope_jumps 0 (fun a' w' => w' = w ∧ ∃ (k : Nat) (u5 u6 u7 u8 u9 u10 u11 u12 u13 u14 u15 u16 u17 u18 : Value), a' = { tmps := #[.string d, undef, .int .i64 0, .int .i64 (val (d.data.toList.take k)), .int .i64 k, u5, u6, u7, u8, u9, u10, u11, u12, u13, u14, u15, u16, u17, u18], defers := [] } ∧ k ≤ d.size) (fun a' _ => d.size - (intOf (a'.tmps.getD 4 undef)).toNat) rfl ?_ ?_
  · by_cases h0 : 0 < d.size
    · have hv := val_take d 0 h0
      rw [List.take_zero, val_nil, Nat.zero_mul, Nat.zero_add] at hv
      rw [Nat.zero_add] at hv
      have HV := Lib.hid hv
      clear hv
      go_wp2
      go_step3
      go_wp2
      go_step3
      rw [or_byte0 d[0], ← HV.out]
      exact ⟨rfl, rfl, 1, _, _, _, _, _, _, _, _, _, _, _, _, _, _, rfl, by omega⟩
    · go_wp2
      go_step3
      go_wp2
      simp only [Exit.jump]
      go_ret
      refine ⟨?_, rfl⟩
      have e : d.data.toList = [] := List.eq_nil_of_length_eq_zero (by rw [size_list]; omega)
      rw [e]
      rfl
  · rintro a' w' ⟨rfl, k, u5, u6, u7, u8, u9, u10, u11, u12, u13, u14, u15, u16, u17, u18, rfl, hk⟩
    by_cases hlt : k < d.size
    · have hv := val_bound d k (by omega)
      have HV := Lib.hid (val_take d k hlt)
      generalize val (d.data.toList.take k) = m at *
      go_wp2
      go_step3
      rw [or_byte m d[k] hv, ← HV.out]
      refine ⟨rfl, ⟨rfl, k + 1, _, _, _, _, _, _, _, _, _, _, _, _, _, _, rfl, by omega⟩, ?_⟩
      simp [intOf]
      omega
    · obtain rfl : k = d.size := by omega
      rw [show d.data.toList.take d.size = d.data.toList from List.take_of_length_le (by rw [size_list]; omega)]
      go_wp2
      simp only [Exit.jump]
      go_ret
      exact ⟨rfl, rfl⟩

def dec : List UInt8 → Nat × Nat × Int
  | [] => (0, 0, 5)
  | k :: d =>
    if 7 < k.toNat then (0, 0, 6) else if 0 < k.toNat ∧ d.head? = some 0 then (0, 0, 6) else if d.length < k.toNat then (0, 0, 5)
    else if 9007199254740992 < val (d.take k.toNat) then (0, 0, 3) else (val (d.take k.toNat), 1 + k.toNat, 0)
def retDec (p : Nat × Nat × Int) : Value := .tuple #[.int .i64 p.1, .int .i64 p.2.1, .int .i64 p.2.2]

theorem empty_of (s : ByteArray) (h : s.size = 0) : s.toList.isEmpty = true := by
  rw [ByteArray.toList_eq, List.isEmpty_iff]
  exact List.eq_nil_of_length_eq_zero (by rw [size_list]; exact h)
theorem nonempty_of (s : ByteArray) (h : 0 < s.size) : s.toList.isEmpty = false := by
  rw [ByteArray.toList_eq, Bool.eq_false_iff]
  intro e
  rw [List.isEmpty_iff] at e
  have := size_list s
  rw [e] at this
  simp at this
  omega
theorem ex_list (s : ByteArray) (a b : Nat) : (s.extract a b).data.toList = (s.data.toList.drop a).take (b - a) := by
  have h := ByteArray.extract_mk s.data.toList a b
  have e : s = ByteArray.mk s.data.toList.toArray := by cases s; simp
  conv => lhs; rw [e]
  rw [h]
theorem ex_size (s : ByteArray) : (s.extract 1 s.size).size = s.size - 1 := by
  rw [← size_list, ex_list, List.length_take, List.length_drop, size_list]; omega
theorem cons_of (s : ByteArray) (h : 0 < s.size) : s.data.toList = s[0] :: (s.extract 1 s.size).data.toList := by
  rw [ex_list, List.take_of_length_le (by rw [List.length_drop, size_list]; omega), List.drop_one]
  have hne : s.data.toList ≠ [] := by intro e; have := size_list s; rw [e] at this; simp at this; omega
  have e : s[0] = s.data.toList.head hne := by rw [List.head_eq_getElem]; rfl
  rw [e, List.cons_head_tail]
theorem head_of (d : ByteArray) (h : 0 < d.size) : d.data.toList.head? = some d[0] := by rw [cons_of d h]; rfl
theorem take_of (d : ByteArray) (k : Nat) : (d.extract 0 k).data.toList = d.data.toList.take k := by rw [ex_list]; simp

section
variable {s : ByteArray} (h0 : 0 < s.size)
include h0
theorem dec_big (h : 7 < s[0].toNat) : dec s.data.toList = (0, 0, 6) := by
  rw [cons_of s h0, dec, if_pos h]
theorem dec_form (h : ¬ 7 < s[0].toNat) (h1 : 0 < s[0].toNat) (h2 : 0 < (s.extract 1 s.size).size) (h3 : (s.extract 1 s.size)[0].toNat = 0) : dec s.data.toList = (0, 0, 6) := by
  rw [cons_of s h0, dec, if_neg h, if_pos]
  refine ⟨h1, ?_⟩
  rw [head_of _ h2]
  exact congrArg some (UInt8.toNat_inj.1 (by simpa using h3))
theorem dec_tail (h : ¬ 7 < s[0].toNat) (h1 : 0 < s[0].toNat → ∀ h2 : 0 < (s.extract 1 s.size).size, (s.extract 1 s.size)[0].toNat ≠ 0) :
    dec s.data.toList = if s.size - 1 < s[0].toNat then (0, 0, (5 : Int)) else if 9007199254740992 < val ((s.extract 1 s.size).extract 0 s[0].toNat).data.toList then (0, 0, (3 : Int)) else (val ((s.extract 1 s.size).extract 0 s[0].toNat).data.toList, 1 + s[0].toNat, (0 : Int)) := by
  rw [cons_of s h0, dec, if_neg h, if_neg, size_list, ex_size, take_of]
  rintro ⟨h2, h3⟩
  by_cases hp : 0 < (s.extract 1 s.size).size
  · rw [head_of _ hp] at h3
    refine h1 h2 hp ?_
    rw [Option.some.inj h3]
    rfl
  · rw [List.eq_nil_of_length_eq_zero (show (s.extract 1 s.size).data.toList.length = 0 by rw [size_list]; omega)] at h3
    cases h3
end

theorem ret_dec {a : Nat × Nat × Int} {b : Nat × Nat × Int} (h : a = b) : Ending.returned (retDec b) = Ending.returned (retDec a) := by rw [h]

set_option maxHeartbeats 2000000 in
/-- the ways that come to the call of bigEndian, or lack bytes -/
theorem decodeNum_tail (s : ByteArray) (w : World) (hm : s.size ≤ 9223372036854775807) (h0 : 0 < s.size) (h7 : ¬ 7 < s[0].toNat)
    (h1 : 0 < s[0].toNat → ∀ h2 : 0 < (s.extract 1 s.size).size, (s.extract 1 s.size)[0].toNat ≠ 0) :
    Calls Tryd.prog 82 #[.string s] w fun e w' => e = .returned (retDec (dec s.data.toList)) ∧ Below w.heap.size w w' := by
  have hE := nonempty_of s h0
  have hk := s[0].toNat_lt
  have HX := Lib.hid (ex_size s)
  have HD := Lib.hid (dec_tail h0 h7 h1)
  by_cases hc : s.size - 1 < s[0].toNat
  · have HD2 := Lib.hid (show dec s.data.toList = (0, 0, (5 : Int)) by rw [HD.out, if_pos hc])
    clear HD
    by_cases hp : 0 < (s.extract 1 s.size).size
    · have hne := nonempty_of _ hp
      have hne2 : ¬ (s.extract 1 s.size).toList = [] := by intro e; rw [e] at hne; cases hne
      have hz : ((((s.extract 1 s.size)[0]'hp).toNat : Int) == 0) = false := beq_eq_false_iff_ne.2 (by have := h1 (by omega) hp; omega)
      have hs1 : 0 < s.size - 1 := by have := HX.out; omega
      clear h1
      go_enter Tryd.func82, Tryd.ntmps82
      go_wp2
      go_quiet (fail)
      go_wp2
      go_ret3
      exact ⟨ret_dec HD2.out, quiet_below _ _⟩
    · have hne := empty_of (s.extract 1 s.size) (by omega)
      have hne2 : (s.extract 1 s.size).toList = [] := by rwa [List.isEmpty_iff] at hne
      clear h1
      go_enter Tryd.func82, Tryd.ntmps82
      go_wp2
      go_quiet (fail)
      go_wp2
      go_ret3
      exact ⟨ret_dec HD2.out, quiet_below _ _⟩
  · have HD2 := Lib.hid (HD.out.trans (if_neg hc))
    clear HD
    have hsz : ((s.extract 1 s.size).extract 0 s[0].toNat).size ≤ 7 := by
      rw [← size_list, take_of, List.length_take]; omega
    have HB := Lib.hid (fun W => bigEndian ((s.extract 1 s.size).extract 0 s[0].toNat) W hsz)
    by_cases hz0 : 0 < s[0].toNat
    · have hp : 0 < (s.extract 1 s.size).size := by have := HX.out; omega
      have hne := nonempty_of _ hp
      have hne2 : ¬ (s.extract 1 s.size).toList = [] := by intro e; rw [e] at hne; cases hne
      have hz : ((((s.extract 1 s.size)[0]'hp).toNat : Int) == 0) = false := beq_eq_false_iff_ne.2 (by have := h1 (by omega) hp; omega)
      have hs1 : 0 < s.size - 1 := by have := HX.out; omega
      clear h1 hsz
      go_enter Tryd.func82, Tryd.ntmps82
      go_wp2
      go_quiet (fail)
      go_wp2_with fail
      refine (HB.out _).mono ?_
      rintro e w' ⟨rfl, rfl⟩
      generalize val ((s.extract 1 s.size).extract 0 s[0].toNat).data.toList = m at *
      by_cases hr : 9007199254740992 < m
      · go_wp2
        go_ret3
        exact ⟨ret_dec (HD2.out.trans (if_pos hr)), quiet_below _ _⟩
      · go_wp2
        go_ret3
        exact ⟨ret_dec (HD2.out.trans (if_neg hr)), quiet_below _ _⟩
    · clear h1 hsz
      go_enter Tryd.func82, Tryd.ntmps82
      go_wp2
      go_quiet (fail)
      go_wp2_with fail
      refine (HB.out _).mono ?_
      rintro e w' ⟨rfl, rfl⟩
      generalize val ((s.extract 1 s.size).extract 0 s[0].toNat).data.toList = m at *
      by_cases hr : 9007199254740992 < m
      · go_wp2
        go_ret3
        exact ⟨ret_dec (HD2.out.trans (if_pos hr)), quiet_below _ _⟩
      · go_wp2
        go_ret3
        exact ⟨ret_dec (HD2.out.trans (if_neg hr)), quiet_below _ _⟩

set_option maxHeartbeats 2000000 in
theorem decodeNum (s : ByteArray) (w : World) (hm : s.size ≤ 9223372036854775807) :
    Calls Tryd.prog 82 #[.string s] w fun e w' => e = .returned (retDec (dec s.data.toList)) ∧ Below w.heap.size w w' := by
  by_cases h0 : 0 < s.size
  · have hE := nonempty_of s h0
    have hk := s[0].toNat_lt
    have hxs := ex_size s
    by_cases h7 : 7 < s[0].toNat
    · have HD := Lib.hid (dec_big h0 h7)
      clear hxs
      go_enter Tryd.func82, Tryd.ntmps82
      go_wp2
      go_quiet (fail)
      go_wp2
      go_ret3
      exact ⟨ret_dec HD.out, quiet_below _ _⟩
    · by_cases hf : 0 < s[0].toNat ∧ ∃ h2 : 0 < (s.extract 1 s.size).size, (s.extract 1 s.size)[0].toNat = 0
      · obtain ⟨hz0, hp, hz⟩ := hf
        have HD := Lib.hid (dec_form h0 h7 hz0 hp hz)
        have hne := nonempty_of _ hp
        have hne2 : ¬ (s.extract 1 s.size).toList = [] := by intro e; rw [e] at hne; cases hne
        have hz2 : ((((s.extract 1 s.size)[0]'hp).toNat : Int) == 0) = true := beq_iff_eq.2 (by omega)
        have hs1 : 0 < s.size - 1 := by omega
        clear hz hxs
        go_enter Tryd.func82, Tryd.ntmps82
        go_wp2
        go_quiet (fail)
        go_wp2
        go_ret3
        exact ⟨ret_dec HD.out, quiet_below _ _⟩
      · exact decodeNum_tail s w hm h0 h7 (fun a b c => hf ⟨a, b, c⟩)
  · have hE := empty_of s (by omega)
    have HD := Lib.hid (show dec s.data.toList = (0, 0, 5) by rw [List.eq_nil_of_length_eq_zero (show s.data.toList.length = 0 by rw [size_list]; omega)]; rfl)
    go_enter Tryd.func82, Tryd.ntmps82
    go_wp2
    go_ret3
    exact ⟨by rw [HD.out]; rfl, Below.refl _ _⟩
end Go.Proofs.YtkinnlfjcmhcoaaDoor.W
/-
  A slice of strings, as a list of strings; a block that is known whole; only one block has turned.
-/
namespace Go.Proofs.YtkinnlfjcmhcoaaDoor.W
open Go.RowKit

/-- the slice value v reads as the strings ss, in memory below block B -/
def Txs (w : World) (B : Nat) (v : Value) (ss : List ByteArray) : Prop :=
  ∃ A cap, v = .slice A ss.length cap ∧ ∀ i (h : i < ss.length), ∃ b off, A = some ⟨b, off, none⟩ ∧ b < B ∧ w.cell? ⟨b, off + i, none⟩ = some (.string ss[i])
theorem Txs.below {w w' : World} {B : Nat} {v : Value} {ss : List ByteArray} (h : Txs w B v ss) (hb : Below B w w') : Txs w' B v ss := by
  obtain ⟨A, cap, rfl, hc⟩ := h
  refine ⟨A, cap, rfl, fun i hi => ?_⟩
  obtain ⟨b, off, ha, hlt, hcell⟩ := hc i hi
  exact ⟨b, off, ha, hlt, (hb.cell (p := ⟨b, off + i, none⟩) hlt).trans hcell⟩
theorem Txs.moved {w w' : World} {B : Nat} {v : Value} {ss : List ByteArray} (h : Txs w B v ss) (hb : ∀ g, v.ownBlock = some g → w'.heap[g]? = w.heap[g]?) : Txs w' B v ss := by
  obtain ⟨A, cap, rfl, hc⟩ := h
  refine ⟨A, cap, rfl, fun i hi => ?_⟩
  obtain ⟨b, off, rfl, hlt, hcell⟩ := hc i hi
  exact ⟨b, off, rfl, hlt, (World.cell?_of_block (w := w) (hb b rfl)).trans hcell⟩
theorem Txs.more {w : World} {B B' : Nat} {v : Value} {ss : List ByteArray} (h : Txs w B v ss) (hb : B ≤ B') : Txs w B' v ss := by
  obtain ⟨A, cap, rfl, hc⟩ := h
  refine ⟨A, cap, rfl, fun i hi => ?_⟩
  obtain ⟨b, off, ha, hlt, hcell⟩ := hc i hi
  exact ⟨b, off, ha, by omega, hcell⟩
theorem Txs.nil (w : World) (B cap : Nat) (A : Option Addr) : Txs w B (.slice A 0 cap) [] := ⟨A, cap, rfl, fun i h => absurd h (by simp)⟩
end Go.Proofs.YtkinnlfjcmhcoaaDoor.W
/-
  What a reader's state becomes, and a block of memory that is known whole. No program is named here but for the number of a type.
-/
namespace Go.Proofs.YtkinnlfjcmhcoaaDoor.W
open Go.RowKit

/-- the reader at block b holds the bytes s and the error e -/
def RdAt (w : World) (b : Nat) (s : ByteArray) (e : Int) : Prop := Blk w b 129 #[.string s, .int .i64 e]

/-- a number is read -/
def stNum (s : ByteArray) (e : Int) : (ByteArray × Int) × Nat :=
  if e ≠ 0 then ((s, e), 0) else if (dec s.data.toList).2.2 ≠ 0 then ((s, (dec s.data.toList).2.2), 0) else ((s.extract (dec s.data.toList).2.1 s.size, 0), (dec s.data.toList).1)
/-- a length is read -/
def stLen (s : ByteArray) (e : Int) (most : Nat) : (ByteArray × Int) × Nat :=
  if most < (stNum s e).2 then (((stNum s e).1.1, 4), 0) else stNum s e
def stText (s : ByteArray) (e : Int) : (ByteArray × Int) × ByteArray :=
  let r := stLen s e 65536
  if r.1.2 ≠ 0 then (r.1, .empty) else if r.1.1.size < r.2 then ((r.1.1, 5), .empty) else ((r.1.1.extract r.2 r.1.1.size, 0), r.1.1.extract 0 r.2)
def listFrom : Nat → ByteArray → List ByteArray → (ByteArray × Int) × List ByteArray
  | 0, s, acc => ((s, 0), acc)
  | k + 1, s, acc => if (stText s 0).1.2 ≠ 0 then ((stText s 0).1, []) else listFrom k (stText s 0).1.1 (acc ++ [(stText s 0).2])
def stList (s : ByteArray) (e : Int) : (ByteArray × Int) × List ByteArray :=
  let r := stLen s e 256
  if r.1.2 ≠ 0 then (r.1, []) else listFrom r.2 r.1.1 []
def stDone (s : ByteArray) (e : Int) : Int := if e ≠ 0 then e else if s.size = 0 then 0 else 6

/-- facts on what is decoded -/
theorem dec_facts (l : List UInt8) : (dec l).1 ≤ 9007199254740992 ∧ (dec l).2.1 ≤ l.length ∧ ((dec l).2.2 = 0 ∨ (dec l).2.2 = 3 ∨ (dec l).2.2 = 5 ∨ (dec l).2.2 = 6) := by
  cases l with
  | nil => simp [dec]
  | cons k d =>
    rw [dec]
    by_cases h1 : 7 < k.toNat
    · rw [if_pos h1]; simp
    · rw [if_neg h1]
      by_cases h2 : 0 < k.toNat ∧ d.head? = some 0
      · rw [if_pos h2]; simp
      · rw [if_neg h2]
        by_cases h3 : d.length < k.toNat
        · rw [if_pos h3]; simp
        · rw [if_neg h3]
          by_cases h4 : 9007199254740992 < val (d.take k.toNat)
          · rw [if_pos h4]; simp
          · rw [if_neg h4]
            refine ⟨by simp only; omega, ?_, by simp⟩
            simp only [List.length_cons]
            omega
theorem stNum_facts (s : ByteArray) (e : Int) : (stNum s e).2 ≤ 9007199254740992 ∧ (stNum s e).1.1.size ≤ s.size ∧ ((stNum s e).1.2 ≠ 0 → (stNum s e).2 = 0) := by
  have hf := dec_facts s.data.toList
  unfold stNum
  split
  · simp
  · split
    · simp
    · refine ⟨hf.1, ?_, by simp⟩
      simp only [← size_list, ex_list, List.length_take, List.length_drop]
      omega
theorem stNum_err (s : ByteArray) {e : Int} (h : e ≠ 0) : stNum s e = ((s, e), 0) := by simp [stNum, h]
theorem stLen_err (s : ByteArray) {e : Int} (h : e ≠ 0) (m : Nat) : stLen s e m = ((s, e), 0) := by simp [stLen, stNum_err s h]
theorem stText_err (s : ByteArray) {e : Int} (h : e ≠ 0) : stText s e = ((s, e), .empty) := by simp [stText, stLen_err s h, h]
theorem stList_err (s : ByteArray) {e : Int} (h : e ≠ 0) : stList s e = ((s, e), []) := by simp [stList, stLen_err s h, h]
theorem stLen_facts (s : ByteArray) (e : Int) (m : Nat) : (stLen s e m).2 ≤ m ∧ (stLen s e m).1.1.size ≤ s.size := by
  have hf := stNum_facts s e
  unfold stLen
  split
  · exact ⟨Nat.zero_le _, hf.2.1⟩
  · exact ⟨by omega, hf.2.1⟩
theorem stLen_zero (s : ByteArray) (e : Int) (m : Nat) (h : (stLen s e m).1.2 ≠ 0) : (stLen s e m).2 = 0 := by
  have hf := stNum_facts s e
  unfold stLen at h ⊢
  split
  · rfl
  · next hm => rw [if_neg hm] at h; exact hf.2.2 h
theorem stText_facts (s : ByteArray) (e : Int) : (stText s e).1.1.size ≤ s.size ∧ (stText s e).2.size ≤ 65536 := by
  have hf := stLen_facts s e 65536
  unfold stText
  simp only
  split
  · exact ⟨hf.2, by simp [ByteArray.size]⟩
  · split
    · exact ⟨hf.2, by simp [ByteArray.size]⟩
    · simp only [← size_list, ex_list, List.length_take, List.length_drop]
      rw [size_list]
      have h2 := hf.2
      rw [size_list]
      omega
end Go.Proofs.YtkinnlfjcmhcoaaDoor.W
