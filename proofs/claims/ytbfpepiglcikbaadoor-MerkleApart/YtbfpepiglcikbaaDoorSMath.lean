/-
  SHA-256 over plain numbers: words, the schedule, the rounds, the padding. No program is named here.
-/
import Derived.Test.YtbfpepiglcikbaaDoorCMath
namespace Go.Proofs.YtbfpepiglcikbaaDoor.W

/-! words of 32 bits, as numbers -/
def wadd (a b : Nat) : Nat := (a + b) % 4294967296
def wxor (a b : Nat) : Nat := (a ^^^ b) % 4294967296
def wand (a b : Nat) : Nat := (a &&& b) % 4294967296
def wor (a b : Nat) : Nat := (a ||| b) % 4294967296
def wnot (a : Nat) : Nat := (4294967295 ^^^ a) % 4294967296
def wshl (a n : Nat) : Nat := (a * 2 ^ n) % 4294967296
def wshr (a n : Nat) : Nat := a / 2 ^ n
def rotr (a n : Nat) : Nat := wor (wshl a (32 - n)) (wshr a n)
def sg0 (x : Nat) : Nat := wxor (wxor (rotr x 7) (rotr x 18)) (wshr x 3)
def sg1 (x : Nat) : Nat := wxor (wxor (rotr x 17) (rotr x 19)) (wshr x 10)
def SG1 (e : Nat) : Nat := wxor (wxor (rotr e 6) (rotr e 11)) (rotr e 25)
def SG0 (a : Nat) : Nat := wxor (wxor (rotr a 2) (rotr a 13)) (rotr a 22)
def ch (e f g : Nat) : Nat := wxor (wand e f) (wand (wnot e) g)
def maj (a b c : Nat) : Nat := wxor (wxor (wand a b) (wand a c)) (wand b c)

theorem wadd_lt (a b : Nat) : wadd a b < 4294967296 := Nat.mod_lt _ (by decide)
theorem wxor_lt (a b : Nat) : wxor a b < 4294967296 := Nat.mod_lt _ (by decide)
theorem wand_lt (a b : Nat) : wand a b < 4294967296 := Nat.mod_lt _ (by decide)
theorem wor_lt (a b : Nat) : wor a b < 4294967296 := Nat.mod_lt _ (by decide)
theorem wnot_lt (a : Nat) : wnot a < 4294967296 := Nat.mod_lt _ (by decide)
theorem wshl_lt (a n : Nat) : wshl a n < 4294967296 := Nat.mod_lt _ (by decide)
theorem wadd_comm (a b : Nat) : wadd a b = wadd b a := by unfold wadd; rw [Nat.add_comm]
theorem wadd_assoc (a b c : Nat) : wadd (wadd a b) c = wadd a (wadd b c) := by unfold wadd; omega
theorem wor_comm (a b : Nat) : wor a b = wor b a := by unfold wor; rw [Nat.or_comm]
theorem wor_zero (a : Nat) (h : a < 4294967296) : wor a 0 = a := by unfold wor; rw [Nat.or_zero]; exact Nat.mod_eq_of_lt h
theorem wadd4 (a b c d : Nat) : wadd (wadd (wadd d b) c) a = wadd (wadd (wadd a b) c) d := by unfold wadd; omega

/-! lists of words -/
def nth (l : List Nat) (i : Nat) : Nat := l.getD i 0
theorem nth_lt (l : List Nat) (i : Nat) (h : i < l.length) : l[i]? = some (nth l i) := by
  unfold nth
  rw [List.getD_eq_getElem?_getD, List.getElem?_eq_getElem h, Option.getD_some]
theorem nth_set_same (l : List Nat) (i v : Nat) (h : i < l.length) : nth (l.set i v) i = v := by
  unfold nth
  rw [List.getD_eq_getElem?_getD, List.getElem?_set_self h, Option.getD_some]
theorem nth_set_other (l : List Nat) (i j v : Nat) (h : i ≠ j) : nth (l.set i v) j = nth l j := by
  unfold nth
  rw [List.getD_eq_getElem?_getD, List.getD_eq_getElem?_getD, List.getElem?_set_ne h]
theorem nth_ext {a b : List Nat} (hl : a.length = b.length) (h : ∀ i, i < a.length → nth a i = nth b i) : a = b := by
  apply List.ext_getElem? 
  intro i
  by_cases hi : i < a.length
  · rw [nth_lt a i hi, nth_lt b i (by omega), h i hi]
  · rw [List.getElem?_eq_none (by omega), List.getElem?_eq_none (by omega)]
def byteAt (l : List UInt8) (i : Nat) : Nat := (l.getD i 0).toNat
theorem byteAt_in (s : ByteArray) (i : Nat) (h : i < s.size) : byteAt s.data.toList i = (s[i]).toNat := by
  unfold byteAt
  rw [List.getD_eq_getElem?_getD, List.getElem?_eq_getElem (by simpa using h), Option.getD_some]
  rfl
theorem byteAt_out (s : ByteArray) (i : Nat) (h : s.size ≤ i) : byteAt s.data.toList i = 0 := by
  unfold byteAt
  rw [List.getD_eq_getElem?_getD, List.getElem?_eq_none (by simpa using h), Option.getD_none]
  rfl

/-! the schedule -/
def wordTo (l : List UInt8) (p : Nat) : Nat → Nat
  | 0 => 0
  | k + 1 => wor (wshl (wordTo l p k) 8) (byteAt l (p + k))
theorem wordTo_lt (l : List UInt8) (p k : Nat) : wordTo l p k < 4294967296 := by
  cases k with
  | zero => exact (by decide : 0 < 4294967296)
  | succ k => exact wor_lt _ _
def nextW (ws : List Nat) (t : Nat) : Nat := wadd (wadd (wadd (sg1 (nth ws (t - 2))) (nth ws (t - 7))) (sg0 (nth ws (t - 15)))) (nth ws (t - 16))
def wordNo (l : List UInt8) (ws : List Nat) (t : Nat) : Nat := if t < 16 then wordTo l (4 * t) 4 else nextW ws t
def arr (l : List UInt8) : Nat → List Nat
  | 0 => List.replicate 64 0
  | t + 1 => (arr l t).set t (wordNo l (arr l t) t)
theorem arr_len (l : List UInt8) (t : Nat) : (arr l t).length = 64 := by
  induction t with
  | zero => simp [arr]
  | succ t ih => simp [arr, ih]
theorem arr_low (l : List UInt8) (t : Nat) (h : t < 16) : arr l (t + 1) = (arr l t).set t (wordTo l (4 * t) 4) := by
  show (arr l t).set t (wordNo l (arr l t) t) = _
  unfold wordNo
  rw [if_pos h]
theorem arr_high (l : List UInt8) (t : Nat) (h : 16 ≤ t) : arr l (t + 1) = (arr l t).set t (nextW (arr l t) t) := by
  show (arr l t).set t (wordNo l (arr l t) t) = _
  unfold wordNo
  rw [if_neg (by omega)]
/-- every word of a list of words is below 2^32 -/
def Small (l : List Nat) : Prop := ∀ i, nth l i < 4294967296
theorem Small.set {l : List Nat} (h : Small l) (i v : Nat) (hv : v < 4294967296) : Small (l.set i v) := by
  intro j
  by_cases e : i = j
  · subst e
    by_cases hi : i < l.length
    · rw [nth_set_same l i v hi]; exact hv
    · rw [List.set_eq_of_length_le (by omega)]; exact h i
  · rw [nth_set_other l i j v e]; exact h j
theorem small_zeros (n : Nat) : Small (List.replicate n 0) := by
  intro i
  unfold nth
  rw [List.getD_eq_getElem?_getD, List.getElem?_replicate]
  split <;> simp
theorem arr_small (l : List UInt8) (t : Nat) : Small (arr l t) := by
  induction t with
  | zero => exact small_zeros 64
  | succ t ih =>
    refine ih.set t _ ?_
    unfold wordNo nextW
    split
    · exact wordTo_lt _ _ _
    · exact wadd_lt _ _

/-! the rounds -/
structure Reg where
  (a b c d e f g h : Nat)
deriving DecidableEq
def Reg.list (r : Reg) : List Nat := [r.a, r.b, r.c, r.d, r.e, r.f, r.g, r.h]
def regOf (l : List Nat) : Reg := ⟨nth l 0, nth l 1, nth l 2, nth l 3, nth l 4, nth l 5, nth l 6, nth l 7⟩
theorem regOf_list (r : Reg) : regOf r.list = r := rfl
theorem list_regOf {l : List Nat} (h : l.length = 8) : (regOf l).list = l := by
  match l, h with
  | [a, b, c, d, e, f, g, i], _ => rfl
def kk : List Nat := [
  0x428a2f98, 0x71374491, 0xb5c0fbcf, 0xe9b5dba5, 0x3956c25b, 0x59f111f1, 0x923f82a4, 0xab1c5ed5,
  0xd807aa98, 0x12835b01, 0x243185be, 0x550c7dc3, 0x72be5d74, 0x80deb1fe, 0x9bdc06a7, 0xc19bf174,
  0xe49b69c1, 0xefbe4786, 0x0fc19dc6, 0x240ca1cc, 0x2de92c6f, 0x4a7484aa, 0x5cb0a9dc, 0x76f988da,
  0x983e5152, 0xa831c66d, 0xb00327c8, 0xbf597fc7, 0xc6e00bf3, 0xd5a79147, 0x06ca6351, 0x14292967,
  0x27b70a85, 0x2e1b2138, 0x4d2c6dfc, 0x53380d13, 0x650a7354, 0x766a0abb, 0x81c2c92e, 0x92722c85,
  0xa2bfe8a1, 0xa81a664b, 0xc24b8b70, 0xc76c51a3, 0xd192e819, 0xd6990624, 0xf40e3585, 0x106aa070,
  0x19a4c116, 0x1e376c08, 0x2748774c, 0x34b0bcb5, 0x391c0cb3, 0x4ed8aa4a, 0x5b9cca4f, 0x682e6ff3,
  0x748f82ee, 0x78a5636f, 0x84c87814, 0x8cc70208, 0x90befffa, 0xa4506ceb, 0xbef9a3f7, 0xc67178f2]
def up (k w : Nat) (r : Reg) : Nat := wadd (wadd (wadd (wadd r.h (SG1 r.e)) (ch r.e r.f r.g)) k) w
def down (r : Reg) : Nat := wadd (SG0 r.a) (maj r.a r.b r.c)
def rnd (k w : Nat) (r : Reg) : Reg := ⟨wadd (up k w r) (down r), r.a, r.b, r.c, wadd r.d (up k w r), r.e, r.f, r.g⟩
def rds (ws : List Nat) (r : Reg) : Nat → Reg
  | 0 => r
  | t + 1 => rnd (nth kk t) (nth ws t) (rds ws r t)
/-- the words of the second list added to those of the first, the first i of them -/
def addTo (h v : List Nat) : Nat → List Nat
  | 0 => h
  | i + 1 => (addTo h v i).set i (wadd (nth (addTo h v i) i) (nth v i))
theorem addTo_len (h v : List Nat) (i : Nat) : (addTo h v i).length = h.length := by
  induction i with
  | zero => rfl
  | succ i ih => simp [addTo, ih]
theorem addTo_at (h v : List Nat) (i j : Nat) (hj : j < h.length) : nth (addTo h v i) j = if j < i then wadd (nth h j) (nth v j) else nth h j := by
  induction i with
  | zero => simp [addTo]
  | succ i ih =>
    show nth ((addTo h v i).set i (wadd (nth (addTo h v i) i) (nth v i))) j = _
    by_cases e : i = j
    · subst e
      rw [nth_set_same _ _ _ (by rw [addTo_len]; exact hj), ih, if_neg (by omega), if_pos (by omega)]
    · rw [nth_set_other _ _ _ _ e, ih]
      by_cases hlt : j < i
      · rw [if_pos hlt, if_pos (by omega)]
      · rw [if_neg hlt, if_neg (by omega)]
theorem addTo_swap (h v : List Nat) (hh : h.length = 8) (hv : v.length = 8) : addTo v h 8 = addTo h v 8 := by
  refine nth_ext (by rw [addTo_len, addTo_len, hh, hv]) fun i hi => ?_
  rw [addTo_len, hv] at hi
  rw [addTo_at v h 8 i (by omega), addTo_at h v 8 i (by omega), if_pos hi, if_pos hi, wadd_comm]
/-- the registers behind a block -/
def blk (h : List Nat) (l : List UInt8) : List Nat := addTo h (rds (arr l 64) (regOf h) 64).list 8
theorem blk_len (h : List Nat) (l : List UInt8) (hh : h.length = 8) : (blk h l).length = 8 := by unfold blk; rw [addTo_len, hh]

/-! the padding -/
def zs (n : Nat) : Nat := (119 - n % 64) % 64
def by8 (m : Nat) : Nat → List UInt8
  | 0 => []
  | i + 1 => by8 m i ++ [UInt8.ofNat (m / 2 ^ (56 - 8 * i) % 256)]
theorem by8_len (m i : Nat) : (by8 m i).length = i := by
  induction i with
  | zero => rfl
  | succ i ih => simp [by8, ih]
def padOf (n : Nat) : List UInt8 := 128 :: List.replicate (zs n) 0 ++ by8 (n * 8 % 18446744073709551616) 8
theorem padOf_len (n : Nat) : (padOf n).length = 9 + zs n := by simp [padOf, by8_len]; omega
theorem zs_lt (n : Nat) : zs n < 64 := Nat.mod_lt _ (by decide)
theorem padOf_whole (n : Nat) : (n + (padOf n).length) % 64 = 0 := by rw [padOf_len]; unfold zs; omega
def padI (n : Int) : List UInt8 := if n < 0 then [] else padOf n.toNat

/-! the hash -/
def regs0 : List Nat := [0x6a09e667, 0xbb67ae85, 0x3c6ef372, 0xa54ff53a, 0x510e527f, 0x9b05688c, 0x1f83d9ab, 0x5be0cd19]
def blks (p : List UInt8) : Nat → List Nat
  | 0 => regs0
  | k + 1 => blk (blks p k) ((p.drop (64 * k)).take 64)
theorem blks_len (p : List UInt8) (k : Nat) : (blks p k).length = 8 := by
  induction k with
  | zero => rfl
  | succ k ih => exact blk_len _ _ ih
def by4 (x : Nat) : List UInt8 := [UInt8.ofNat (x / 16777216 % 256), UInt8.ofNat (x / 65536 % 256), UInt8.ofNat (x / 256 % 256), UInt8.ofNat (x % 256)]
def outTo (h : List Nat) : Nat → List UInt8
  | 0 => []
  | i + 1 => outTo h i ++ by4 (nth h i)
theorem outTo_len (h : List Nat) (i : Nat) : (outTo h i).length = 4 * i := by
  induction i with
  | zero => rfl
  | succ i ih => simp [outTo, by4, ih]; omega
def padded (l : List UInt8) : List UInt8 := l ++ padOf l.length
theorem padded_len (l : List UInt8) : (padded l).length = 64 * ((padded l).length / 64) := by
  have h := padOf_whole l.length
  have e : (padded l).length = l.length + (padOf l.length).length := by simp [padded]
  omega
def shaOf (l : List UInt8) : List UInt8 := outTo (blks (padded l) ((padded l).length / 64)) 8
theorem shaOf_len (l : List UInt8) : (shaOf l).length = 32 := outTo_len _ _
end Go.Proofs.YtbfpepiglcikbaaDoor.W
