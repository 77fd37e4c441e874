/-
  HMAC-SHA256 over lists of bytes. No program is named here.
-/
import Derived.Test.YtlcepgcflchmhaaDoorSMath
namespace Go.Proofs.YtlcepgcflchmhaaDoor.W

def keyOf (k : List UInt8) : List UInt8 := if 64 < k.length then shaOf k else k
def fill (k : List UInt8) : List UInt8 := k ++ List.replicate (64 - k.length) 0
def mix (x : UInt8) (l : List UInt8) : List UInt8 := l.map fun c => c ^^^ x
def macOf (k s : List UInt8) : List UInt8 := shaOf (mix 92 (fill (keyOf k)) ++ shaOf (mix 54 (fill (keyOf k)) ++ s))
theorem keyOf_len (k : List UInt8) : (keyOf k).length ≤ 64 := by
  unfold keyOf
  split
  · rw [shaOf_len]; omega
  · omega
theorem keyOf_long (k : List UInt8) (h : 64 < k.length) : keyOf k = shaOf k := by unfold keyOf; rw [if_pos h]
theorem keyOf_short (k : List UInt8) (h : k.length ≤ 64) : keyOf k = k := by unfold keyOf; rw [if_neg (by omega)]
theorem fill_len (k : List UInt8) (h : k.length ≤ 64) : (fill k).length = 64 := by simp [fill]; omega
theorem mix_len (x : UInt8) (l : List UInt8) : (mix x l).length = l.length := by simp [mix]
theorem macOf_len (k s : List UInt8) : (macOf k s).length = 32 := shaOf_len _
theorem fill_in (k : List UInt8) (i : Nat) (h : i < k.length) : (fill k)[i]? = some k[i] := by
  unfold fill
  rw [List.getElem?_append_left h, List.getElem?_eq_getElem h]
theorem fill_out (k : List UInt8) (i : Nat) (h : k.length ≤ i) (hi : i < 64) : (fill k)[i]? = some 0 := by
  unfold fill
  rw [List.getElem?_append_right h, List.getElem?_replicate, if_pos (by omega)]
/-- a zero byte more does not change what is filled -/
theorem fill_more (k : List UInt8) (h : k.length < 64) : fill (k ++ [0]) = fill k := by
  unfold fill
  rw [List.length_append, List.length_singleton, List.append_assoc, show 64 - k.length = (64 - (k.length + 1)) + 1 by omega, List.replicate_succ]
  rfl
theorem macOf_more (k s : List UInt8) (h : k.length < 64) : macOf (k ++ [0]) s = macOf k s := by
  unfold macOf
  rw [keyOf_short k (by omega), keyOf_short (k ++ [0]) (by simp; omega), fill_more k h]

/-- the first i bytes are mixed, the others not yet -/
def half (f : List UInt8) (x : UInt8) (i : Nat) : List UInt8 := mix x (f.take i) ++ f.drop i
theorem half_zero (f : List UInt8) (x : UInt8) : half f x 0 = f := by simp [half, mix]
theorem half_all (f : List UInt8) (x : UInt8) (i : Nat) (h : f.length ≤ i) : half f x i = mix x f := by
  unfold half
  rw [List.take_of_length_le h, List.drop_eq_nil_of_le h, List.append_nil]
theorem half_len (f : List UInt8) (x : UInt8) (i : Nat) : (half f x i).length = f.length := by simp [half, mix]; omega
theorem half_at (f : List UInt8) (x : UInt8) (i : Nat) (h : i < f.length) : (half f x i)[i]? = some f[i] := by
  unfold half
  rw [List.getElem?_append_right (by simp [mix]; omega), mix_len, List.length_take, Nat.min_eq_left (by omega), List.getElem?_drop, Nat.sub_self, Nat.add_zero, List.getElem?_eq_getElem h]
theorem half_step (f : List UInt8) (x : UInt8) (i : Nat) (h : i < f.length) : (half f x i).set i (f[i] ^^^ x) = half f x (i + 1) := by
  have e : (mix x (f.take i)).length = i := by rw [mix_len, List.length_take]; omega
  unfold half
  rw [List.set_append_right _ _ (by omega), e, Nat.sub_self, List.drop_eq_getElem_cons h, List.set_cons_zero, List.take_succ_eq_append_getElem h]
  unfold mix
  rw [List.map_append, List.append_assoc]
  rfl
/-- the reference's way: a byte at a time -/
theorem mix_step (f : List UInt8) (x : UInt8) (i : Nat) (h : i < f.length) : mix x (f.take (i + 1)) = mix x (f.take i) ++ [f[i] ^^^ x] := by
  rw [List.take_succ_eq_append_getElem h]
  unfold mix
  rw [List.map_append]
  rfl
end Go.Proofs.YtlcepgcflchmhaaDoor.W
