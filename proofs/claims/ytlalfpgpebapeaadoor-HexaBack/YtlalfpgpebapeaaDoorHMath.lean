/-
  Plain mathematics of package hexa: the digits of bytes and back.
-/
import Derived.Test.YtlalfpgpebapeaaDoorCMath
namespace Go.Proofs.YtlalfpgpebapeaaDoor.W

/-- the digit of a half -/
def dg (n : Nat) : Nat := if n < 10 then 48 + n else 87 + n
/-- the half of a digit; 16: it is none -/
def hv (c : Nat) : Nat := if 48 ≤ c ∧ c ≤ 57 then c - 48 else if 97 ≤ c ∧ c ≤ 102 then c - 87 else 16
theorem dg_lt (n : Nat) (h : n < 16) : dg n < 256 := by unfold dg; split <;> omega
theorem hv_le (c : Nat) : hv c ≤ 16 := by unfold hv; split; omega; split <;> omega
theorem hv_dg (n : Nat) (h : n < 16) : hv (dg n) = n := by
  unfold dg hv
  split
  · rw [if_pos (by omega)]; omega
  · rw [if_neg (by omega), if_pos (by omega)]; omega
theorem dg_hv (c : Nat) (h : hv c < 16) : dg (hv c) = c := by
  unfold hv at h ⊢
  unfold dg
  split
  · rw [if_pos (by omega)]; omega
  · rename_i h1
    rw [if_neg h1] at h
    split
    · rw [if_neg (by omega)]; omega
    · rename_i h2
      rw [if_neg h2] at h
      omega
def hput : List UInt8 → List UInt8
  | [] => []
  | b :: r => UInt8.ofNat (dg (b.toNat / 16)) :: UInt8.ofNat (dg (b.toNat % 16)) :: hput r
def hread : List UInt8 → Option (List UInt8)
  | [] => some []
  | [_] => none
  | a :: b :: r => if hv a.toNat < 16 ∧ hv b.toNat < 16 then (hread r).map (UInt8.ofNat (hv a.toNat * 16 + hv b.toNat) :: ·) else none
def rdHex (l : List UInt8) : List UInt8 × Int := match hread l with
  | some r => (r, 0)
  | none => ([], 6)

theorem hput_append (a b : List UInt8) : hput (a ++ b) = hput a ++ hput b := by
  induction a with
  | nil => rfl
  | cons x r ih => simp [hput, ih]
theorem hput_len (a : List UInt8) : (hput a).length = 2 * a.length := by
  induction a with
  | nil => rfl
  | cons x r ih => simp [hput, ih]; omega
theorem hread_put (l : List UInt8) : hread (hput l) = some l := by
  induction l with
  | nil => rfl
  | cons b r ih =>
    have hb := b.toNat_lt
    have e1 : hv (UInt8.ofNat (dg (b.toNat / 16))).toNat = b.toNat / 16 := by rw [toNat_ofNat (dg_lt _ (by omega)), hv_dg _ (by omega)]
    have e2 : hv (UInt8.ofNat (dg (b.toNat % 16))).toNat = b.toNat % 16 := by rw [toNat_ofNat (dg_lt _ (by omega)), hv_dg _ (by omega)]
    rw [hput, hread, e1, e2, if_pos (by omega), ih, Option.map_some]
    congr 2
    have : b.toNat / 16 * 16 + b.toNat % 16 = b.toNat := by omega
    rw [this, ofNat_toNat]
theorem hput_read : ∀ (t b : List UInt8), hread t = some b → hput b = t
  | [], b, h => by
    have : b = [] := by simpa [hread] using h.symm
    subst this; rfl
  | [_], b, h => by simp [hread] at h
  | x :: y :: r, b, h => by
    rw [hread] at h
    split at h
    · rename_i hc
      obtain ⟨r', hr, rfl⟩ := Option.map_eq_some_iff.1 h
      have ih := hput_read r r' hr
      have hx := hc.1
      have hy := hc.2
      have e : (UInt8.ofNat (hv x.toNat * 16 + hv y.toNat)).toNat = hv x.toNat * 16 + hv y.toNat := toNat_ofNat (by omega)
      have e1 : (hv x.toNat * 16 + hv y.toNat) / 16 = hv x.toNat := by omega
      have e2 : (hv x.toNat * 16 + hv y.toNat) % 16 = hv y.toNat := by omega
      rw [hput, e, e1, e2, dg_hv _ hx, dg_hv _ hy, ofNat_toNat, ofNat_toNat, ih]
    · cases h
theorem hread_odd : ∀ (t : List UInt8), t.length % 2 = 1 → hread t = none
  | [], h => by simp at h
  | [_], _ => rfl
  | x :: y :: r, h => by
    have ih := hread_odd r (by simp at h; omega)
    rw [hread, ih]
    split <;> rfl
theorem hread_len : ∀ (t b : List UInt8), hread t = some b → 2 * b.length = t.length := by
  intro t b h
  rw [← hput_read t b h, hput_len]

/-- where a reader stands that has read k pairs and holds acc -/
def HRel (l : List UInt8) (k : Nat) (acc : List UInt8) : Prop := acc.length = k ∧ hread l = (hread (l.drop (2 * k))).map (acc ++ ·)
theorem HRel.zero (l : List UInt8) : HRel l 0 [] := ⟨rfl, by cases h : hread l <;> simp [h]⟩
theorem HRel.step {s : ByteArray} {k : Nat} {acc : List UInt8} (h : HRel s.data.toList k acc) (h0 : 2 * k < s.size) (h1 : 2 * k + 1 < s.size)
    (ha : hv s[2 * k].toNat < 16) (hb : hv s[2 * k + 1].toNat < 16) : HRel s.data.toList (k + 1) (acc ++ [UInt8.ofNat (hv s[2 * k].toNat * 16 + hv s[2 * k + 1].toNat)]) := by
  refine ⟨by rw [List.length_append, h.1]; rfl, ?_⟩
  rw [h.2, drop_cons s _ h0, drop_cons s _ h1, hread, if_pos ⟨ha, hb⟩, show 2 * k + 1 + 1 = 2 * (k + 1) by omega]
  cases hread (s.data.toList.drop (2 * (k + 1))) <;> simp
theorem HRel.bad {s : ByteArray} {k : Nat} {acc : List UInt8} (h : HRel s.data.toList k acc) (h0 : 2 * k < s.size) (h1 : 2 * k + 1 < s.size)
    (hb : ¬ (hv s[2 * k].toNat < 16 ∧ hv s[2 * k + 1].toNat < 16)) : rdHex s.data.toList = ([], 6) := by
  have : hread s.data.toList = none := by rw [h.2, drop_cons s _ h0, drop_cons s _ h1, hread, if_neg hb]; rfl
  simp [rdHex, this]
theorem HRel.done {s : ByteArray} {k : Nat} {acc : List UInt8} (h : HRel s.data.toList k acc) (h0 : s.size ≤ 2 * k) : rdHex s.data.toList = (acc, 0) := by
  have : hread s.data.toList = some acc := by rw [h.2, List.drop_eq_nil_of_le (by rw [size_list]; exact h0)]; simp [hread]
  simp [rdHex, this]
theorem rdHex_odd (s : ByteArray) (h : s.size % 2 = 1) : rdHex s.data.toList = ([], 6) := by
  simp [rdHex, hread_odd s.data.toList (by rw [size_list]; exact h)]
end Go.Proofs.YtlalfpgpebapeaaDoor.W
