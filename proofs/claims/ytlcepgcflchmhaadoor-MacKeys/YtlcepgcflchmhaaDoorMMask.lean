/-
  mac.Sum's closure: a copy of the block, each byte with the mask; as a string.
-/
import Derived.Test.YtlcepgcflchmhaaDoorMFill
namespace Go.Proofs.YtlcepgcflchmhaaDoor.W
open Go.RowKit

theorem xor_byte (a x : UInt8) : bits .xor .u8 (a.toNat : Int) (x.toNat : Int) = ((a ^^^ x).toNat : Int) := by
  show IntKind.u8.wrap ((BitVec.ofInt 8 (a.toNat : Int) ^^^ BitVec.ofInt 8 (x.toNat : Int)).toNat : Int) = _
  have ha := a.toNat_lt
  have hx := x.toNat_lt
  rw [BitVec.toNat_xor, BitVec.ofInt_natCast, BitVec.ofInt_natCast, BitVec.toNat_ofNat, BitVec.toNat_ofNat, Nat.mod_eq_of_lt (by simpa using ha), Nat.mod_eq_of_lt (by simpa using hx), IntKind.wrap_u8, UInt8.toNat_xor]
  have h : a.toNat ^^^ x.toNat < 2 ^ 8 := Nat.xor_lt_two_pow (by simpa using ha) (by simpa using hx)
  omega

/-- the copy lies in the first new block -/
def MkAt (f : List UInt8) (x : UInt8) (w : World) (i : Nat) (wr : World) : Prop := Blk wr w.heap.size 27 (bv (half f x i)) ∧ Below w.heap.size w wr
theorem MkAt.drew {f : List UInt8} {x : UInt8} {w wr : World} {i : Nat} (h : MkAt f x w i wr) : MkAt f x w i wr.drew := ⟨h.1, Below.drewN h.2 1⟩
theorem MkAt.cell {f : List UInt8} {x : UInt8} {w wr : World} {i : Nat} (h : MkAt f x w i wr) (hi : i < f.length) : wr.cell? ⟨w.heap.size, i, none⟩ = some (.int .u8 f[i].toNat) := by
  rw [h.1.cell i, bv_at _ i _ (half_at f x i hi)]
theorem MkAt.put {f : List UInt8} {x : UInt8} {w wr : World} {i : Nat} (h : MkAt f x w i wr) (hi : i < f.length) : MkAt f x w (i + 1) (wr.setCell ⟨w.heap.size, i, none⟩ (.int .u8 (f[i] ^^^ x).toNat)) := by
  refine ⟨?_, h.2.setCell (by simp) _⟩
  have h1 := h.1.set_ i (.int .u8 (f[i] ^^^ x).toNat)
  rw [bv_set, half_step f x i hi] at h1
  exact h1

theorem store_old64 (f : List UInt8) (hl : f.length = 64) (W : World) (G : Nat) (hG : Blk W G 27 (bv (List.replicate 64 0))) :
    (storeCells ⟨G, 0, none⟩ (bv f).toList).run Tryd.prog W = .ok () (W.setRow G (bv f)) := by
  have h := run_storeCells_from (P := Tryd.prog) G 27 (bv f).toList 0 (bv (List.replicate 64 0)) W hG (by rw [Array.length_toList, bv_size, bv_size, hl, List.length_replicate]) (fun v hv => (Array.all_eq_true_iff_forall_mem.1 (bv_one f)) v (by simpa using hv))
  rw [h, List.take_zero, List.nil_append, Array.toArray_toList]
theorem store_new64 (f : List UInt8) (hl : f.length = 64) (W : World) :
    (storeCells ⟨W.heap.size, 0, none⟩ (bv f).toList).run Tryd.prog (W.alloc (.cells (bv (List.replicate 64 0)) 27)) = .ok () (W.alloc (.cells (bv f) 27)) := by
  rw [store_old64 f hl _ _ (Blk.new W 27 _), World.setRow_alloc_new]

theorem addr_add (g j : Nat) : (⟨g, 0, none⟩ : Addr).add j = ⟨g, j, none⟩ := by cases j <;> simp [Addr.add]

set_option maxHeartbeats 1000000 in
set_option maxRecDepth 100000 in
theorem masked (f : List UInt8) (x : UInt8) (g : Nat) (w : World) (hf : f.length = 64) (hg : Blk w g 27 (bv f)) (out : List UInt8) (HO : Hid (mix x f = out)) :
    Calls Tryd.prog 10 #[.int .u8 x.toNat, .pointer (some ⟨g, 0, none⟩)] w fun e w' => e = .returned (.string (bs out)) ∧ Below w.heap.size w w' := by
  have hs64 : (bv f).size = 64 := by rw [bv_size, hf]
  have hst := store_new64 f hf w
  rw [← zero64b] at hst
  have HG := Lib.hid hg
  have HF := Lib.hid hf
  have H0 := Lib.hid (show MkAt f x w 0 (w.alloc (.cells (bv f) 27)) from ⟨by rw [half_zero]; exact Blk.new w _ _, (Below.refl _ _).alloc (Nat.le_refl _) _⟩)
  clear hg hf
  go_enter Tryd.func10, Tryd.ntmps10
  go_wp2_with (first
    | (refine wpList_load_row rfl 27 _ rfl g rfl 27 _ (0, 0) _ HG.out Tryd.underlying27 rfl (by rw [bv_size, HF.out]; exact info64b) ?_))
  clear hst HG hs64
  go_loopw [7] (fun i wr => ∃ k : Nat, k ≤ 64 ∧ i = .int .i64 k ∧ MkAt f x w k wr) (fun i _ => 64 - (intOf i).toNat)
  case atStart => exact ⟨0, Nat.zero_le _, rfl, H0.out⟩
  case round =>
    clear H0
    obtain ⟨k, hk, rfl, hS⟩ := hrel
    by_cases hlt : k < 64
    · have hkf : k < f.length := by rw [HF.out]; exact hlt
      have hc := hS.cell hkf
      have hfz : wr.frozen? ⟨w.heap.size, k, none⟩ = false := hS.1.frozen k
      have HP := Lib.hid (hS.put hkf)
      have hx := xor_byte f[k] x
      generalize f[k] = c at *
      generalize c ^^^ x = y at *
      have jl : (k : Int) < 64 := by omega
      have jp : (0 : Int) ≤ (k : Int) := by omega
      clear hS hkf
      go_wp2
      go_roundw
      case rel => exact ⟨k + 1, by omega, by go_num, HP.out⟩
      case measure => simp [intOf]; omega
    · obtain rfl : k = 64 := by omega
      have hB := hS.1
      rw [half_all f x 64 (by rw [HF.out]; exact Nat.le_refl _), HO.out] at hB
      have ho : out.length = 64 := by rw [← HO.out, mix_len, HF.out]
      have hst := run_convert_bytes_back (P := Tryd.prog) wr 29 9 5 ⟨w.heap.size, 0, none⟩ 64 out Tryd.underlying29 Tryd.underlying5 Tryd.underlying9 (by
        intro j hj
        have h := hB.cell j
        rw [bv_at _ j _ (List.getElem?_eq_getElem hj)] at h
        rw [addr_add]
        exact h)
      rw [ho] at hst
      have HB := Lib.hid hS.2
      clear hS hB ho
      go_wp2
      go_ret
      exact ⟨rfl, HB.out⟩
end Go.Proofs.YtlcepgcflchmhaaDoor.W
