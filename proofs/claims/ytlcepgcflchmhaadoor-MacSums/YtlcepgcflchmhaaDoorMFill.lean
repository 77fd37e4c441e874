/-
  mac.filled: the key, or its hash, with zero bytes up to the end of a block.
-/
import Derived.Test.YtlcepgcflchmhaaDoorMMath
import Derived.Test.YtlcepgcflchmhaaDoorSSum
import Derived.Lib.LazyBuf
namespace Go.Proofs.YtlcepgcflchmhaaDoor.W
open Go.RowKit

/-- bytes as the cells of an array -/
def bv (l : List UInt8) : Array Value := (cells l).toArray
theorem bv_size (l : List UInt8) : (bv l).size = l.length := by simp [bv, cells]
theorem bv_at (l : List UInt8) (i : Nat) (c : UInt8) (h : l[i]? = some c) : (bv l)[i]? = some (.int .u8 c.toNat) := by
  unfold bv cells
  rw [List.getElem?_toArray, List.getElem?_map, h]
  rfl
theorem bv_set (l : List UInt8) (i : Nat) (c : UInt8) : (bv l).setIfInBounds i (.int .u8 c.toNat) = bv (l.set i c) := by
  apply Array.toList_inj.1
  simp [bv, cells, List.map_set]
theorem bv_one (l : List UInt8) : (bv l).all (·.oneCell') = true := by
  rw [Array.all_eq_true_iff_forall_mem]
  intro v hv
  simp [bv, cells] at hv
  obtain ⟨x, _, rfl⟩ := hv
  rfl
theorem info64b : (Tryd.prog.info? 27).map (·.size) = some 64 := by kernel_rfl
theorem size_u8 (w : World) : (Go.sizeOf 5).run Tryd.prog w = .ok 1 w := by
  obtain ⟨i0, hi, _, hz1, _⟩ := info_parts infoU8
  simp [Go.sizeOf, typeInfo, hi, hz1, go_sem]
theorem setCells_row (g : Nat) (t : TypeId) : ∀ (vs : List Value) (pre post : List Value) (w : World), Blk w g t (pre ++ post).toArray → vs.length ≤ post.length →
    Blk (w.setCells g pre.length vs) g t (pre ++ (vs ++ post.drop vs.length)).toArray := by
  intro vs
  induction vs with
  | nil => intro pre post w h _; simpa [World.setCells] using h
  | cons v vs ih =>
    intro pre post w h hl
    match post, hl with
    | p :: post, hl =>
      have h1 := h.set_ pre.length v
      rw [show (pre ++ p :: post).toArray.setIfInBounds pre.length v = ((pre ++ [v]) ++ post).toArray by simp] at h1
      have h2 := ih (pre ++ [v]) post (w.setCell ⟨g, pre.length, none⟩ v) h1 (by simpa using hl)
      rw [show (pre ++ [v]).length = pre.length + 1 by simp] at h2
      simpa [World.setCells] using h2
/-- 'copy(block[:], key)' -/
theorem copy_key (w : World) (g : Nat) (ty : TypeId) (k : ByteArray) (hk : k.size ≤ 64) (h : Blk w g 27 (bv (List.replicate 64 0))) :
    ∃ w', (Builtin.copy_ #[29, 9] ty #[.slice (some ⟨g, 0, none⟩) 64 64, .string k]).run Tryd.prog w = .ok (.int .i64 (k.size : Int)) w' ∧ Blk w' g 27 (bv (fill k.data.toList)) ∧ w' = w.setCells g 0 (cells k.data.toList) := by
  refine ⟨w.setCells g 0 (cells k.data.toList), ?_, ?_, rfl⟩
  · have hr := run_copy_string (P := Tryd.prog) w 29 9 ty 5 g 0 64 64 k Tryd.underlying29 size_u8 hk
      (fun j hj => by rw [Nat.zero_add, h.cell j, bv_at _ j 0 (by rw [List.getElem?_replicate, if_pos (by omega)])]; rfl) (fun j hj => h.frozen _)
    exact hr
  · have h2 := setCells_row g 27 (cells k.data.toList) [] (cells (List.replicate 64 0)) w h (by rw [cells_len, cells_len, size_list, List.length_replicate]; exact hk)
    have e : [] ++ (cells k.data.toList ++ (cells (List.replicate 64 0)).drop (cells k.data.toList).length) = cells (fill k.data.toList) := by
      unfold fill
      rw [cells_append, cells_len, List.nil_append]
      congr 1
      unfold cells
      rw [← List.map_drop, List.drop_replicate]
    rw [e] at h2
    exact h2
theorem zero64b : (#[.int .u8 0, .int .u8 0, .int .u8 0, .int .u8 0, .int .u8 0, .int .u8 0, .int .u8 0, .int .u8 0, .int .u8 0, .int .u8 0, .int .u8 0, .int .u8 0, .int .u8 0, .int .u8 0, .int .u8 0, .int .u8 0, .int .u8 0, .int .u8 0, .int .u8 0, .int .u8 0, .int .u8 0, .int .u8 0, .int .u8 0, .int .u8 0, .int .u8 0, .int .u8 0, .int .u8 0, .int .u8 0, .int .u8 0, .int .u8 0, .int .u8 0, .int .u8 0, .int .u8 0, .int .u8 0, .int .u8 0, .int .u8 0, .int .u8 0, .int .u8 0, .int .u8 0, .int .u8 0, .int .u8 0, .int .u8 0, .int .u8 0, .int .u8 0, .int .u8 0, .int .u8 0, .int .u8 0, .int .u8 0, .int .u8 0, .int .u8 0, .int .u8 0, .int .u8 0, .int .u8 0, .int .u8 0, .int .u8 0, .int .u8 0, .int .u8 0, .int .u8 0, .int .u8 0, .int .u8 0, .int .u8 0, .int .u8 0, .int .u8 0, .int .u8 0] : Array Value) = bv (List.replicate 64 0) := rfl

/-- the result's box -/
def FlAt (w wr : World) : Prop := Blk wr w.heap.size 27 (bv (List.replicate 64 0)) ∧ Below w.heap.size w wr
theorem FlAt.start (w : World) : FlAt w (w.alloc (.cells (bv (List.replicate 64 0)) 27)) := ⟨Blk.new w _ _, (Below.refl _ _).alloc (Nat.le_refl _) _⟩
theorem FlAt.next {w wr w' : World} (h : FlAt w wr) (hb : Below wr.heap.size wr w') : FlAt w w' := ⟨h.1.next hb, h.2.trans (hb.mono h.2.size)⟩

theorem FlAt.alloc {w wr : World} (h : FlAt w wr) (o : Obj) : FlAt w (wr.alloc o) := h.next ((Below.refl _ _).alloc (Nat.le_refl _) o)
theorem FlAt.setCells {w wr : World} (h : FlAt w wr) {G : Nat} (hG : w.heap.size < G) {vs : List Value} {o : Nat} : FlAt w (wr.setCells G o vs) :=
  have hb := below_setCells hG vs o wr (Below.refl _ _)
  ⟨h.1.below hb (Nat.lt_succ_self _), h.2.trans (hb.mono (Nat.le_succ _))⟩

set_option maxHeartbeats 1000000 in
set_option maxRecDepth 100000 in
theorem filled_short (k : ByteArray) (w : World) (hk : k.size ≤ 64) :
    Calls Tryd.prog 9 #[.string k] w fun e w' => e = .returned (.agg (bv (fill k.data.toList))) ∧ Below w.heap.size w w' := by
  have HF := Lib.hid ((FlAt.start w).alloc (.cells (bv (List.replicate 64 0)) 27))
  have hg := Blk.new (w.alloc (.cells (bv (List.replicate 64 0)) 27)) 27 (bv (List.replicate 64 0))
  rw [show (w.alloc (.cells (bv (List.replicate 64 0)) 27)).heap.size = w.heap.size + 1 by simp] at hg
  have HG := Lib.hid hg
  have HGE := Lib.hid (Nat.lt_succ_self w.heap.size)
  have hk1 : ¬ (64 : Int) < (k.size : Int) := by omega
  clear hg
  go_enter Tryd.func9, Tryd.ntmps9
  go_wp2_with fail
  rw [zero64b]
  generalize (w.alloc (.cells (bv (List.replicate 64 0)) 27)).alloc (.cells (bv (List.replicate 64 0)) 27) = w2 at *
  obtain ⟨w3, hcp, hb3, hw3⟩ := copy_key w2 (w.heap.size + 1) 3 k hk HG.out
  have hf3 : FlAt w w3 := by rw [hw3]; exact HF.out.setCells HGE.out
  have H3 := Lib.hid hb3
  have HF3 := Lib.hid hf3
  have HL := Lib.hid (fill_len k.data.toList (by rw [size_list]; exact hk))
  clear hb3 hf3 hw3 HG HF
  obtain ⟨f, hf⟩ : ∃ f, fill k.data.toList = f := ⟨_, rfl⟩
  rw [hf] at H3 HL
  have HE := Lib.hid hf
  clear hf
  rw [hcp]
  go_wp2_with (first
    | (refine wpList_load_row rfl 27 _ rfl (w.heap.size + 1) rfl 27 _ (0, 0) _ H3.out Tryd.underlying27 rfl (by rw [bv_size, HL.out]; exact info64b) ?_)
    | (refine wpList_store_row rfl 27 _ _ rfl w.heap.size (bv f) rfl rfl 27 (bv (List.replicate 64 0)) HF3.out.1 (by rw [bv_size, HL.out]; exact info64b) (by rw [bv_size, bv_size, HL.out, List.length_replicate]) (bv_one _) ?_))
  have hb : Below w.heap.size w (w3.setRow w.heap.size (bv f)) := below_setRow HF3.out.2 (Nat.le_refl _)
  exact bodyPost_ret (v := .agg (bv f)) (results_cell_row Tryd.results9 _ _ w.heap.size 27 _ (0, 0) _ rfl (setRow_heap _ _ _ _ _ _ HF3.out.1) Tryd.underlying27 rfl (by rw [bv_size, HL.out]; exact info64b)) rfl ⟨by rw [HE.out], hb⟩

set_option maxHeartbeats 1000000 in
set_option maxRecDepth 100000 in
theorem filled_long (k : ByteArray) (w : World) (hr : Roots w) (hk : 64 < k.size) (hs : k.size ≤ 1099511627776) (q : ByteArray) (HQ : Hid (q = bs (shaOf k.data.toList))) :
    Calls Tryd.prog 9 #[.string k] w fun e w' => e = .returned (.agg (bv (fill q.data.toList))) ∧ Below w.heap.size w w' := by
  have hq : q.size ≤ 64 := by rw [HQ.out, bs_size, shaOf_len]; omega
  have R := Lib.hid (sum k (w.alloc (.cells (bv (List.replicate 64 0)) 27)) (hr.alloc _) hs)
  rw [← HQ.out] at R
  have HF0 := Lib.hid (FlAt.start w)
  have hk1 : (64 : Int) < (k.size : Int) := by omega
  have HGT := Lib.hid (show w.heap.size < (w.alloc (.cells (bv (List.replicate 64 0)) 27)).heap.size by simp)
  clear HQ hr
  go_enter Tryd.func9, Tryd.ntmps9
  go_wp2_with fail
  rw [zero64b]
  generalize w.alloc (.cells (bv (List.replicate 64 0)) 27) = w1 at *
  refine R.out.mono ?_
  rintro e w5 ⟨rfl, b5⟩
  have HF := Lib.hid ((HF0.out.next b5).alloc (.cells (bv (List.replicate 64 0)) 27))
  have HG := Lib.hid (Blk.new w5 27 (bv (List.replicate 64 0)))
  have HGE := Lib.hid (Nat.lt_of_lt_of_le HGT.out b5.size)
  clear HF0 b5 R HGT
  go_wp2_with fail
  rw [zero64b]
  generalize w5.alloc (.cells (bv (List.replicate 64 0)) 27) = w2 at *
  obtain ⟨w3, hcp, hb3, hw3⟩ := copy_key w2 w5.heap.size 3 q hq HG.out
  have hf3 : FlAt w w3 := by rw [hw3]; exact HF.out.setCells HGE.out
  have H3 := Lib.hid hb3
  have HF3 := Lib.hid hf3
  have HL := Lib.hid (fill_len q.data.toList (by rw [size_list]; exact hq))
  clear hb3 hf3 hw3 HG HF
  obtain ⟨f, hf⟩ : ∃ f, fill q.data.toList = f := ⟨_, rfl⟩
  rw [hf] at H3 HL
  have HE := Lib.hid hf
  clear hf
  rw [hcp]
  go_wp2_with (first
    | (refine wpList_load_row rfl 27 _ rfl w5.heap.size rfl 27 _ (0, 0) _ H3.out Tryd.underlying27 rfl (by rw [bv_size, HL.out]; exact info64b) ?_)
    | (refine wpList_store_row rfl 27 _ _ rfl w.heap.size (bv f) rfl rfl 27 (bv (List.replicate 64 0)) HF3.out.1 (by rw [bv_size, HL.out]; exact info64b) (by rw [bv_size, bv_size, HL.out, List.length_replicate]) (bv_one _) ?_))
  have hb : Below w.heap.size w (w3.setRow w.heap.size (bv f)) := below_setRow HF3.out.2 (Nat.le_refl _)
  exact bodyPost_ret (v := .agg (bv f)) (results_cell_row Tryd.results9 _ _ w.heap.size 27 _ (0, 0) _ rfl (setRow_heap _ _ _ _ _ _ HF3.out.1) Tryd.underlying27 rfl (by rw [bv_size, HL.out]; exact info64b)) rfl ⟨by rw [HE.out], hb⟩

theorem filled (k : ByteArray) (w : World) (hr : Roots w) (hs : k.size ≤ 1099511627776) :
    Calls Tryd.prog 9 #[.string k] w fun e w' => e = .returned (.agg (bv (fill (keyOf k.data.toList)))) ∧ Below w.heap.size w w' := by
  by_cases hk : k.size ≤ 64
  · rw [keyOf_short _ (by rw [size_list]; exact hk)]
    exact filled_short k w hk
  · rw [keyOf_long _ (by rw [size_list]; omega)]
    exact filled_long k w hr (by omega) hs (bs (shaOf k.data.toList)) (Lib.hid rfl)
end Go.Proofs.YtlcepgcflchmhaaDoor.W
