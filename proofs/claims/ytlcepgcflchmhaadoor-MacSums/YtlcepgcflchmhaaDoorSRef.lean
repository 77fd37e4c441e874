/-
  The reference of layer 4: its registers, its constants, its padding.
-/
import Derived.Test.YtlcepgcflchmhaaDoorSPad
import Derived.Test.YtlcepgcflchmhaaDoorSBlock
namespace Go.Proofs.YtlcepgcflchmhaaDoor.W
open Go.RowKit

theorem regs8 : (#[.int .u32 1779033703, .int .u32 3144134277, .int .u32 1013904242, .int .u32 2773480762, .int .u32 1359893119, .int .u32 2600822924, .int .u32 528734635, .int .u32 1541459225] : Array Value) = wv regs0 := rfl
set_option maxHeartbeats 1000000 in
set_option maxRecDepth 100000 in
theorem rRegs (w : World) : Calls Tryd.prog 17 #[] w fun e w' => e = .returned (.agg (wv regs0)) ∧ Below w.heap.size w w' := by
  go_enter Tryd.func17, Tryd.ntmps17
  go_wp2_with (refine wpList_store_row rfl 34 _ _ rfl w.heap.size (wv regs0) rfl rfl 34 (wv (List.replicate 8 0)) (Blk.new w 34 (wv (List.replicate 8 0))) info8 rfl (wv_one _) ?_)
  have hb : Below w.heap.size w ((w.alloc (.cells (wv (List.replicate 8 0)) 34)).setRow w.heap.size (wv regs0)) := below_setRow ((Below.refl _ _).alloc (Nat.le_refl _) _) (Nat.le_refl _)
  exact bodyPost_ret (v := .agg (wv regs0)) (results_cell_row Tryd.results17 _ _ w.heap.size 34 _ (0, 0) _ rfl (setRow_heap _ _ _ _ _ _ (Blk.new w 34 (wv (List.replicate 8 0)))) Tryd.underlying34 rfl info8) rfl ⟨rfl, hb⟩
set_option maxHeartbeats 1000000 in
set_option maxRecDepth 100000 in
theorem rConsts (w : World) : Calls Tryd.prog 23 #[] w fun e w' => e = .returned (.agg (wv kk)) ∧ Below w.heap.size w w' := by
  go_enter Tryd.func23, Tryd.ntmps23
  go_wp2_with (refine wpList_store_row rfl 41 _ _ rfl w.heap.size (wv kk) rfl rfl 41 (wv (List.replicate 64 0)) (Blk.new w 41 (wv (List.replicate 64 0))) info64 rfl (wv_one _) ?_)
  have hb : Below w.heap.size w ((w.alloc (.cells (wv (List.replicate 64 0)) 41)).setRow w.heap.size (wv kk)) := below_setRow ((Below.refl _ _).alloc (Nat.le_refl _) _) (Nat.le_refl _)
  exact bodyPost_ret (v := .agg (wv kk)) (results_cell_row Tryd.results23 _ _ w.heap.size 41 _ (0, 0) _ rfl (setRow_heap _ _ _ _ _ _ (Blk.new w 41 (wv (List.replicate 64 0)))) Tryd.underlying41 rfl info64) rfl ⟨rfl, hb⟩
end Go.Proofs.YtlcepgcflchmhaaDoor.W
