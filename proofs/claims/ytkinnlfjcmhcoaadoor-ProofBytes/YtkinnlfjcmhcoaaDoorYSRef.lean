/-
  The reference of layer 4: its registers, its constants, its padding.
-/
import Derived.Test.YtkinnlfjcmhcoaaDoorZ0d
namespace Go.Proofs.YtkinnlfjcmhcoaaDoor.W
open Go.RowKit

theorem regs8 : (#[.int .u32 1779033703, .int .u32 3144134277, .int .u32 1013904242, .int .u32 2773480762, .int .u32 1359893119, .int .u32 2600822924, .int .u32 528734635, .int .u32 1541459225] : Array Value) = wv regs0 := rfl
set_option maxHeartbeats 1000000 in
set_option maxRecDepth 100000 in
theorem rRegs (w : World) : Calls Tryd.prog 73 #[] w fun e w' => e = .returned (.agg (wv regs0)) ∧ Below w.heap.size w w' := by
  go_enter Tryd.func73, Tryd.ntmps73
  go_wp2_with (refine wpList_store_row rfl 116 _ _ rfl w.heap.size (wv regs0) rfl rfl 116 (wv (List.replicate 8 0)) (Blk.new w 116 (wv (List.replicate 8 0))) info8 rfl (wv_one _) ?_)
  have hb : Below w.heap.size w ((w.alloc (.cells (wv (List.replicate 8 0)) 116)).setRow w.heap.size (wv regs0)) := below_setRow ((Below.refl _ _).alloc (Nat.le_refl _) _) (Nat.le_refl _)
  exact bodyPost_ret (v := .agg (wv regs0)) (results_cell_row Tryd.results73 _ _ w.heap.size 116 _ (0, 0) _ rfl (setRow_heap _ _ _ _ _ _ (Blk.new w 116 (wv (List.replicate 8 0)))) Tryd.underlying116 rfl info8) rfl ⟨rfl, hb⟩
set_option maxHeartbeats 1000000 in
set_option maxRecDepth 100000 in
theorem rConsts (w : World) : Calls Tryd.prog 88 #[] w fun e w' => e = .returned (.agg (wv kk)) ∧ Below w.heap.size w w' := by
  go_enter Tryd.func88, Tryd.ntmps88
  go_wp2_with (refine wpList_store_row rfl 134 _ _ rfl w.heap.size (wv kk) rfl rfl 134 (wv (List.replicate 64 0)) (Blk.new w 134 (wv (List.replicate 64 0))) info64 rfl (wv_one _) ?_)
  have hb : Below w.heap.size w ((w.alloc (.cells (wv (List.replicate 64 0)) 134)).setRow w.heap.size (wv kk)) := below_setRow ((Below.refl _ _).alloc (Nat.le_refl _) _) (Nat.le_refl _)
  exact bodyPost_ret (v := .agg (wv kk)) (results_cell_row Tryd.results88 _ _ w.heap.size 134 _ (0, 0) _ rfl (setRow_heap _ _ _ _ _ _ (Blk.new w 134 (wv (List.replicate 64 0)))) Tryd.underlying134 rfl info64) rfl ⟨rfl, hb⟩
end Go.Proofs.YtkinnlfjcmhcoaaDoor.W
