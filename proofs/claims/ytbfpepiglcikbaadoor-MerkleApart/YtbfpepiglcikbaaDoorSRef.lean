/-
  The reference of layer 4: its registers, its constants, its padding.
-/
import Derived.Test.YtbfpepiglcikbaaDoorSPad
import Derived.Test.YtbfpepiglcikbaaDoorSBlock
namespace Go.Proofs.YtbfpepiglcikbaaDoor.W
open Go.RowKit

theorem regs8 : (#[.int .u32 1779033703, .int .u32 3144134277, .int .u32 1013904242, .int .u32 2773480762, .int .u32 1359893119, .int .u32 2600822924, .int .u32 528734635, .int .u32 1541459225] : Array Value) = wv regs0 := rfl
set_option maxHeartbeats 1000000 in
set_option maxRecDepth 100000 in
theorem rRegs (w : World) : Calls Tryd.prog 25 #[] w fun e w' => e = .returned (.agg (wv regs0)) ∧ Below w.heap.size w w' := by
  go_enter Tryd.func25, Tryd.ntmps25
  go_wp2_with (refine wpList_store_row rfl 44 _ _ rfl w.heap.size (wv regs0) rfl rfl 44 (wv (List.replicate 8 0)) (Blk.new w 44 (wv (List.replicate 8 0))) info8 rfl (wv_one _) ?_)
  have hb : Below w.heap.size w ((w.alloc (.cells (wv (List.replicate 8 0)) 44)).setRow w.heap.size (wv regs0)) := below_setRow ((Below.refl _ _).alloc (Nat.le_refl _) _) (Nat.le_refl _)
  exact bodyPost_ret (v := .agg (wv regs0)) (results_cell_row Tryd.results25 _ _ w.heap.size 44 _ (0, 0) _ rfl (setRow_heap _ _ _ _ _ _ (Blk.new w 44 (wv (List.replicate 8 0)))) Tryd.underlying44 rfl info8) rfl ⟨rfl, hb⟩
set_option maxHeartbeats 1000000 in
set_option maxRecDepth 100000 in
theorem rConsts (w : World) : Calls Tryd.prog 37 #[] w fun e w' => e = .returned (.agg (wv kk)) ∧ Below w.heap.size w w' := by
  go_enter Tryd.func37, Tryd.ntmps37
  go_wp2_with (refine wpList_store_row rfl 57 _ _ rfl w.heap.size (wv kk) rfl rfl 57 (wv (List.replicate 64 0)) (Blk.new w 57 (wv (List.replicate 64 0))) info64 rfl (wv_one _) ?_)
  have hb : Below w.heap.size w ((w.alloc (.cells (wv (List.replicate 64 0)) 57)).setRow w.heap.size (wv kk)) := below_setRow ((Below.refl _ _).alloc (Nat.le_refl _) _) (Nat.le_refl _)
  exact bodyPost_ret (v := .agg (wv kk)) (results_cell_row Tryd.results37 _ _ w.heap.size 57 _ (0, 0) _ rfl (setRow_heap _ _ _ _ _ _ (Blk.new w 57 (wv (List.replicate 64 0)))) Tryd.underlying57 rfl info64) rfl ⟨rfl, hb⟩
end Go.Proofs.YtbfpepiglcikbaaDoor.W
