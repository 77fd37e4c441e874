/-
  The library's slices.Delete and slices.Clone, at a journal's rows.
-/
import Derived.Test.YtpjndgcliegloaaJKeep
import Derived.Deep.RegionLaw
import Derived.Lib.SliceRun
namespace Go.Proofs.Ytpjndgcliegloaa.W
open Go.RowKit

theorem only_drew (w : World) (r : Option Nat) : w.grownBy w.drew r := ⟨rfl, rfl, rfl, Nat.le_refl _, fun _ _ _ => rfl⟩
theorem keep_setCells (g : Nat) : ∀ (vs : List Value) (o : Nat) (w : World), w.grownBy (w.setCells g o vs) (some g)
  | [], _, w => only_refl w _
  | v :: vs, o, w => only_trans (only_set (only_refl w (some g)) o v) (keep_setCells g vs (o + 1) _)
/-- cells of a block are written, from place o on -/
theorem blk_setCells (g : Nat) (t : TypeId) : ∀ (vs : List Value) (o : Nat) (cs : Array Value) (w : World), Blk w g t cs → ∃ ds, Blk (w.setCells g o vs) g t ds ∧ ds.size = cs.size ∧ ∀ i, i < o → ds[i]? = cs[i]?
  | [], o, cs, w, h => ⟨cs, h, rfl, fun _ _ => rfl⟩
  | v :: vs, o, cs, w, h => by
    obtain ⟨ds, h1, h2, h3⟩ := blk_setCells g t vs (o + 1) _ _ (h.set_ o v)
    refine ⟨ds, h1, by rw [h2, Array.size_setIfInBounds], fun i hi => ?_⟩
    rw [h3 i (by omega), Array.getElem?_setIfInBounds, if_neg (by omega)]
theorem fn_und : Try.prog.underlying 58 = some (.slice (Try.prog.elem 58)) := by kernel_rfl
theorem fn_elem : Try.prog.elem 58 = 64 := by kernel_rfl
theorem fn_cells : Try.prog.cellsOf 64 = 1 := by kernel_rfl
theorem int_und : Try.prog.underlying 59 = some (.slice (Try.prog.elem 59)) := by kernel_rfl
theorem int_elem : Try.prog.elem 59 = 3 := by kernel_rfl
theorem int_cells : Try.prog.cellsOf 3 = 1 := by kernel_rfl
theorem fn_zero (w : World) : (zeroValue 64).run Try.prog w = .ok .nilFunc w := by
  obtain ⟨i0, hi, hz0, _, _⟩ := info_parts infoFn
  simp [zeroValue, typeInfo, hi, hz0, go_sem]

/-- what Delete leaves of a row -/
def Cut (w : World) (u : Value) (start : Nat) (xs : List Value) (e : Ending) (w' : World) : Prop :=
  ∃ u', e = .returned u' ∧ w'.ownsRow 0 64 1 u' start (xs.take start) ∧ u'.ownBlock = u.ownBlock ∧ w.grownBy w' u.ownBlock
set_option maxHeartbeats 2000000 in
theorem delNone (A : Option Addr) (n cap : Nat) (w : World) (hc : n ≤ cap) :
    Calls Try.prog 34 #[.slice A n cap, .int .i64 n, .int .i64 n] w fun e w' => e = .returned (.slice A n cap) ∧ w' = w := by
  have h0 : (0 : Int) ≤ n := by omega
  have h1 : (n : Int) ≤ (cap : Int) := by omega
  go_enter Try.func34, Try.ntmps34
  go_wp2
  go_ret
  exact ⟨rfl, rfl⟩
set_option maxHeartbeats 4000000 in
theorem delSome (g n cap start : Nat) (xs : List Value) (w : World) (h : w.ownsRow 0 64 1 (.slice (some ⟨g, 0, none⟩) n cap) n xs) (hs : start < n) :
    Calls Try.prog 34 #[.slice (some ⟨g, 0, none⟩) n cap, .int .i64 start, .int .i64 n] w (Cut w (.slice (some ⟨g, 0, none⟩) n cap) start xs) := by
  obtain ⟨i0, hi0, hz0, hz1, hz2⟩ := info_parts infoFn
  have hO := Lib.hid h
  rcases h.2 with ⟨e, _⟩ | ⟨g', cap', cur, e, _, hb, hc, hm, hsz, htk⟩
  · cases e
  cases e
  have hB : Blk w g 64 cur := hb
  rw [Nat.mul_one] at hsz htk
  obtain ⟨A, hA⟩ : ∃ A : Addr, (if cap = n then some (⟨g, 0, none⟩ : Addr) else some ⟨g, n, none⟩) = some A := by
    by_cases h : cap = n
    · exact ⟨_, by rw [if_pos h]⟩
    · exact ⟨_, by rw [if_neg h]⟩
  have hcl : ∀ ty, (Builtin.clear_ #[58] ty #[.slice (some ⟨g, start, none⟩) (n - start) (cap - start)]).run Try.prog (w.drew.setCells g start []) = .ok (.tuple #[]) (w.drew.setCells g start (List.replicate (n - start) .nilFunc)) :=
    fun ty => Lib.run_clear_slice w.drew _ _ ty _ Try.underlying58 fn_zero rfl rfl g start _ _ (by omega) (fun t ht => by
      show (w.cell? _).isSome = true
      rw [hB.cell, Array.getElem?_eq_getElem (by omega)]; rfl) (fun t ht => hB.frozen _)
  have fin : Cut w (.slice (some ⟨g, 0, none⟩) n cap) start xs (.returned (.slice (some ⟨g, 0, none⟩) start cap)) (w.drew.setCells g start (List.replicate (n - start) .nilFunc)) := by
    obtain ⟨ds, d1, d2, d3⟩ := blk_setCells g 64 (List.replicate (n - start) .nilFunc) start cur w.drew hB
    refine ⟨_, rfl, ⟨by rw [List.length_take]; have := hO.out.1; omega, .inr ⟨g, cap, ds, rfl, Nat.zero_le _, d1, by omega, hm, by rw [d2, hsz, Nat.mul_one], ?_⟩⟩, rfl, only_trans (only_drew w _) (keep_setCells g _ start w.drew)⟩
    rw [Nat.mul_one, ← htk, List.take_take, Nat.min_eq_left (by omega)]
    apply List.ext_getElem?
    intro i
    rw [List.getElem?_take, List.getElem?_take]
    split
    · rw [Array.getElem?_toList, Array.getElem?_toList]; exact d3 i (by assumption)
    · rfl
  have HF := Lib.hid fin
  clear fin hO hB hb h htk
  have h0 : (0 : Int) ≤ start := by omega
  have h1 : (start : Int) ≤ (n : Int) := by omega
  have h2 : (n : Int) ≤ (cap : Int) := by omega
  have h3 : (start : Int) ≤ (cap : Int) := by omega
  have hne : ((start : Int) == (n : Int)) = false := by rw [beq_eq_false_iff_ne]; omega
  go_enter Try.func34, Try.ntmps34
  go_wp2_with fail
  go_region_law (refine step_append_room rfl (.tmp 22) (.tmp 25) 58 rfl 64 i0 1 Try.underlying58 hi0 hz1 g 0 start cap (by simp [Act.eval, Act.put]) A 0 (cap - n) [] (by simp [Act.eval, Act.put]) (by simp) (by simp) (by simp) (by omega) (by simp) ?_)
  all_goals go_wp2
  all_goals go_ret
  all_goals exact HF.out
theorem delC (u : Value) (n : Nat) (us : List Undo) (w : World) (h : w.ownsRow 0 64 1 u us.length (undoVals us)) (hn : n ≤ us.length) :
    Calls Try.prog 34 #[u, .int .i64 n, .int .i64 us.length] w (Cut w u n (undoVals us)) := by
  rcases Nat.lt_or_ge n us.length with hlt | hge
  · obtain ⟨g, cap, rfl, _, _⟩ := own_take (k := n) h hn (by omega)
    exact delSome g us.length cap n _ w h hlt
  · obtain rfl : n = us.length := by omega
    obtain ⟨A, cap, rfl, hc⟩ := own_slice h
    refine (delNone A us.length cap w hc).mono ?_
    rintro e w' ⟨rfl, rfl⟩
    refine ⟨_, rfl, ?_, rfl, only_refl _ _⟩
    rw [List.take_of_length_le (by simp [undoVals])]
    exact h
end Go.Proofs.Ytpjndgcliegloaa.W
