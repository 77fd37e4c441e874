/-
  footbridgelaw11.awake answers true.
-/
import Derived.Test.YtbfpepiglcikbaaDoorKAwake
namespace Go.Proofs.YtbfpepiglcikbaaDoor.W
open Go.RowKit

theorem top_one : shaOf (topOf 1 (shaOf (leafOf exP))) = rootOf [exP] := by unfold rootOf; rw [tree_one]; rfl
theorem top_two : shaOf (topOf 2 (shaOf (nodeOf (shaOf (leafOf exP)) (shaOf (leafOf exQ))))) = rootOf [exP, exQ] := by unfold rootOf; rw [tree_pq]; rfl
theorem top_none : shaOf (topOf 0 []) = rootOf [] := by unfold rootOf; rw [tree_nil]; rfl
theorem awk (V : World) (hr : Roots V) : AwK V (shaOf (leafOf exP)) (shaOf (leafOf exQ)) (shaOf (nodeOf (shaOf (leafOf exP)) (shaOf (leafOf exQ)))) (rootOf []) (rootOf [exP]) (rootOf [exP, exQ]) where
  l1 W hW := (leafC exP W (roots_since hr hW)).mono fun _ _ ⟨he, hb⟩ => ⟨he, since_of (step_below hW.below hb), since_of hb⟩
  l2 W hW := (leafC exQ W (roots_since hr hW)).mono fun _ _ ⟨he, hb⟩ => ⟨he, since_of (step_below hW.below hb), since_of hb⟩
  r1 W g hW hB := (rootC [exP] _ W (prs_one (x := exP) hB) (roots_since hr hW) (by decide)).mono fun _ _ ⟨he, hb⟩ => ⟨he, since_of (step_below hW.below hb), since_of hb⟩
  r2 W g hW hB := (rootC [exP, exQ] _ W (prs_two (x := exP) (y := exQ) hB) (roots_since hr hW) (by decide)).mono fun _ _ ⟨he, hb⟩ => ⟨he, since_of (step_below hW.below hb), since_of hb⟩
  r0 W hW := (rootC [] _ W (Prs.nil W none 0) (roots_since hr hW) (by decide)).mono fun _ _ ⟨he, hb⟩ => ⟨he, since_of (step_below hW.below hb), since_of hb⟩
  p1 W hW := (topC 1 (shaOf (leafOf exP)) W (roots_since hr hW) (by rw [shaOf_len]; omega)).mono fun _ _ ⟨he, hb⟩ => ⟨by rw [he, top_one], since_of (step_below hW.below hb), since_of hb⟩
  p2 W hW := (topC 2 (shaOf (nodeOf (shaOf (leafOf exP)) (shaOf (leafOf exQ)))) W (roots_since hr hW) (by rw [shaOf_len]; omega)).mono fun _ _ ⟨he, hb⟩ => ⟨by rw [he, top_two], since_of (step_below hW.below hb), since_of hb⟩
  p0 W hW := (topC 0 [] W (roots_since hr hW) (by decide)).mono fun _ _ ⟨he, hb⟩ => ⟨by rw [he, top_none], since_of (step_below hW.below hb), since_of hb⟩
  n W hW := (nodeC (shaOf (leafOf exP)) (shaOf (leafOf exQ)) W (roots_since hr hW) (by rw [shaOf_len]; omega) (by rw [shaOf_len]; omega)).mono fun _ _ ⟨he, hb⟩ => ⟨he, since_of (step_below hW.below hb), since_of hb⟩
theorem awake11 (w : World) (hr : Roots w) : Calls Tryd.prog 7 #[] w fun e w' => e = .returned (.bool true) ∧ Below w.heap.size w w' :=
  awake_this w _ _ _ _ _ _ (shaOf_len _) roots_differ fun V hV => awk V (roots_since hr hV)
end Go.Proofs.YtbfpepiglcikbaaDoor.W
