/-
  The law's moved.
-/
import Derived.Test.YtpjndgcliegloaaJLev
namespace Go.Proofs.Ytpjndgcliegloaa.W
open Go.RowKit

/-- what 'moved' owes -/
def Mvd (S : Nat → Prop) (w : World) (r : List (List KV) × List KV × Int) (e : Ending) (w' : World) : Prop := ∃ lv, e = .returned (.tuple #[lv, .int .i64 r.2.2]) ∧ LV S w' lv (r.1 ++ [r.2.1]) ∧ Below w.heap.size w w'
/-- behind its first append: the levels are copied -/
structure Copied (w w2 : World) (n b off g cap2 : Nat) (kd : Int) (k v : ByteArray) (ys : List Value) (y : Value) : Prop where
  own : w2.ownsRow w.heap.size 26 1 (.slice (some ⟨g, 0, none⟩) (n + 1) cap2) (n + 1) (ys ++ [y])
  bel : Below w.heap.size w w2
  box : Blk w2 w.heap.size 33 #[.int .i64 kd, .string k, .string v]
  last : w2.cell? ⟨b, off + n, none⟩ = some y
  room : n + 1 ≤ cap2
theorem copied {w w2 : World} {n b off cap : Nat} {kd : Int} {k v : ByteArray} {ys : List Value} {y v' : Value} (hn : ys.length = n) (hv : Vls w (.slice (some ⟨b, off, none⟩) (n + 1) cap) (ys ++ [y]))
    (own2 : w2.ownsRow w.heap.size 26 1 v' (0 + (n + 1)) ([] ++ (ys ++ [y]))) (gr2 : (w.alloc (.cells #[.int .i64 kd, .string k, .string v] 33)).grownBy w2 (Value.slice none 0 0).ownBlock) :
    ∃ g cap2, v' = .slice (some ⟨g, 0, none⟩) (n + 1) cap2 ∧ Copied w w2 n b off g cap2 kd k v ys y := by
  rw [Nat.zero_add, List.nil_append] at own2
  obtain ⟨g, cap2, rfl⟩ := ownsRow_succ own2
  have hb : Below w.heap.size w w2 := ((Below.refl _ w).alloc (Nat.le_refl _) _).grown gr2 (by simp) (fun k e => by cases e)
  refine ⟨g, cap2, rfl, own2, hb, (Blk.new w _ _).grown gr2 (fun e => by cases e), ?_, by obtain ⟨A, c, e, h⟩ := own_slice own2; cases e; exact h⟩
  obtain ⟨A0, cap0, e, _, hc⟩ := hv.below hb
  obtain ⟨b', off', e2, h1⟩ := hc n (by simp [hn])
  injection e with ea
  rw [← ea] at e2
  cases e2
  rw [h1]
  simp [← hn]
/-- the levels that 'moved' is given -/
structure Given (S : Nat → Prop) (w : World) (n b off cap : Nat) (Lv : List (List KV)) (L : List KV) (ys : List Value) (y : Value) : Prop where
  hn : ys.length = n
  vls : Vls w (.slice (some ⟨b, off, none⟩) (n + 1) cap) (ys ++ [y])
  off : Off S w (.slice (some ⟨b, off, none⟩) (n + 1) cap)
  rds : Rds S w ys Lv
  prs : Prs w y L
  offy : Off S w y
theorem prs_one {w : World} {v : Value} {l : List KV} (h : Prs w v l) : v.oneCell' = true := by obtain ⟨A, cap, rfl, _⟩ := h; rfl
theorem Given.one {S : Nat → Prop} {w : World} {n b off cap : Nat} {Lv : List (List KV)} {L : List KV} {ys : List Value} {y : Value} (h : Given S w n b off cap Lv L ys y) : ∀ u ∈ ys ++ [y], u.oneCell' = true := fun u hu => by
  rcases List.mem_append.1 hu with hu | hu
  · obtain ⟨i, hi, rfl⟩ := List.mem_iff_getElem.1 hu
    exact prs_one (h.rds.2 i hi (by rw [← h.rds.1]; exact hi)).1
  · simp at hu; subst hu; exact prs_one h.prs
theorem Given.lv {S : Nat → Prop} {w w' : World} {n b off cap : Nat} {Lv : List (List KV)} {L : List KV} {ys : List Value} {y : Value} (h : Given S w n b off cap Lv L ys y) (hb : Below w.heap.size w w') : LV S w' (.slice (some ⟨b, off, none⟩) (n + 1) cap) (Lv ++ [L]) :=
  ⟨_, h.vls.below hb, h.off.below hb, (h.rds.snoc h.prs h.offy).below hb⟩
theorem given {S : Nat → Prop} {w : World} {lv : Value} {Lv : List (List KV)} {L : List KV} (h : LV S w lv (Lv ++ [L])) : ∃ b off cap ys y, lv = .slice (some ⟨b, off, none⟩) (Lv.length + 1) cap ∧ Given S w Lv.length b off cap Lv L ys y := by
  obtain ⟨xs, h1, h2, h3⟩ := h
  obtain ⟨ys, y, rfl, h4, h5, h6⟩ := h3.split
  have h1' := h1
  obtain ⟨A, cap, rfl, hcap, hc⟩ := h1'
  obtain ⟨b, off, rfl, _⟩ := hc 0 (by simp)
  have e : (ys ++ [y]).length = Lv.length + 1 := by simp [h4.1]
  rw [e] at h1 h2
  exact ⟨b, off, cap, ys, y, by rw [e], h4.1, h1, h2, h4, h5, h6⟩
section
variable {S : Nat → Prop} {w : World} {n b off cap : Nat} {Lv : List (List KV)} {L : List KV} {ys : List Value} {y : Value} (k v : ByteArray)
theorem Given.cells (h : Given S w n b off cap Lv L ys y) (ob : Obj) : ∀ j u, (ys ++ [y])[j]? = some u → (w.alloc ob).cell? ((⟨b, off, none⟩ : Addr).add j) = some u := by
  have hv := h.vls.below ((Below.refl _ w).alloc (Nat.le_refl _) ob)
  have e : (ys ++ [y]).length = n + 1 := by simp [h.hn]
  rw [← e] at hv
  exact hv.cells
set_option maxHeartbeats 4000000 in
theorem movedLong (hl : 65536 < k.size ∨ 65536 < v.size) (hG : Given S w n b off cap Lv L ys y) (hz : n + 1 ≤ 1000000000) :
    Calls Try.prog 8 #[.slice (some ⟨b, off, none⟩) (n + 1) cap, .agg #[.int .i64 0, .string k, .string v]] w fun e w' => e = .returned (.tuple #[.slice (some ⟨b, off, none⟩) (n + 1) cap, .int .i64 4]) ∧ Below w.heap.size w w' := by
  obtain ⟨i0, hi, hz0, hz1, hz2⟩ := info_parts infoS
  have HG := Lib.hid hG
  have hw : IntKind.i64.wrap (n : Int) = (n : Int) := IntWalk.i64_in _ (by omega)
  have HZ := Lib.hid hz
  clear hz
  clear hG
  by_cases h1 : 65536 < k.size
  · have g1 : (65536 : Int) < (k.size : Int) := by omega
    clear hl h1
    go_enter Try.func8, Try.ntmps8
    go_wp2_with (at_builtin; refine wpList_append_own_at _ rfl _ _ 29 rfl w.heap.size 26 i0 _ 1 24 Try.underlying29 hi hz0 hz1 hz2 rfl (by decide) (.slice none 0 0) 0 [] rfl (World.ownsRow_nil _ _ _ _) ⟨b, off, none⟩ (n + 1) cap (ys ++ [y]) rfl (by simp [HG.out.hn]) (HG.out.cells _) HG.out.one (by have := HZ.out; unfold maxLen; omega) (by have := HZ.out; omega) (by simp) ?_; intro v' w2 own2 gr2 _ at2; obtain ⟨g, cap2, rfl, hC⟩ := copied HG.out.hn HG.out.vls own2 gr2; clear own2 gr2 at2; have e0 : w2.cell? ⟨w.heap.size, 0, none⟩ = some (.int .i64 0) := hC.box.cell 0; have e1 : w2.cell? ⟨w.heap.size, 1, none⟩ = some (.string k) := hC.box.cell 1; have e2 : w2.cell? ⟨w.heap.size, 2, none⟩ = some (.string v) := hC.box.cell 2; have c9 := hC.last; replace hC := Lib.hid hC)
    go_returns
    exact ⟨rfl, hC.out.bel⟩
  · have g1 : ¬ (65536 : Int) < (k.size : Int) := by omega
    have g2 : (65536 : Int) < (v.size : Int) := by omega
    clear hl h1
    go_enter Try.func8, Try.ntmps8
    go_wp2_with (at_builtin; refine wpList_append_own_at _ rfl _ _ 29 rfl w.heap.size 26 i0 _ 1 24 Try.underlying29 hi hz0 hz1 hz2 rfl (by decide) (.slice none 0 0) 0 [] rfl (World.ownsRow_nil _ _ _ _) ⟨b, off, none⟩ (n + 1) cap (ys ++ [y]) rfl (by simp [HG.out.hn]) (HG.out.cells _) HG.out.one (by have := HZ.out; unfold maxLen; omega) (by have := HZ.out; omega) (by simp) ?_; intro v' w2 own2 gr2 _ at2; obtain ⟨g, cap2, rfl, hC⟩ := copied HG.out.hn HG.out.vls own2 gr2; clear own2 gr2 at2; have e0 : w2.cell? ⟨w.heap.size, 0, none⟩ = some (.int .i64 0) := hC.box.cell 0; have e1 : w2.cell? ⟨w.heap.size, 1, none⟩ = some (.string k) := hC.box.cell 1; have e2 : w2.cell? ⟨w.heap.size, 2, none⟩ = some (.string v) := hC.box.cell 2; have c9 := hC.last; replace hC := Lib.hid hC)
    go_returns
    exact ⟨rfl, hC.out.bel⟩
/-- the last level is written anew -/
theorem Copied.put {w2 w3 : World} {g cap2 : Nat} {kd : Int} {y' : Value} {L' : List KV} (hG : Given S w n b off cap Lv L ys y) (hC : Copied w w2 n b off g cap2 kd k v ys y) (hS : ∀ i, S i → i < w.heap.size) (ho : OwnPrs w2.heap.size y' L' w2 w3) :
    LV S (w3.setCell ⟨g, n, none⟩ y') (.slice (some ⟨g, 0, none⟩) (n + 1) cap2) (Lv ++ [L']) ∧ Below w.heap.size w (w3.setCell ⟨g, n, none⟩ y') ∧ (∃ u, w3.cell? ⟨g, n, none⟩ = some u) ∧ w3.frozen? ⟨g, n, none⟩ = false := by
  have own3 := own_keep hC.own (w' := w3) (fun g' e => ho.below.block g' (hC.own.lt g' e).2)
  obtain ⟨o1, o2, o3, o4⟩ := own_set own3 (i := n) (by omega) y'
  have e : (ys ++ [y]).set n y' = ys ++ [y'] := by rw [← hG.hn]; simp
  rw [e] at o1
  have b3 := step_below hC.bel ho.below
  have gr : w3.grownBy (w3.setCell ⟨g, n, none⟩ y') (some g) := only_set (only_refl w3 (some g)) n y'
  have b4 : Below w.heap.size w (w3.setCell ⟨g, n, none⟩ y') := step_only b3 gr o4
  refine ⟨⟨ys ++ [y'], Vls.of_own (by rw [List.length_append, List.length_cons, List.length_nil, hG.hn]; exact o1), Off.own o1 hS, (hG.rds.below b4).snoc ?_ ?_⟩, b4, o2, o3⟩
  · refine ho.prs.moved (fun g' e' => Below.heap_setCell w3 ⟨g, n, none⟩ y' g' (fun e2 => ?_))
    have h1 := (ho.1.lt g' e').1
    have h2 := (hC.own.lt g rfl).2
    simp only at e2
    omega
  · have := Off.own (S := S) ho.1 (fun i hi => Nat.lt_of_lt_of_le (hS i hi) hC.bel.size)
    exact fun g' e' => ⟨by have := (this g' e').1; simpa [World.setCell] using this, (this g' e').2⟩
set_option maxHeartbeats 4000000 in
theorem movedSet (hS : ∀ i, S i → i < w.heap.size) (hu : Up L) (hl : L.length + 1 ≤ 1000000000) (h1 : k.size ≤ 65536) (h2 : v.size ≤ 65536) (hG : Given S w n b off cap Lv L ys y) (hz : n + 1 ≤ 1000000000) :
    Calls Try.prog 8 #[.slice (some ⟨b, off, none⟩) (n + 1) cap, .agg #[.int .i64 0, .string k, .string v]] w fun e w' => ∃ lv, e = .returned (.tuple #[lv, .int .i64 0]) ∧ LV S w' lv (Lv ++ [lset L k v]) ∧ Below w.heap.size w w' := by
  obtain ⟨i0, hi, hz0, hz1, hz2⟩ := info_parts infoS
  have HG := Lib.hid hG
  have hw : IntKind.i64.wrap (n : Int) = (n : Int) := IntWalk.i64_in _ (by omega)
  have HZ := Lib.hid hz
  clear hz
  have g1 : ¬ (65536 : Int) < (k.size : Int) := by omega
  have g2 : ¬ (65536 : Int) < (v.size : Int) := by omega
  have g3 : (n : Int) < (n : Int) + 1 := by omega
  have g4 : (0 : Int) ≤ (n : Int) := by omega
  have HSet : Hid (∀ w2, Below w.heap.size w w2 → ∀ W, Since w2 W → Calls Try.prog 24 #[y, .string k, .string v] W fun e w' => ∃ v' c, e = .returned (.tuple #[v', .bool c]) ∧ OwnPrs w2.heap.size v' (lset L k v) w2 w' ∧ Since w2 w') := fun w2 hb W hW =>
    (rSet y L k v W (hG.prs.below (step_below hb hW.below)) hu hl).mono fun e w' ⟨v', he, ho⟩ => ⟨v', _, he, ⟨own_base ho.1 hW.below.size, step_below hW.below ho.below, Nat.le_trans hW.below.size ho.below.size⟩, since_of (step_below hW.below ho.below)⟩
  have HSB := Lib.hid hS
  clear hG hu hl h1 h2 hS
  go_enter Try.func8, Try.ntmps8
  go_wp2_with (at_builtin; refine wpList_append_own_at _ rfl _ _ 29 rfl w.heap.size 26 i0 _ 1 24 Try.underlying29 hi hz0 hz1 hz2 rfl (by decide) (.slice none 0 0) 0 [] rfl (World.ownsRow_nil _ _ _ _) ⟨b, off, none⟩ (n + 1) cap (ys ++ [y]) rfl (by simp [HG.out.hn]) (HG.out.cells _) HG.out.one (by have := HZ.out; unfold maxLen; omega) (by have := HZ.out; omega) (by simp) ?_; intro v' w2 own2 gr2 _ at2; obtain ⟨g, cap2, rfl, hC⟩ := copied HG.out.hn HG.out.vls own2 gr2; clear own2 gr2 at2; have e0 : w2.cell? ⟨w.heap.size, 0, none⟩ = some (.int .i64 0) := hC.box.cell 0; have e1 : w2.cell? ⟨w.heap.size, 1, none⟩ = some (.string k) := hC.box.cell 1; have e2 : w2.cell? ⟨w.heap.size, 2, none⟩ = some (.string v) := hC.box.cell 2; have c9 := hC.last; replace hC := Lib.hid hC)
  have HS := Lib.hid (HSet.out w2 hC.out.bel)
  clear HSet
  go_region_held3 (fun W => W.cell? ⟨b, off + n, none⟩ = some y ∧ W.cell? ⟨w.heap.size, 1, none⟩ = some (.string k) ∧ W.cell? ⟨w.heap.size, 2, none⟩ = some (.string v))
    (first | go_keep | exact ⟨s3.cell c9, s3.cell e1, s3.cell e2⟩)
    (first | (go_at_call 24; refine (HS.out _ (by exact Since.refl w2)).mono ?_; clear HS; rintro en w3 ⟨y3, c3, rfl, o3, s3⟩))
  all_goals
    obtain ⟨A3, k3, rfl, _⟩ := own_slice o3.1
    obtain ⟨q1, q2, ⟨u9, q3⟩, q4⟩ := hC.out.put k v HG.out HSB.out o3
    have HQ := Lib.hid (And.intro q1 q2)
    clear q1 q2 c9 e0 e1 e2
    go_wp2
    go_returns
    exact ⟨_, rfl, HQ.out.1, HQ.out.2⟩
set_option maxHeartbeats 4000000 in
theorem movedDelNo (hu : Up L) (hl : L.length ≤ 1000000000) (hg : lget L k = none) (hG : Given S w n b off cap Lv L ys y) (hz : n + 1 ≤ 1000000000) :
    Calls Try.prog 8 #[.slice (some ⟨b, off, none⟩) (n + 1) cap, .agg #[.int .i64 1, .string k, .string v]] w fun e w' => e = .returned (.tuple #[.slice (some ⟨b, off, none⟩) (n + 1) cap, .int .i64 8]) ∧ Below w.heap.size w w' := by
  obtain ⟨i0, hi, hz0, hz1, hz2⟩ := info_parts infoS
  have HG := Lib.hid hG
  have hw : IntKind.i64.wrap (n : Int) = (n : Int) := IntWalk.i64_in _ (by omega)
  have HZ := Lib.hid hz
  clear hz
  have g3 : (n : Int) < (n : Int) + 1 := by omega
  have g4 : (0 : Int) ≤ (n : Int) := by omega
  have HDel : Hid (∀ w2, Below w.heap.size w w2 → ∀ W, Since w2 W → Calls Try.prog 25 #[y, .string k] W fun e w' => e = .returned (.tuple #[y, .bool false]) ∧ Since w2 w') := fun w2 hb W hW =>
    (rDel0 y L k W (hG.prs.below (step_below hb hW.below)) hu hl hg).mono fun e w' ⟨he, hw⟩ => ⟨he, by rw [hw]; exact hW⟩
  clear hG hu hl hg
  go_enter Try.func8, Try.ntmps8
  go_wp2_with (at_builtin; refine wpList_append_own_at _ rfl _ _ 29 rfl w.heap.size 26 i0 _ 1 24 Try.underlying29 hi hz0 hz1 hz2 rfl (by decide) (.slice none 0 0) 0 [] rfl (World.ownsRow_nil _ _ _ _) ⟨b, off, none⟩ (n + 1) cap (ys ++ [y]) rfl (by simp [HG.out.hn]) (HG.out.cells _) HG.out.one (by have := HZ.out; unfold maxLen; omega) (by have := HZ.out; omega) (by simp) ?_; intro v' w2 own2 gr2 _ at2; obtain ⟨g, cap2, rfl, hC⟩ := copied HG.out.hn HG.out.vls own2 gr2; clear own2 gr2 at2; have e0 : w2.cell? ⟨w.heap.size, 0, none⟩ = some (.int .i64 1) := hC.box.cell 0; have e1 : w2.cell? ⟨w.heap.size, 1, none⟩ = some (.string k) := hC.box.cell 1; have e2 : w2.cell? ⟨w.heap.size, 2, none⟩ = some (.string v) := hC.box.cell 2; have c9 := hC.last; replace hC := Lib.hid hC)
  have HS := Lib.hid (HDel.out w2 hC.out.bel)
  clear HDel
  go_region_held3 (fun W => W.cell? ⟨b, off + n, none⟩ = some y ∧ W.cell? ⟨w.heap.size, 1, none⟩ = some (.string k))
    (first | go_keep | exact ⟨s3.cell c9, s3.cell e1⟩)
    (first | (go_at_call 25; refine (HS.out _ (by exact Since.refl w2)).mono ?_; clear HS; rintro en w3 ⟨rfl, s3⟩))
  all_goals
    clear c9 e0 e1 e2
    go_wp2
    go_returns
    exact ⟨rfl, step_below hC.out.bel s3.below⟩
set_option maxHeartbeats 4000000 in
theorem movedDel (o : ByteArray) (hS : ∀ i, S i → i < w.heap.size) (hu : Up L) (hl : L.length ≤ 1000000000) (hg : lget L k = some o) (hG : Given S w n b off cap Lv L ys y) (hz : n + 1 ≤ 1000000000) :
    Calls Try.prog 8 #[.slice (some ⟨b, off, none⟩) (n + 1) cap, .agg #[.int .i64 1, .string k, .string v]] w fun e w' => ∃ lv, e = .returned (.tuple #[lv, .int .i64 0]) ∧ LV S w' lv (Lv ++ [ldel L k]) ∧ Below w.heap.size w w' := by
  obtain ⟨i0, hi, hz0, hz1, hz2⟩ := info_parts infoS
  have HG := Lib.hid hG
  have hw : IntKind.i64.wrap (n : Int) = (n : Int) := IntWalk.i64_in _ (by omega)
  have HZ := Lib.hid hz
  clear hz
  have g3 : (n : Int) < (n : Int) + 1 := by omega
  have g4 : (0 : Int) ≤ (n : Int) := by omega
  have HDel : Hid (∀ w2, Below w.heap.size w w2 → ∀ W, Since w2 W → Calls Try.prog 25 #[y, .string k] W fun e w' => ∃ v', e = .returned (.tuple #[v', .bool true]) ∧ OwnPrs w2.heap.size v' (ldel L k) w2 w' ∧ Since w2 w') := fun w2 hb W hW =>
    (rDel1 y L k o W (hG.prs.below (step_below hb hW.below)) hu hl hg).mono fun e w' ⟨v', he, ho⟩ => ⟨v', he, ⟨own_base ho.1 hW.below.size, step_below hW.below ho.below, Nat.le_trans hW.below.size ho.below.size⟩, since_of (step_below hW.below ho.below)⟩
  have HSB := Lib.hid hS
  clear hG hu hl hg hS
  go_enter Try.func8, Try.ntmps8
  go_wp2_with (at_builtin; refine wpList_append_own_at _ rfl _ _ 29 rfl w.heap.size 26 i0 _ 1 24 Try.underlying29 hi hz0 hz1 hz2 rfl (by decide) (.slice none 0 0) 0 [] rfl (World.ownsRow_nil _ _ _ _) ⟨b, off, none⟩ (n + 1) cap (ys ++ [y]) rfl (by simp [HG.out.hn]) (HG.out.cells _) HG.out.one (by have := HZ.out; unfold maxLen; omega) (by have := HZ.out; omega) (by simp) ?_; intro v' w2 own2 gr2 _ at2; obtain ⟨g, cap2, rfl, hC⟩ := copied HG.out.hn HG.out.vls own2 gr2; clear own2 gr2 at2; have e0 : w2.cell? ⟨w.heap.size, 0, none⟩ = some (.int .i64 1) := hC.box.cell 0; have e1 : w2.cell? ⟨w.heap.size, 1, none⟩ = some (.string k) := hC.box.cell 1; have e2 : w2.cell? ⟨w.heap.size, 2, none⟩ = some (.string v) := hC.box.cell 2; have c9 := hC.last; replace hC := Lib.hid hC)
  have HS := Lib.hid (HDel.out w2 hC.out.bel)
  clear HDel
  go_region_held3 (fun W => W.cell? ⟨b, off + n, none⟩ = some y ∧ W.cell? ⟨w.heap.size, 1, none⟩ = some (.string k))
    (first | go_keep | exact ⟨s3.cell c9, s3.cell e1⟩)
    (first | (go_at_call 25; refine (HS.out _ (by exact Since.refl w2)).mono ?_; clear HS; rintro en w3 ⟨y3, rfl, o3, s3⟩))
  all_goals
    obtain ⟨A3, k3, rfl, _⟩ := own_slice o3.1
    obtain ⟨q1, q2, ⟨u9, q3⟩, q4⟩ := hC.out.put k v HG.out HSB.out o3
    have HQ := Lib.hid (And.intro q1 q2)
    clear q1 q2 c9 e0 e1 e2
    go_wp2
    go_returns
    exact ⟨_, rfl, HQ.out.1, HQ.out.2⟩
set_option maxHeartbeats 4000000 in
theorem movedBegin (hS : ∀ i, S i → i < w.heap.size) (hG : Given S w n b off cap Lv L ys y) (hz : n + 1 ≤ 1000000000) :
    Calls Try.prog 8 #[.slice (some ⟨b, off, none⟩) (n + 1) cap, .agg #[.int .i64 2, .string k, .string v]] w fun e w' => ∃ lv, e = .returned (.tuple #[lv, .int .i64 0]) ∧ LV S w' lv (Lv ++ [L] ++ [L]) ∧ Below w.heap.size w w' := by
  have hp := hG.prs
  obtain ⟨Ay, cy, rfl, _⟩ := hp
  obtain ⟨i0, hi, hz0, hz1, hz2⟩ := info_parts infoS
  have HG := Lib.hid hG
  have hw : IntKind.i64.wrap (n : Int) = (n : Int) := IntWalk.i64_in _ (by omega)
  have HZ := Lib.hid hz
  clear hz
  have g3 : (n : Int) < (n : Int) + 1 := by omega
  have g4 : (0 : Int) ≤ (n : Int) := by omega
  have HSB := Lib.hid hS
  clear hG hS
  go_enter Try.func8, Try.ntmps8
  go_wp2_with (first | (at_builtin; refine wpList_append_own_at _ rfl _ _ 29 rfl w.heap.size 26 i0 _ 1 24 Try.underlying29 hi hz0 hz1 hz2 rfl (by decide) (.slice (some ⟨g, 0, none⟩) (n + 1) cap2) (n + 1) (ys ++ [.slice Ay L.length cy]) rfl (hC.out.own.alloc _) ⟨w2.heap.size, 0, none⟩ 1 1 [.slice Ay L.length cy] rfl rfl (World.news_of_block (cs := #[.slice Ay L.length cy]) (t := 26) (fr := (0, 0)) (heap_alloc_new w2 _)) (by simp [Value.oneCell']) (by have := HZ.out; unfold maxLen; omega) (by have := HZ.out; omega) (by have := hC.out.bel.size; simp; omega) ?_; intro v3 w3 own3 gr3 _ at3; replace own3 := Lib.hid own3; replace gr3 := Lib.hid gr3) | (at_builtin; refine wpList_append_own_at _ rfl _ _ 29 rfl w.heap.size 26 i0 _ 1 24 Try.underlying29 hi hz0 hz1 hz2 rfl (by decide) (.slice none 0 0) 0 [] rfl (World.ownsRow_nil _ _ _ _) ⟨b, off, none⟩ (n + 1) cap (ys ++ [.slice Ay L.length cy]) rfl (by simp [HG.out.hn]) (HG.out.cells _) HG.out.one (by have := HZ.out; unfold maxLen; omega) (by have := HZ.out; omega) (by simp) ?_; intro v' w2 own2 gr2 _ at2; obtain ⟨g, cap2, rfl, hC⟩ := copied HG.out.hn HG.out.vls own2 gr2; clear own2 gr2 at2; have e0 : w2.cell? ⟨w.heap.size, 0, none⟩ = some (.int .i64 2) := hC.box.cell 0; have e1 : w2.cell? ⟨w.heap.size, 1, none⟩ = some (.string k) := hC.box.cell 1; have e2 : w2.cell? ⟨w.heap.size, 2, none⟩ = some (.string v) := hC.box.cell 2; have c9 := hC.last; replace hC := Lib.hid hC))
  go_returns
  have gr := gr3.out
  have ow := own3.out
  have hb : Below w.heap.size w w3 := (hC.out.bel.alloc hC.out.bel.size _).grown gr (by have := hC.out.bel.size; simp; omega) (fun k e => by cases e; exact (hC.out.own.lt _ rfl).1)
  refine ⟨v3, rfl, ?_, hb⟩
  have := ((HG.out.rds.below hb).snoc (HG.out.prs.below hb) (HG.out.offy.below hb)).snoc (HG.out.prs.below hb) (HG.out.offy.below hb)
  rw [show Lv ++ [L, L] = Lv ++ [L] ++ [L] by simp]
  refine ⟨_, Vls.of_own (base := w.heap.size) (e := 26) ?_, Off.own ow HSB.out, this⟩
  rw [show (ys ++ [Value.slice Ay L.length cy] ++ [Value.slice Ay L.length cy]).length = n + 1 + 1 by simp [HG.out.hn]]
  exact ow
set_option maxHeartbeats 4000000 in
theorem movedNone (kd : Int) (h0 : kd ≠ 0) (h1 : kd ≠ 1) (h2 : kd ≠ 2) (hn : n = 0) (hG : Given S w n b off cap Lv L ys y) (hz : n + 1 ≤ 1000000000) :
    Calls Try.prog 8 #[.slice (some ⟨b, off, none⟩) (n + 1) cap, .agg #[.int .i64 kd, .string k, .string v]] w fun e w' => e = .returned (.tuple #[.slice (some ⟨b, off, none⟩) (n + 1) cap, .int .i64 10]) ∧ Below w.heap.size w w' := by
  obtain ⟨i0, hi, hz0, hz1, hz2⟩ := info_parts infoS
  have HG := Lib.hid hG
  have hw : IntKind.i64.wrap (n : Int) = (n : Int) := IntWalk.i64_in _ (by omega)
  have HZ := Lib.hid hz
  clear hz
  have k0 : (kd == 0) = false := by simpa using h0
  have k1 : (kd == 1) = false := by simpa using h1
  have k2 : (kd == 2) = false := by simpa using h2
  have kn : ((n : Int) == 0) = true := by simp [hn]
  clear hG h0 h1 h2 hn
  go_enter Try.func8, Try.ntmps8
  go_wp2_with (at_builtin; refine wpList_append_own_at _ rfl _ _ 29 rfl w.heap.size 26 i0 _ 1 24 Try.underlying29 hi hz0 hz1 hz2 rfl (by decide) (.slice none 0 0) 0 [] rfl (World.ownsRow_nil _ _ _ _) ⟨b, off, none⟩ (n + 1) cap (ys ++ [y]) rfl (by simp [HG.out.hn]) (HG.out.cells _) HG.out.one (by have := HZ.out; unfold maxLen; omega) (by have := HZ.out; omega) (by simp) ?_; intro v' w2 own2 gr2 _ at2; obtain ⟨g, cap2, rfl, hC⟩ := copied HG.out.hn HG.out.vls own2 gr2; clear own2 gr2 at2; have e0 : w2.cell? ⟨w.heap.size, 0, none⟩ = some (.int .i64 kd) := hC.box.cell 0; have e1 : w2.cell? ⟨w.heap.size, 1, none⟩ = some (.string k) := hC.box.cell 1; have e2 : w2.cell? ⟨w.heap.size, 2, none⟩ = some (.string v) := hC.box.cell 2; have c9 := hC.last; replace hC := Lib.hid hC)
  go_returns
  exact ⟨rfl, hC.out.bel⟩
/-- the last one is left out -/
theorem Copied.cut {w2 : World} {g cap2 : Nat} {kd : Int} (hG : Given S w n b off cap Lv L ys y) (hC : Copied w w2 n b off g cap2 kd k v ys y) : w2.ownsRow w.heap.size 26 1 (.slice (some ⟨g, 0, none⟩) n cap2) n ys := by
  obtain ⟨g', cap', e, o, _⟩ := own_take (k := n) hC.own (by omega) (by omega)
  cases e
  have e : (ys ++ [y]).take n = ys := by rw [← hG.hn]; simp
  rw [e] at o
  exact o
set_option maxHeartbeats 4000000 in
theorem movedRoll (kd : Int) (h0 : kd ≠ 0) (h1 : kd ≠ 1) (h2 : kd ≠ 2) (h3 : kd ≠ 3) (hS : ∀ i, S i → i < w.heap.size) (hn : 0 < n) (hG : Given S w n b off cap Lv L ys y) (hz : n + 1 ≤ 1000000000) :
    Calls Try.prog 8 #[.slice (some ⟨b, off, none⟩) (n + 1) cap, .agg #[.int .i64 kd, .string k, .string v]] w fun e w' => ∃ lv, e = .returned (.tuple #[lv, .int .i64 0]) ∧ LV S w' lv (Lv) ∧ Below w.heap.size w w' := by
  obtain ⟨i0, hi, hz0, hz1, hz2⟩ := info_parts infoS
  have HG := Lib.hid hG
  have hw : IntKind.i64.wrap (n : Int) = (n : Int) := IntWalk.i64_in _ (by omega)
  have HZ := Lib.hid hz
  clear hz
  have k0 : (kd == 0) = false := by simpa using h0
  have k1 : (kd == 1) = false := by simpa using h1
  have k2 : (kd == 2) = false := by simpa using h2
  have k3 : (kd == 3) = false := by simpa using h3
  have kn : ((n : Int) == 0) = false := by rw [beq_eq_false_iff_ne]; omega
  have g4 : (0 : Int) ≤ (n : Int) := by omega
  have HSB := Lib.hid hS
  clear hG h0 h1 h2 h3 hS
  go_enter Try.func8, Try.ntmps8
  go_wp2_with (at_builtin; refine wpList_append_own_at _ rfl _ _ 29 rfl w.heap.size 26 i0 _ 1 24 Try.underlying29 hi hz0 hz1 hz2 rfl (by decide) (.slice none 0 0) 0 [] rfl (World.ownsRow_nil _ _ _ _) ⟨b, off, none⟩ (n + 1) cap (ys ++ [y]) rfl (by simp [HG.out.hn]) (HG.out.cells _) HG.out.one (by have := HZ.out; unfold maxLen; omega) (by have := HZ.out; omega) (by simp) ?_; intro v' w2 own2 gr2 _ at2; obtain ⟨g, cap2, rfl, hC⟩ := copied HG.out.hn HG.out.vls own2 gr2; clear own2 gr2 at2; have e0 : w2.cell? ⟨w.heap.size, 0, none⟩ = some (.int .i64 kd) := hC.box.cell 0; have e1 : w2.cell? ⟨w.heap.size, 1, none⟩ = some (.string k) := hC.box.cell 1; have e2 : w2.cell? ⟨w.heap.size, 2, none⟩ = some (.string v) := hC.box.cell 2; have c9 := hC.last; replace hC := Lib.hid hC; have hsl := vls_upto (P := Try.prog) lv_und lv_elem hi lv_cells (some ⟨g, 0, none⟩) (n + 1) cap2 n (by have := hC.out.room; omega))
  go_returns
  have o := hC.out.cut k v HG.out
  exact ⟨_, rfl, ⟨ys, Vls.of_own (by rw [HG.out.hn]; exact o), Off.own o HSB.out, HG.out.rds.below hC.out.bel⟩, hC.out.bel⟩
/-- the last one takes the place of the one before -/
theorem Copied.swap {w2 : World} {g cap2 : Nat} {kd : Int} {A : List (List KV)} {x : List KV} (hA : Lv = A ++ [x]) (hG : Given S w n b off cap Lv L ys y) (hC : Copied w w2 n b off g cap2 kd k v ys y) (hS : ∀ i, S i → i < w.heap.size) :
    LV S (w2.setCell ⟨g, n - 1, none⟩ y) (.slice (some ⟨g, 0, none⟩) n cap2) (A ++ [L]) ∧ Below w.heap.size w (w2.setCell ⟨g, n - 1, none⟩ y) ∧ (∃ u, w2.cell? ⟨g, n - 1, none⟩ = some u) ∧ w2.frozen? ⟨g, n - 1, none⟩ = false := by
  have hr := hG.rds
  rw [hA] at hr
  obtain ⟨zs, z, rfl, h1, _, _⟩ := hr.split
  have hn := hG.hn
  rw [List.length_append, List.length_cons, List.length_nil] at hn
  obtain ⟨o1, o2, o3, o4⟩ := own_set (hC.cut k v hG) (i := n - 1) (by omega) y
  have e : (zs ++ [z]).set (n - 1) y = zs ++ [y] := by rw [← hn]; simp
  rw [e] at o1
  have gr : w2.grownBy (w2.setCell ⟨g, n - 1, none⟩ y) (some g) := only_set (only_refl w2 (some g)) (n - 1) y
  have b4 : Below w.heap.size w (w2.setCell ⟨g, n - 1, none⟩ y) := step_only hC.bel gr o4
  exact ⟨⟨zs ++ [y], Vls.of_own (by rw [List.length_append, List.length_cons, List.length_nil, hn]; exact o1), Off.own o1 hS, (h1.below b4).snoc (hG.prs.below b4) (hG.offy.below b4)⟩, b4, o2, o3⟩
set_option maxHeartbeats 4000000 in
theorem movedCommit {A : List (List KV)} {x : List KV} (hA : Lv = A ++ [x]) (hS : ∀ i, S i → i < w.heap.size) (hn : 0 < n) (hG : Given S w n b off cap Lv L ys y) (hz : n + 1 ≤ 1000000000) :
    Calls Try.prog 8 #[.slice (some ⟨b, off, none⟩) (n + 1) cap, .agg #[.int .i64 3, .string k, .string v]] w fun e w' => ∃ lv, e = .returned (.tuple #[lv, .int .i64 0]) ∧ LV S w' lv (A ++ [L]) ∧ Below w.heap.size w w' := by
  have hp := hG.prs
  obtain ⟨Ay, cy, rfl, _⟩ := hp
  obtain ⟨i0, hi, hz0, hz1, hz2⟩ := info_parts infoS
  have HG := Lib.hid hG
  have hw : IntKind.i64.wrap (n : Int) = (n : Int) := IntWalk.i64_in _ (by omega)
  have HZ := Lib.hid hz
  clear hz
  have g3 : (n : Int) < (n : Int) + 1 := by omega
  have g4 : (0 : Int) ≤ (n : Int) := by omega
  have kn : ((n : Int) == 0) = false := by rw [beq_eq_false_iff_ne]; omega
  have hw1 : IntKind.i64.wrap ((n : Int) - 1) = ((n - 1 : Nat) : Int) := by rw [IntWalk.i64_in _ (by have := HZ.out; omega)]; omega
  obtain ⟨p, hp⟩ : ∃ p, p = n - 1 := ⟨_, rfl⟩
  have g5 : (0 : Int) ≤ (p : Int) := by omega
  have g6 : (p : Int) < (n : Int) := by omega
  rw [← hp] at hw1
  have HP := Lib.hid hp
  clear hp
  replace hA := Lib.hid hA
  have HSB := Lib.hid hS
  clear hG hS
  go_enter Try.func8, Try.ntmps8
  go_wp2_with (at_builtin; refine wpList_append_own_at _ rfl _ _ 29 rfl w.heap.size 26 i0 _ 1 24 Try.underlying29 hi hz0 hz1 hz2 rfl (by decide) (.slice none 0 0) 0 [] rfl (World.ownsRow_nil _ _ _ _) ⟨b, off, none⟩ (n + 1) cap (ys ++ [.slice Ay L.length cy]) rfl (by simp [HG.out.hn]) (HG.out.cells _) HG.out.one (by have := HZ.out; unfold maxLen; omega) (by have := HZ.out; omega) (by simp) ?_; intro v' w2 own2 gr2 _ at2; obtain ⟨g, cap2, rfl, hC⟩ := copied HG.out.hn HG.out.vls own2 gr2; clear own2 gr2 at2; have e0 : w2.cell? ⟨w.heap.size, 0, none⟩ = some (.int .i64 3) := hC.box.cell 0; have e1 : w2.cell? ⟨w.heap.size, 1, none⟩ = some (.string k) := hC.box.cell 1; have e2 : w2.cell? ⟨w.heap.size, 2, none⟩ = some (.string v) := hC.box.cell 2; have c9 := hC.last; replace hC := Lib.hid hC; have hsl := vls_upto (P := Try.prog) lv_und lv_elem hi lv_cells (some ⟨g, 0, none⟩) (n + 1) cap2 n (by have := hC.out.room; omega); obtain ⟨q1, q2, ⟨u9, q3⟩, q4⟩ := hC.out.swap k v hA.out HG.out HSB.out; have HQ := Lib.hid (And.intro q1 q2); clear q1 q2; rw [← HP.out] at HQ q3 q4)
  go_returns
  exact ⟨_, rfl, HQ.out.1, HQ.out.2⟩
end
theorem movedC {S : Nat → Prop} {w : World} {lv : Value} {Lv : List (List KV)} {L : List KV} (kd : Int) (k v : ByteArray) (h : LV S w lv (Lv ++ [L])) (hS : ∀ i, S i → i < w.heap.size) (hu : Up L) (hl : L.length + 1 ≤ 1000000000) (hz : Lv.length + 1 ≤ 1000000000) :
    Calls Try.prog 8 #[lv, .agg #[.int .i64 kd, .string k, .string v]] w (Mvd S w (act Lv L kd k v)) := by
  obtain ⟨b, off, cap, ys, y, rfl, hG⟩ := given h
  by_cases h0 : kd = 0
  · subst h0
    unfold act
    rw [if_pos rfl]
    by_cases h1 : 65536 < k.size ∨ 65536 < v.size
    · rw [if_pos h1]
      exact (movedLong k v h1 hG hz).mono fun e w' ⟨he, hb⟩ => ⟨_, he, hG.lv hb, hb⟩
    · rw [if_neg h1]
      exact movedSet k v hS hu hl (by omega) (by omega) hG hz
  · by_cases h1 : kd = 1
    · subst h1
      unfold act
      rw [if_neg (by decide), if_pos rfl]
      cases hg : lget L k with
      | none => exact (movedDelNo k v hu (by omega) hg hG hz).mono fun e w' ⟨he, hb⟩ => ⟨_, he, hG.lv hb, hb⟩
      | some o => exact movedDel k v o hS hu (by omega) hg hG hz
    · by_cases h2 : kd = 2
      · subst h2
        unfold act
        rw [if_neg (by decide), if_neg (by decide), if_pos rfl]
        exact movedBegin k v hS hG hz
      · by_cases hn : Lv = []
        · subst hn
          rw [act_none h0 h1 h2]
          refine (movedNone k v kd h0 h1 h2 rfl hG hz).mono ?_
          rintro e w' ⟨he, hb⟩
          exact ⟨_, he, hG.lv hb, hb⟩
        · have hpos : 0 < Lv.length := List.length_pos_iff.2 hn
          obtain ⟨A, x, hA⟩ := snoc_of Lv hn
          have ha : act Lv L kd k v = (A, if kd = 3 then L else x, 0) := by rw [hA]; exact act_back h0 h1 h2
          rw [ha]
          by_cases h3 : kd = 3
          · subst h3
            rw [if_pos rfl]
            exact movedCommit k v hA hS hpos hG hz
          · rw [if_neg h3]
            have := movedRoll k v kd h0 h1 h2 h3 hS hpos hG hz
            refine this.mono ?_
            rintro e w' ⟨lv, he, hl, hb⟩
            exact ⟨lv, he, by rw [← hA]; exact hl, hb⟩
end Go.Proofs.Ytpjndgcliegloaa.W
