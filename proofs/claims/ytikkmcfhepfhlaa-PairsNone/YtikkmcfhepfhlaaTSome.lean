/-
  The law's 'some': the first ones whose keys begin with something.
-/
import Derived.Test.YtikkmcfhepfhlaaTList
namespace Go.Proofs.Ytikkmcfhepfhlaa.W
open Go.RowKit Go.Shelf
attribute [local go_sem] Oper.semAt_some wide_fn wide_depth

theorem stop_count (m : Nat) : ∀ (ys pre : List KV), pre.length < m → (stopAt (fun q => !(q.length == m)) pre ys = none → pre ++ ys = (pre ++ ys).take m) ∧ ∀ q, stopAt (fun q => !(q.length == m)) pre ys = some q → q = (pre ++ ys).take m
  | [], pre, h => ⟨fun _ => by rw [List.append_nil, List.take_of_length_le (by omega)], fun q h => by cases h⟩
  | y :: ys, pre, h => by
    simp only [stopAt]
    by_cases e : pre.length + 1 = m
    · have e1 : (!((pre ++ [y]).length == m)) = false := by simp [e]
      rw [if_neg (by rw [e1]; decide)]
      refine ⟨fun h => (by cases h), fun q h => ?_⟩
      cases h
      rw [show pre ++ y :: ys = (pre ++ [y]) ++ ys by simp, List.take_append_of_le_length (by simp; omega), List.take_of_length_le (by simp; omega)]
    · have e1 : (!((pre ++ [y]).length == m)) = true := by simp [e]
      rw [if_pos e1]
      have ih := stop_count m ys (pre ++ [y]) (by simp; omega)
      rw [show pre ++ y :: ys = (pre ++ [y]) ++ ys by simp]
      exact ih

theorem run_func_nil (f : Nat) (lb : Array Value) (W : World) : (binOp .eql 53 (.func (.func f) #[] lb) .nilFunc).run Try.prog W = .ok (.bool false) W := by
  rfl
set_option maxHeartbeats 1000000 in
theorem someNone (s : Option Addr) (pf : ByteArray) (L : List KV) (w : World) (n : Int) (hn : n < 1)
    (HA : ∀ W, Since w W → Calls Try.prog 21 #[.pointer s, .string pf] W (Goes L W)) :
    Calls Try.prog 16 #[.pointer s, .string pf, .int .i64 n] w fun e w' => e = .returned (.slice none 0 0) ∧ Below w.heap.size w w' := by
  have H2 := Lib.hid HA
  clear HA
  have hd : decide (n < 1) = true := by simpa using hn
  have hfn := run_func_nil 27
  go_enter Try.func16, Try.ntmps16
  go_wp2_with fail
  have bk : Blk (w.alloc (.cells #[.int .i64 n] 3)) w.heap.size 3 #[.int .i64 n] := Blk.new _ _ _
  have s1 : Since w (w.alloc (.cells #[.int .i64 n] 3)) := since_of ((Below.refl _ _).alloc (Nat.le_refl _) _)
  generalize w.alloc (.cells #[.int .i64 n] 3) = w1 at *
  refine (H2.out w1 s1).mono ?_
  rintro e W3 ⟨lb, rfl, b3, _⟩
  have c0 : W3.cell? ⟨w.heap.size, 0, none⟩ = some (.int .i64 n) := (bk.below b3 bk.lt).cell 0
  go_wp2
  go_ret
  exact ⟨rfl, step_below s1.below b3⟩

set_option maxRecDepth 100000 in
set_option maxHeartbeats 2000000 in
theorem someAt (s : Option Addr) (pf : ByteArray) (L : List KV) (w : World) (m : Nat) (hm : 0 < m) (hz : L.length ≤ 1000000000)
    (HA : ∀ W, Since w W → Calls Try.prog 21 #[.pointer s, .string pf] W (Goes L W)) :
    Calls Try.prog 16 #[.pointer s, .string pf, .int .i64 m] w fun e w' => ∃ v, e = .returned v ∧ w'.ownsRow w.heap.size 44 2 v (L.take m).length (prVals (L.take m)) ∧ Below w.heap.size w w' := by
  refine (callsIn_wide (n := 3)).1 ?_
  have H2 := Lib.hid HA
  clear HA
  have hd : decide ((m : Int) < 1) = false := by simp; omega
  have hfn := run_func_nil 27
  refine callsIn_of_wp_marks Try.func16 rfl trivial ?_ rfl
  simp only [Try.ntmps16, List.size_toArray, List.length_cons, List.length_nil, Nat.reduceAdd, Nat.reduceSub, Array.replicate_succ, Array.replicate_zero, List.push_toArray, List.append_toArray, List.nil_append, List.cons_append]
  gi_wp2_with fail
  have bk : Blk (w.alloc (.cells #[.int .i64 m] 3)) w.heap.size 3 #[.int .i64 m] := Blk.new _ _ _
  have s1 : Since w (w.alloc (.cells #[.int .i64 m] 3)) := since_of ((Below.refl _ _).alloc (Nat.le_refl _) _)
  generalize w.alloc (.cells #[.int .i64 m] 3) = w1 at *
  refine (callsIn_wide.2 (H2.out w1 s1)).mono ?_
  rintro e W3 ⟨lb, rfl, b3, hseq⟩
  have bk3 := bk.below b3 bk.lt
  have c0 : W3.cell? ⟨w.heap.size, 0, none⟩ = some (.int .i64 m) := bk3.cell 0
  have z3 : w.heap.size < W3.heap.size := bk3.lt
  have b13 := step_below s1.below b3
  clear H2 bk s1
  gi_wp2
  obtain ⟨W4, hW4⟩ : ∃ W4, W4 = W3.alloc (.cells #[.slice none 0 0] 26) := ⟨_, rfl⟩
  rw [← hW4]
  have b4 : Below W3.heap.size W3 W4 := by rw [hW4]; exact (Below.refl _ _).alloc (Nat.le_refl _) _
  have z4 : W4.heap.size = W3.heap.size + 1 := by rw [hW4]; simp
  have bp4 : BoxPrs w.heap.size W3.heap.size 26 [] (fun i => i = W3.heap.size ∨ (none : Option Nat) = some i) W4 (.slice none 0 0) :=
    ⟨by rw [hW4]; exact Blk.new _ _ _, World.ownsRow_nil _ _ _ _, by omega, fun i => Iff.rfl⟩
  have bk4 := bk3.below b4 bk3.lt
  have b14 := step_below b13 b4
  clear hW4
  refine range_seq (gf := 27) (lb := lb) (xs := L) (w0 := W3) rfl (enters_of Try.func27 (by kernel_rfl) rfl)
    (hseq (fun i => i = W3.heap.size ∨ (none : Option Nat) = some i) (fun i hi => .inl (by
      rcases hi with rfl | hi
      · omega
      · cases hi))) b4 rfl
    (fun q => !(q.length == m)) (fun pre S W => (boxInv w.heap.size W3.heap.size 26 pre S W ∧ pre.length < m) ∧ Blk W w.heap.size 3 #[.int .i64 m] ∧ ¬ S w.heap.size)
    (fun c q S W => c = .exit 0 ∧ boxInv w.heap.size W3.heap.size 26 q S W)
    (fun pre S A B row hs hg hr => ⟨⟨box_abides W4.heap.size _ _ _ _ _ _ _ _ hs.1.1 hg hr, hs.1.2⟩, hs.2.1.grown hg (fun e => hs.2.2 (by have := (hr _ e.symm).1; omega)), hs.2.2⟩)
    (fun c pre S A B row hs hg hr => ⟨hs.1, box_abides W4.heap.size _ _ _ _ _ _ _ _ hs.2 hg hr⟩) (fun pre S W hs => box_bounded _ _ _ _ _ _ hs.1.1)
    (fun i => i = W3.heap.size ∨ (none : Option Nat) = some i) ⟨⟨⟨_, bp4⟩, hm⟩, bk4, fun h => h.elim (fun h => by omega) (fun h => by cases h)⟩ (fun _ _ h => h)
    (fun x => { tmps := #[.pointer s, .string pf, .int .i64 m, undef, undef, .pointer (some ⟨w.heap.size, 0, none⟩), .slice none 0 0, .func (.func 27) #[] lb, .pointer (some ⟨W3.heap.size, 0, none⟩), .string x.1, .string x.2, .pointer s, .string pf, .func (.func 27) #[] lb, .func (.func 27) #[] lb, .bool false, .bool false, .int .i64 m, .bool false, .bool false, .func (.func 27) #[] lb, .string x.1, .string x.2, undef, undef, undef, undef, undef, undef, undef, undef, undef, undef, undef], defers := [] }) ?assign ?body ?done ?stop
  case assign =>
    intro l' k x W' K hK
    gi_wp2
    exact hK
  case body =>
    rintro l' k pre ⟨xk, xv⟩ S' W' ⟨⟨⟨v, hv⟩, hpm⟩, hbk, nS⟩ hpre
    have c0 : W'.cell? ⟨W3.heap.size, 0, none⟩ = some v := hv.box.cell 0
    have hlen : pre.length + 1 ≤ L.length := by have := hpre.length_le; simpa using this
    have hB : w.heap.size ≤ W'.heap.size := by have := hv.box.lt; omega
    by_cases e : pre.length + 1 = m
    · have he : ((pre.length : Int) + 1 == (m : Int)) = true := by simp; omega
      have HE := Lib.hid e
      clear e
      gi_wp2_with (gi_at_builtin; refine wpListIn_append_prs _ rfl _ _ 26 Try.underlying26 rfl w.heap.size v _ pre [(xk, xv)] rfl rfl (hv.own.alloc _) (prs_built W' (xk, xv)) (by simp; omega) (by simp; omega) ?_; intro v' w1 own' gr1 at1; obtain ⟨g', cap', rfl⟩ := own_form own'; obtain ⟨q1, q2, S2, q3, q4⟩ := hv.push (by decide) own' gr1 at1; have d0 : w1.cell? ⟨W3.heap.size, 0, none⟩ = some v := q1.cell 0; have d1 : w1.frozen? ⟨W3.heap.size, 0, none⟩ = false := q1.frozen 0; have f1 := q4.box.cell 0; have f2 := (q2.blk hbk nS).cell 0)
      exact ⟨by simp [HE.out], q2, S2, q3, rfl, _, q4⟩
    · have he : ((pre.length : Int) + 1 == (m : Int)) = false := by simp; omega
      gi_wp2_with (gi_at_builtin; refine wpListIn_append_prs _ rfl _ _ 26 Try.underlying26 rfl w.heap.size v _ pre [(xk, xv)] rfl rfl (hv.own.alloc _) (prs_built W' (xk, xv)) (by simp; omega) (by simp; omega) ?_; intro v' w1 own' gr1 at1; obtain ⟨g', cap', rfl⟩ := own_form own'; obtain ⟨q1, q2, S2, q3, q4⟩ := hv.push (by decide) own' gr1 at1; have d0 : w1.cell? ⟨W3.heap.size, 0, none⟩ = some v := q1.cell 0; have d1 : w1.frozen? ⟨W3.heap.size, 0, none⟩ = false := q1.frozen 0; have f1 := q4.box.cell 0; have f2 := (q2.blk hbk nS).cell 0)
      exact ⟨by simp [e], q2, S2, q3, ⟨⟨_, q4⟩, by simp; omega⟩, q2.blk hbk nS, q3.not hbk.lt nS⟩
  case done =>
    rintro D S' W' hD hs k4 g4 nD ⟨⟨⟨v, hv⟩, _⟩, _⟩ hK
    have hx := (stop_count m L [] hm).1 hs
    rw [List.nil_append] at hx
    have c0 : W'.cell? ⟨W3.heap.size, 0, none⟩ = some v := hv.box.cell 0
    gi_wp2
    refine ⟨by simp, .inl ⟨_, _, rfl, run_takeDeferred hK, ?_⟩⟩
    refine ⟨_, results_tmp rfl _ _ _, v, rfl, ?_, ?_⟩
    · rw [← hx]
      exact (hv.grown (grownBy_putObj' W' D (.deferred none)) (fun r e => by cases e; exact nD)).own
    · exact b14.trans ((keepS_new k4 hD _).below (by omega) (fun i hi => by
        rcases hi with rfl | hi
        · omega
        · cases hi))
  case stop =>
    rintro D c q S' W' hD hs k4 g4 nD ⟨rfl, v, hv⟩ hK
    have hx := (stop_count m L [] hm).2 q hs
    rw [List.nil_append] at hx
    have c0 : W'.cell? ⟨W3.heap.size, 0, none⟩ = some v := hv.box.cell 0
    gi_wp2
    refine ⟨by simp, .inl ⟨_, _, rfl, run_takeDeferred hK, ?_⟩⟩
    refine ⟨_, results_tmp rfl _ _ _, v, rfl, ?_, ?_⟩
    · rw [← hx]
      exact (hv.grown (grownBy_putObj' W' D (.deferred none)) (fun r e => by cases e; exact nD)).own
    · exact b14.trans ((keepS_new k4 hD _).below (by omega) (fun i hi => by
        rcases hi with rfl | hi
        · omega
        · cases hi))
end Go.Proofs.Ytikkmcfhepfhlaa.W
