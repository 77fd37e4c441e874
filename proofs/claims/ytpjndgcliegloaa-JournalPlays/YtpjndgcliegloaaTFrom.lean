/-
  Package pairs: the walk over a whole tree; from and All as iterators.
-/
import Derived.Test.YtpjndgcliegloaaTWalkA
import Derived.Test.YtpjndgcliegloaaTWalkC
namespace Go.Proofs.Ytpjndgcliegloaa.W
open Go.RowKit Go.Shelf
attribute [local go_sem] Oper.semAt_some wide_fn wide_depth

theorem keep_drew (S : Nat → Prop) (W : World) : KeepS S W W.drew := ⟨rfl, rfl, rfl, Nat.le_refl _, fun _ _ _ => rfl⟩
theorem stop_left {go : List KV → Bool} {A pre q : List KV} (h : stopAt go pre A = some q) (B : List KV) : stopAt go pre (A ++ B) = some q := by rw [stopAt_append, h]; rfl
theorem stop_here {go : List KV → Bool} {A pre : List KV} {y : KV} (h : stopAt go pre A = none) (hg : go (pre ++ A ++ [y]) = false) (B : List KV) : stopAt go pre (A ++ y :: B) = some (pre ++ A ++ [y]) := by
  rw [stopAt_append, h, stopAt, if_neg (by rw [hg]; decide)]; rfl
theorem stop_past {go : List KV → Bool} {A pre : List KV} {y : KV} (h : stopAt go pre A = none) (hg : go (pre ++ A ++ [y]) = true) (B : List KV) : stopAt go pre (A ++ y :: B) = stopAt go (pre ++ A ++ [y]) B := by
  rw [stopAt_append, h, stopAt, if_pos hg]; rfl

theorem walkIn (l B : Nat) (go : List KV → Bool) (J Jx : Inv) (hJ : AbidesS B J) (xs : List KV)
    (hY : ∀ k pre x S W, J pre S W → (pre ++ [x]) <+: xs → YieldAt Fence.wide k Try.prog l #[.string x.1, .string x.2] W (Round go J Jx (pre ++ [x]) S W)) (low : ByteArray) (t : BT) :
    ∀ n p pre S W, TreeS S W p t → Up t.list → J pre S W → (pre ++ lfrom t.list low) <+: xs → WalkAt go J Jx low l n p pre (lfrom t.list low) S W := by
  induction t with
  | leaf =>
    intro n p pre S W hT _ hj _
    obtain rfl : p = none := hT
    exact walkNil go J Jx low l n pre S W hj
  | node tl y tr ihl ihr =>
    intro n p pre S W hT hu hj hx
    obtain ⟨b, pl, pr, rfl, hb, hbS, hl, hr⟩ := hT
    have hm := up_mid hu
    obtain ⟨yk, yv⟩ := y
    by_cases hk : kc yk low = -1
    · have e : lfrom (BT.node tl (yk, yv) tr).list low = lfrom tr.list low := lfrom_low hu hk
      rw [e] at hx ⊢
      exact walkLow low yk yv l n b _ pl pr W _ hk hb ((ihr (n - 1) pr pre S W hr hm.2.1 hj hx).mono fun e W' h => ⟨_, h.1, h⟩)
    · have e : lfrom (BT.node tl (yk, yv) tr).list low = lfrom tl.list low ++ (yk, yv) :: lfrom tr.list low := lfrom_high hk
      rw [e] at hx ⊢
      generalize lfrom tl.list low = L at *
      generalize lfrom tr.list low = M at *
      have kd := keep_drew S W
      have hxl : (pre ++ L) <+: xs := List.IsPrefix.trans ⟨(yk, yv) :: M, by simp⟩ hx
      have hxy : (pre ++ L ++ [(yk, yv)]) <+: xs := List.IsPrefix.trans ⟨M, by simp⟩ hx
      have H := ihl (n - 1) pl pre S W.drew (hl.keep kd (Grows.refl S W)) hm.1 (hJ.drew hj) hxl
      cases hs : stopAt go pre L with
      | some q =>
        refine walkLeft low yk yv l n b _ pl pr W _ hk hb (H.mono fun e W1 h => ?_)
        obtain ⟨rfl, k1, S1, g1, ha⟩ := h
        rw [hs]
        exact ⟨rfl, by rw [stop_left hs], kd.step k1, S1, g1, after_stop (stop_left hs _) (ha.stop hs)⟩
      | none =>
        cases hg : go (pre ++ L ++ [(yk, yv)]) with
        | false =>
          refine walkHere low yk yv l n b _ pl pr W _ hk hb (H.mono fun e W1 h => ?_)
          obtain ⟨rfl, k1, S1, g1, ha⟩ := h
          rw [hs]
          have k1 := kd.step k1
          obtain ⟨_, d1, d2, _, _⟩ := node_cells (k1.blk hb hbS)
          refine ⟨rfl, d1, d2, (hY (n - 1) _ (yk, yv) S1 W1 (ha.all hs) hxy).mono fun e W2 h => ?_⟩
          obtain ⟨rfl, k2, S2, g2, _, h2⟩ := h
          rw [hg]
          exact ⟨rfl, by rw [stop_here hs hg]; rfl, k1.trans g1 k2, S2, g1.trans g2 k1.size, after_stop (stop_here hs hg _) (h2 hg)⟩
        | true =>
          refine walkAll low yk yv l n b _ pl pr W _ hk hb (H.mono fun e W1 h => ?_)
          obtain ⟨rfl, k1, S1, g1, ha⟩ := h
          rw [hs]
          have k1 := kd.step k1
          obtain ⟨_, d1, d2, _, _⟩ := node_cells (k1.blk hb hbS)
          refine ⟨rfl, d1, d2, (hY (n - 1) _ (yk, yv) S1 W1 (ha.all hs) hxy).mono fun e W2 h => ?_⟩
          obtain ⟨rfl, k2, S2, g2, h1, _⟩ := h
          rw [hg]
          have k3 := k1.trans g1 k2
          have g3 : Grows S S2 W := g1.trans g2 k1.size
          obtain ⟨_, _, _, d3, _⟩ := node_cells (k3.blk hb hbS)
          refine ⟨rfl, d3, (ihr (n - 1) pr _ S2 W2 (hr.keep k3 g3) hm.2.1 (h1 hg) (by simpa using hx)).mono fun e W3 h => ?_⟩
          obtain ⟨rfl, k4, S4, g4, ha⟩ := h
          refine ⟨_, rfl, by rw [stop_past hs hg], k3.trans g3 k4, S4, g3.trans g4 k3.size, ?_⟩
          unfold After at ha ⊢
          rw [stop_past hs hg, show pre ++ (L ++ (yk, yv) :: M) = pre ++ L ++ [(yk, yv)] ++ M by simp]
          exact ha

set_option maxHeartbeats 1000000 in
theorem from1 (l n : Nat) (bn bl : Nat) (p : Option Addr) (low : ByteArray) (W : World) (R : World → Prop) (c0 : W.cell? ⟨bn, 0, none⟩ = some (.pointer p)) (c1 : W.cell? ⟨bl, 0, none⟩ = some (.string low))
    (H1 : CallsIn Fence.wide (n - 1) Try.prog 58 #[.pointer p, .string low, .func (.yield l) #[] #[]] W fun e W' => ∃ c, e = .returned (.bool c) ∧ R W') :
    CallsIn Fence.wide n Try.prog 57 #[.func (.yield l) #[] #[], .pointer (some ⟨bn, 0, none⟩), .pointer (some ⟨bl, 0, none⟩)] W fun e W' => (∃ v, e = .returned v) ∧ R W' := by
  refine callsIn_of_wp Try.func57 rfl trivial ?_ rfl
  simp only [Try.ntmps57, List.size_toArray, List.length_cons, List.length_nil, Nat.reduceAdd, Nat.reduceSub, Array.replicate_succ, Array.replicate_zero, List.push_toArray, List.append_toArray, List.nil_append, List.cons_append]
  gi_wp2_with (first
    | (gi_at_call 58; refine H1.mono ?_; clear H1; rintro e W1 ⟨c, rfl, hR⟩))
  go_end0
  exact ⟨⟨_, rfl⟩, hR⟩

/-- from's function value goes over the pairs not less than low -/
theorem fromSeq (bn bl : Nat) (o : Nat → Prop) (p : Option Addr) (low : ByteArray) (t : BT) (w : World) (hT : TreeS o w p t) (hu : Up t.list)
    (c0 : w.cell? ⟨bn, 0, none⟩ = some (.pointer p)) (c1 : w.cell? ⟨bl, 0, none⟩ = some (.string low)) :
    SeqOf Try.prog 57 #[.pointer (some ⟨bn, 0, none⟩), .pointer (some ⟨bl, 0, none⟩)] (lfrom t.list low) o w := fun n l go J Jx S W hW hJ _ _ hY h0 hS =>
  from1 l n bn bl p low W _ ((since_of hW).cell c0) ((since_of hW).cell c1)
    ((walkIn l W.heap.size go J Jx hJ _ hY low t (n - 1) p [] S W ((hT.off hS).keep (KeepS.of_below S hW) (Grows.refl S w)) hu h0 (List.prefix_refl _)).mono fun _ _ h => ⟨_, h.1, h.2⟩)
end Go.Proofs.Ytpjndgcliegloaa.W
