/-
  The library's slices.Backward, at a journal's row of changes.
-/
import Derived.Test.YtpjndgcliegloaaJMem
import Derived.Test.YtpjndgcliegloaaCVals
import Derived.Test.YtpjndgcliegloaaCSeq
import Derived.LoopIn
import Derived.OwnWalkIn
import Derived.TacticsInMore
namespace Go.Proofs.Ytpjndgcliegloaa.W
open Go.RowKit Go.Shelf
attribute [local go_sem] Oper.semAt_some wide_fn wide_depth

theorem backC (A : Option Addr) (m cap : Nat) (w : World) : Calls Try.prog 33 #[.slice A m cap] w fun e w' =>
    e = .returned (.func (.func 43) #[] #[.pointer (some ⟨w.heap.size, 0, none⟩)]) ∧ w' = w.alloc (.cells #[.slice A m cap] 58) := by
  go_enter Try.func33, Try.ntmps33
  go_wp2
  go_ret
  exact ⟨rfl, rfl⟩
/-- the last one first, each with its place -/
def backs (xs : List Value) : List (Array Value) := (List.range xs.length).map fun k => #[.int .i64 ((xs.length - 1 - k : Nat) : Int), xs[xs.length - 1 - k]?.getD undef]
theorem backs_len (xs : List Value) : (backs xs).length = xs.length := by simp [backs]
theorem backs_at (xs : List Value) (k : Nat) (h : k < xs.length) : (backs xs)[k]'(by rw [backs_len]; exact h) = #[.int .i64 ((xs.length - 1 - k : Nat) : Int), xs[xs.length - 1 - k]'(by omega)] := by
  simp only [backs, List.getElem_map, List.getElem_range]
  rw [List.getElem?_eq_getElem (by omega)]
  rfl
theorem stop_none {go : List (Array Value) → Bool} (h : ∀ q, go q = true) : ∀ (ys pre : List (Array Value)), VS.stopAt go pre ys = none
  | [], _ => rfl
  | y :: ys, pre => by rw [VS.stopAt, if_pos (h _), stop_none h ys]

set_option maxRecDepth 100000 in
set_option maxHeartbeats 2000000 in
/-- rounds that always go on -/
theorem backSeq (c : Nat) (v : Value) (xs : List Value) (o : Nat → Prop) (w : World) (hc : Blk w c 58 #[v]) (hv : Vls w v xs) (hlt : ∀ g, v.ownBlock = some g → g < w.heap.size) (hoc : ¬ o c) (hov : ∀ g, v.ownBlock = some g → ¬ o g) (hz : xs.length ≤ 1000000000) :
    VS.SeqOf Try.prog 43 #[.pointer (some ⟨c, 0, none⟩)] (backs xs) o w := fun n l go J Jx S W hW hJ hJx hJb hY h0 hS => by
  refine callsIn_of_wp_marks Try.func43 rfl trivial ?_ rfl
  simp only [Try.ntmps43, List.size_toArray, List.length_cons, List.length_nil, Nat.reduceAdd, Nat.reduceSub, Array.replicate_succ, Array.replicate_zero, List.push_toArray, List.append_toArray, List.nil_append, List.cons_append]
  have hv' := hv
  obtain ⟨A, cap, rfl, hcap, _⟩ := hv'
  have bc := hc.below hW hc.lt
  have c0 : W.cell? ⟨c, 0, none⟩ = some (.slice A xs.length cap) := bc.cell 0
  have HV := Lib.hid (And.intro hv (And.intro hlt (And.intro hov hc)))
  have nc : Hid (¬ S c) := fun h => hoc (hS c hc.lt h)
  have nv : Hid (∀ g, (Value.slice A xs.length cap).ownBlock = some g → ¬ S g) := fun g e h => hov g e (hS g (hlt g e) h)
  have hw0 : IntKind.i64.wrap ((xs.length : Int) - 1) = (xs.length : Int) - 1 := IntWalk.i64_in _ (by omega)
  have R0 : ∃ k : Nat, k ≤ xs.length ∧ Value.int .i64 ((xs.length : Int) - 1) = .int .i64 ((xs.length : Int) - 1 - k) ∧ Hid (VS.stopAt go [] ((backs xs).take k) = none ∧ KeepS S W W ∧ ∃ S', Grows S S' W ∧ J ((backs xs).take k) S' W) :=
    ⟨0, Nat.zero_le _, by simp, Lib.hid ⟨by simp [VS.stopAt], KeepS.refl _ _, S, Grows.refl _ _, by simpa using h0⟩⟩
  clear hv hlt hov hoc hc bc
  gi_wp2
  gi_loopw [3] (fun i wr => ∃ k : Nat, k ≤ xs.length ∧ i = .int .i64 ((xs.length : Int) - 1 - k) ∧ Hid (VS.stopAt go [] ((backs xs).take k) = none ∧ KeepS S W wr ∧ ∃ S', Grows S S' W ∧ J ((backs xs).take k) S' wr)) (fun i _ => (intOf i + 1).toNat)
  case atStart => exact R0
  case round =>
    clear R0
    obtain ⟨k, hk, rfl, HI⟩ := hrel
    by_cases hlt : k < xs.length
    · obtain ⟨hst, hkeep, S', hgr, hj⟩ := HI.out
      obtain ⟨i, hi, hiL⟩ : ∃ i : Nat, (xs.length : Int) - 1 - k = (i : Int) ∧ i = xs.length - 1 - k := ⟨xs.length - 1 - k, by omega, rfl⟩
      have hix : i < xs.length := by omega
      have d0 : wr.cell? ⟨c, 0, none⟩ = some (.slice A xs.length cap) := hkeep.cell c0 nc.out
      obtain ⟨b, off, hA, hcell⟩ : ∃ b off, A = some ⟨b, off, none⟩ ∧ wr.cell? ⟨b, off + i, none⟩ = some xs[i] := by
        obtain ⟨A0, cap0, e, _, h2⟩ := HV.out.1
        cases e
        obtain ⟨b, off, rfl, h3⟩ := h2 i hix
        exact ⟨b, off, rfl, hkeep.cell ((since_of hW).cell h3) (nv.out b rfl)⟩
      have hx : (backs xs)[k]'(by rw [backs_len]; exact hlt) = #[.int .i64 (i : Int), xs[i]] := by
        rw [backs_at xs k hlt]
        subst hiL
        rfl
      have htk : (backs xs).take (k + 1) = (backs xs).take k ++ [#[.int .i64 (i : Int), xs[i]]] := by rw [List.take_succ_eq_append_getElem (by rw [backs_len]; exact hlt), hx]
      have hpre : (backs xs).take k ++ [#[.int .i64 (i : Int), xs[i]]] <+: backs xs := by rw [← htk]; exact List.take_prefix _ _
      have hdr : backs xs = (backs xs).take k ++ (#[.int .i64 (i : Int), xs[i]] :: (backs xs).drop (k + 1)) := by
        conv => lhs; rw [← List.take_append_drop (k + 1) (backs xs), htk]
        simp
      obtain ⟨fn, tmps, assign, body, hy, hR⟩ := hY (n - 1) _ _ S' wr hj hpre
      unfold VS.Round at hR
      have hge : (0 : Int) ≤ (i : Int) := by omega
      have hlt2 : (i : Int) < (xs.length : Int) := by omega
      have hwi : IntKind.i64.wrap ((i : Int) - 1) = (xs.length : Int) - 1 - ((k + 1 : Nat) : Int) := by rw [IntWalk.i64_in _ (by omega)]; omega
      have HX := Lib.hid (And.intro htk (And.intro hdr (And.intro hst (And.intro hkeep (And.intro hgr hk)))))
      have hmu : ((xs.length : Int) - 1 - ((k + 1 : Nat) : Int) + 1).toNat < ((i : Int) + 1).toNat := by omega
      clear htk hdr hst hpre hj hY HI hiL hx
      rw [hi]
      clear hi
      subst hA
      generalize hxv : xs[i] = xv at *
      cases hg : go ((backs xs).take k ++ [#[.int .i64 (i : Int), xv]]) with
      | true =>
        rw [hg] at hR
        gi_wp2
        refine hR.mono ?_
        rintro e W4 ⟨rfl, k4, S4, g4, h4, _⟩
        gi_wp2
        obtain ⟨htk, hdr, hst, _⟩ := HX.out
        refine ⟨⟨k + 1, by omega, by simp, Lib.hid ⟨?_, hkeep.trans hgr k4, S4, hgr.trans g4 hkeep.size, by rw [htk]; exact h4 trivial⟩⟩, by simp only [intOf]; omega⟩
        rw [htk, VS.stopAt_append, hst]
        simp [VS.stopAt, hg]
      | false =>
        rw [hg] at hR
        gi_wp2
        refine hR.mono ?_
        rintro e W4 ⟨rfl, k4, S4, g4, _, h4⟩
        gi_wp2
        obtain ⟨htk, hdr, hst, _⟩ := HX.out
        refine ⟨_, results_none rfl _ _ _, ⟨_, rfl⟩, hkeep.trans hgr k4, S4, hgr.trans g4 hkeep.size, VS.after_stop ?_ (h4 trivial)⟩
        have e := VS.stopAt_append go ((backs xs).take k) [] (#[.int .i64 (i : Int), xv] :: (backs xs).drop (k + 1))
        rw [← hdr] at e
        rw [e, hst]
        simp [VS.stopAt, hg]
    · obtain rfl : k = xs.length := by omega
      have hi1 : ¬ (0 : Int) ≤ (xs.length : Int) - 1 - xs.length := by omega
      obtain ⟨hst, hkeep, S', hgr, hj⟩ := HI.out
      rw [List.take_of_length_le (by rw [backs_len]; exact Nat.le_refl _)] at hst hj
      gi_wp2
      exact ⟨_, results_none rfl _ _ _, ⟨_, rfl⟩, hkeep, S', hgr, VS.after_all hst hj⟩
end Go.Proofs.Ytpjndgcliegloaa.W
