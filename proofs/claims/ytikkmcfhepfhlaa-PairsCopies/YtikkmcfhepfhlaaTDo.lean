/-
  The law's 'do': a deed of a store and of the reference.
-/
import Derived.Test.YtikkmcfhepfhlaaTSome
import Derived.Test.YtikkmcfhepfhlaaTRefA
namespace Go.Proofs.Ytikkmcfhepfhlaa.W
open Go.RowKit

theorem Prs.strings {w w' : World} {v : Value} {l : List KV} (h : Prs w v l) (hb : ∀ p (s : ByteArray), w.cell? p = some (.string s) → w'.cell? p = some (.string s)) : Prs w' v l := by
  obtain ⟨A, cap, rfl, hl, hc⟩ := h
  refine ⟨A, cap, rfl, hl, fun i hi => ?_⟩
  obtain ⟨b, off, rfl, h1, h2⟩ := hc i hi
  exact ⟨b, off, rfl, hb _ _ h1, hb _ _ h2⟩
/-- a list of pairs lies in no store -/
theorem Prs.store {w w' : World} {v : Value} {l L : List KV} {b : Nat} (h : Prs w v l) (hs : IsStore w b L) (hg : w.grownBy w' (some b)) : Prs w' v l := by
  refine h.strings fun p s hc => ?_
  obtain ⟨q, t, hb, _⟩ := hs
  by_cases e : p.block = b
  · obtain ⟨pb, po, px⟩ := p
    simp only at e
    subst e
    have hx : px = none := by simpa using World.cell?_spot hc
    subst hx
    have := hb.cell po
    rw [hc] at this
    match po, this with
    | 0, this => cases this
    | 1, this => cases this
    | n + 2, this => simp at this
  · exact (World.cell?_of_block (hg.block _ (World.block_lt_of_cell? w _ hc) (fun e2 => e (by cases e2; rfl)))).trans hc
/-- what a deed makes of the pairs -/
def deed (L : List KV) (kd : Int) (k v : ByteArray) : List KV := if kd = 0 then lset L k v else if kd = 1 then ldel L k else L
/-- behind a deed -/
def Done (b : Nat) (L' : List KV) (w : World) (e : Ending) (w' : World) : Prop := ∃ x, e = .returned (.tuple #[x, .bool true]) ∧ IsStore w' b L' ∧ Prs w' x L' ∧ w.grownBy w' (some b)
theorem only_below {w w1 w2 : World} {b : Nat} (h : Below w.heap.size w w1) (k : w1.grownBy w2 (some b)) : w.grownBy w2 (some b) := only_trans (only_of_below (only_refl w _) h (Nat.le_refl _)) k

section
variable (b : Nat) (x : Value) (L : List KV) (n : Int) (k v : ByteArray) (w : World)
set_option maxHeartbeats 2000000 in
theorem doSet (hS : IsStore w b L) (hX : Prs w x L) (hz : L.length + 1 ≤ 1000000000) :
    Calls Try.prog 8 #[.pointer (some ⟨b, 0, none⟩), x, .agg #[.int .i64 0, .int .i64 n, .string k, .string v]] w (Done b (lset L k v) w) := by
  have H1 := Lib.hid (fun W (h : Since w W) => rSet x L k v W (hX.below h.below) hS.up hz)
  have H2 := Lib.hid (fun W (h : Since w W) => sSet b k v L W (hS.below h.below) (by omega))
  have HS := Lib.hid hS
  clear hS hX hz
  generalize (!(lget L k).isSome) = c at *
  go_enter Try.func8, Try.ntmps8
  go_wp2_with fail
  have bk : Blk (w.alloc (.cells #[.int .i64 0, .int .i64 n, .string k, .string v] 31)) w.heap.size 31 #[.int .i64 0, .int .i64 n, .string k, .string v] := Blk.new _ _ _
  have s1 : Since w (w.alloc (.cells #[.int .i64 0, .int .i64 n, .string k, .string v] 31)) := since_of ((Below.refl _ _).alloc (Nat.le_refl _) _)
  generalize w.alloc (.cells #[.int .i64 0, .int .i64 n, .string k, .string v] 31) = w1 at *
  refine (H1.out w1 s1).mono ?_
  rintro e w2 ⟨y, rfl, o2⟩
  have s2 : Since w w2 := since_of (step_below s1.below o2.below)
  have Bd := bk.below o2.below bk.lt
  have d1 : w2.cell? ⟨w.heap.size, 1, none⟩ = some (.int .i64 n) := Bd.cell 1
  have d2 : w2.cell? ⟨w.heap.size, 2, none⟩ = some (.string k) := Bd.cell 2
  have d3 : w2.cell? ⟨w.heap.size, 3, none⟩ = some (.string v) := Bd.cell 3
  clear H1
  go_wp2_with fail
  refine (H2.out w2 s2).mono ?_
  rintro e w3 ⟨rfl, hS3, g3⟩
  go_wp2
  go_returns
  exact ⟨y, by simp, hS3, o2.prs.store (HS.out.below s2.below) g3, only_below s2.below g3⟩
set_option maxHeartbeats 2000000 in
theorem doDel (hS : IsStore w b L) (hX : Prs w x L) (hz : L.length + 1 ≤ 1000000000) :
    Calls Try.prog 8 #[.pointer (some ⟨b, 0, none⟩), x, .agg #[.int .i64 1, .int .i64 n, .string k, .string v]] w (Done b (ldel L k) w) := by
  have H1 := Lib.hid (fun W (h : Since w W) => rDel x L k W (hX.below h.below) hS.up (by omega))
  have H2 := Lib.hid (fun W (h : Since w W) => sDel b k L W (hS.below h.below) (by omega))
  have HS := Lib.hid hS
  clear hS hX hz
  generalize (lget L k).isSome = c at *
  go_enter Try.func8, Try.ntmps8
  go_wp2_with fail
  have bk : Blk (w.alloc (.cells #[.int .i64 1, .int .i64 n, .string k, .string v] 31)) w.heap.size 31 #[.int .i64 1, .int .i64 n, .string k, .string v] := Blk.new _ _ _
  have s1 : Since w (w.alloc (.cells #[.int .i64 1, .int .i64 n, .string k, .string v] 31)) := since_of ((Below.refl _ _).alloc (Nat.le_refl _) _)
  generalize w.alloc (.cells #[.int .i64 1, .int .i64 n, .string k, .string v] 31) = w1 at *
  refine (H1.out w1 s1).mono ?_
  rintro e w2 ⟨y, rfl, p2, b2⟩
  have s2 : Since w w2 := since_of (step_below s1.below b2)
  have Bd := bk.below b2 bk.lt
  have d1 : w2.cell? ⟨w.heap.size, 1, none⟩ = some (.int .i64 n) := Bd.cell 1
  have d2 : w2.cell? ⟨w.heap.size, 2, none⟩ = some (.string k) := Bd.cell 2
  have d3 : w2.cell? ⟨w.heap.size, 3, none⟩ = some (.string v) := Bd.cell 3
  clear H1
  go_wp2_with fail
  refine (H2.out w2 s2).mono ?_
  rintro e w3 ⟨rfl, hS3, g3⟩
  go_wp2
  go_returns
  exact ⟨y, by simp, hS3, p2.store (HS.out.below s2.below) g3, only_below s2.below g3⟩
set_option maxHeartbeats 2000000 in
theorem doGet (hS : IsStore w b L) (hX : Prs w x L) (hz : L.length + 1 ≤ 1000000000) :
    Calls Try.prog 8 #[.pointer (some ⟨b, 0, none⟩), x, .agg #[.int .i64 2, .int .i64 n, .string k, .string v]] w (Done b L w) := by
  have H1 := Lib.hid (fun W (h : Since w W) => sGet b k L W (hS.below h.below))
  have H2 := Lib.hid (fun W (h : Since w W) => rGet x L k W (hX.below h.below) hS.up (by omega))
  have HS := Lib.hid (And.intro hS hX)
  clear hS hX hz
  unfold retGet at *
  generalize (lget L k).isSome = c at *
  generalize (lget L k).getD ⟨#[]⟩ = r at *
  go_enter Try.func8, Try.ntmps8
  go_wp2_with fail
  have bk : Blk (w.alloc (.cells #[.int .i64 2, .int .i64 n, .string k, .string v] 31)) w.heap.size 31 #[.int .i64 2, .int .i64 n, .string k, .string v] := Blk.new _ _ _
  have s1 : Since w (w.alloc (.cells #[.int .i64 2, .int .i64 n, .string k, .string v] 31)) := since_of ((Below.refl _ _).alloc (Nat.le_refl _) _)
  generalize w.alloc (.cells #[.int .i64 2, .int .i64 n, .string k, .string v] 31) = w1 at *
  refine (H1.out w1 s1).mono ?_
  rintro e w2 ⟨rfl, rfl⟩
  have Bd := bk
  have d1 : w2.cell? ⟨w.heap.size, 1, none⟩ = some (.int .i64 n) := Bd.cell 1
  have d2 : w2.cell? ⟨w.heap.size, 2, none⟩ = some (.string k) := Bd.cell 2
  have d3 : w2.cell? ⟨w.heap.size, 3, none⟩ = some (.string v) := Bd.cell 3
  clear H1
  go_wp2_with fail
  refine (H2.out w2 s1).mono ?_
  rintro e w3 ⟨rfl, rfl⟩
  go_wp2
  go_returns
  exact ⟨x, by simp, HS.out.1.below s1.below, HS.out.2.below s1.below, only_below s1.below (only_refl _ _)⟩
set_option maxHeartbeats 4000000 in
theorem doAll (kd : Int) (h0 : kd ≠ 0) (h1 : kd ≠ 1) (h2 : kd ≠ 2) (hS : IsStore w b L) (hX : Prs w x L) (hz : L.length + 1 ≤ 1000000000) :
    Calls Try.prog 8 #[.pointer (some ⟨b, 0, none⟩), x, .agg #[.int .i64 kd, .int .i64 n, .string k, .string v]] w (Done b L w) := by
  have e0 : (kd == 0) = false := by simpa using h0
  have e1 : (kd == 1) = false := by simpa using h1
  have e2 : (kd == 2) = false := by simpa using h2
  have hlz : (lall L k).length ≤ 1000000000 := Nat.le_trans (List.length_filter_le ..) (by omega)
  have H1 := Lib.hid (fun W (h : Since w W) => rAll x L k W (hX.below h.below) (by omega))
  have HA := Lib.hid (fun W (h : Since w W) => sAll b k L W (hS.below h.below))
  have HS := Lib.hid (And.intro hS hX)
  clear hS hX hz h0 h1 h2
  generalize lall L k = M at *
  go_enter Try.func8, Try.ntmps8
  go_wp2_with fail
  have bk : Blk (w.alloc (.cells #[.int .i64 kd, .int .i64 n, .string k, .string v] 31)) w.heap.size 31 #[.int .i64 kd, .int .i64 n, .string k, .string v] := Blk.new _ _ _
  have s1 : Since w (w.alloc (.cells #[.int .i64 kd, .int .i64 n, .string k, .string v] 31)) := since_of ((Below.refl _ _).alloc (Nat.le_refl _) _)
  generalize w.alloc (.cells #[.int .i64 kd, .int .i64 n, .string k, .string v] 31) = w1 at *
  refine (H1.out w1 s1).mono ?_
  rintro e w2 ⟨y, rfl, o2⟩
  have s2 : Since w w2 := since_of (step_below s1.below o2.below)
  have Bd := bk.below o2.below bk.lt
  have d1 : w2.cell? ⟨w.heap.size, 1, none⟩ = some (.int .i64 n) := Bd.cell 1
  have d2 : w2.cell? ⟨w.heap.size, 2, none⟩ = some (.string k) := Bd.cell 2
  have d3 : w2.cell? ⟨w.heap.size, 3, none⟩ = some (.string v) := Bd.cell 3
  clear H1
  have p2 := o2.prs
  clear o2
  have p2' := p2
  obtain ⟨A, cap, rfl, hcap, _⟩ := p2'
  obtain ⟨m, hm⟩ : ∃ m : Nat, (m : Int) = max 0 (min n (M.length : Int)) := ⟨(max 0 (min n (M.length : Int))).toNat, by omega⟩
  have hmz : m ≤ M.length := by omega
  obtain ⟨hs3, P3⟩ := prs_upto 26 Try.underlying26 (by kernel_rfl) p2 m hmz
  have HSome : Hid (∀ W, Since w2 W → Calls Try.prog 16 #[.pointer (some ⟨b, 0, none⟩), .string k, .int .i64 m] W fun e w' => ∃ v, e = .returned v ∧ Prs w' v (M.take m) ∧ Since w2 w') := by
    refine Lib.hid fun W hW => ?_
    have hWw : ∀ U, Since W U → Since w U := fun U hU => since_of (step_below (step_below s2.below hW.below) hU.below)
    by_cases hm0 : 0 < m
    · refine (someAt _ k M W m hm0 hlz (fun U hU => HA.out U (hWw U hU))).mono ?_
      rintro e w' ⟨v, rfl, ho, hb⟩
      exact ⟨v, rfl, Prs.of_own ho, since_of (step_below hW.below hb)⟩
    · refine (someNone _ k M W m (by omega) (fun U hU => HA.out U (hWw U hU))).mono ?_
      rintro e w' ⟨rfl, hb⟩
      refine ⟨_, rfl, ?_, since_of (step_below hW.below hb)⟩
      rw [show M.take m = [] by rw [show m = 0 by omega]; rfl]
      exact Prs.nil _ _ _
  have HSame := Lib.hid (fun W (h : Since w2 W) u (hu : Prs W u (M.take m)) => (rSame u (.slice A m cap) (M.take m) (M.take m) W hu (P3.below h.below) (by rw [List.length_take]; omega)).mono (R' := fun e w' => e = .returned (.bool true) ∧ Since w2 w') (fun e w' ⟨he, hb⟩ => ⟨by rw [he, decide_eq_true rfl], since_of (step_below h.below hb)⟩))
  clear HA P3 p2 hmz
  have hm2 := hm.symm
  clear hm
  have r2 := Since.refl w2
  go_wp2
  go_region_held3 (fun w' => w'.cell? ⟨w.heap.size, 2, none⟩ = some (.string k))
    (first | go_keep | exact sJ.cell d2 | exact sK.cell d2)
    (first
      | (go_at_call 16; refine (HSome.out _ (by exact r2)).mono ?_; clear HSome; rintro en wJ ⟨u, rfl, pJ, sJ⟩)
      | (go_at_call 10; refine (HSame.out _ (by exact sJ) _ (by exact pJ)).mono ?_; clear HSame; rintro en wK ⟨rfl, sK⟩))
  all_goals go_wp2
  all_goals go_returns
  all_goals have s3 : Since w wK := since_of (step_below s2.below sK.below)
  all_goals exact ⟨x, rfl, HS.out.1.below s3.below, HS.out.2.below s3.below, only_below s3.below (only_refl _ _)⟩
theorem doC (kd : Int) (hS : IsStore w b L) (hX : Prs w x L) (hz : L.length + 1 ≤ 1000000000) :
    Calls Try.prog 8 #[.pointer (some ⟨b, 0, none⟩), x, .agg #[.int .i64 kd, .int .i64 n, .string k, .string v]] w (Done b (deed L kd k v) w) := by
  unfold deed
  by_cases h0 : kd = 0
  · subst h0
    exact doSet b x L n k v w hS hX hz
  · rw [if_neg h0]
    by_cases h1 : kd = 1
    · subst h1
      exact doDel b x L n k v w hS hX hz
    · rw [if_neg h1]
      by_cases h2 : kd = 2
      · subst h2
        exact doGet b x L n k v w hS hX hz
      · exact doAll b x L n k v w kd h0 h1 h2 hS hX hz
end
end Go.Proofs.Ytikkmcfhepfhlaa.W
