/-
  Package journal: Get, List, Set, Del.
-/
import Derived.Test.YtpjndgcliegloaaJBegin
import Derived.Test.YtpjndgcliegloaaTList
namespace Go.Proofs.Ytpjndgcliegloaa.W
open Go.RowKit

/-- the changes behind 'keep' -/
def kept1 (L : List KV) (us : List Undo) (ns : List Nat) (k : ByteArray) : List Undo := if ns = [] then us else us ++ [was L k]
theorem keepC (j b : Nat) (u s : Value) (L : List KV) (us : List Undo) (ns : List Nat) (k : ByteArray) (w : World) (h : JAt w j b u s L us ns) (hz : us.length + 1 ≤ 1000000000) :
    Calls Try.prog 36 #[.pointer (some ⟨j, 0, none⟩), .string k] w fun e w' => (∃ x, e = .returned x) ∧ JStep w j b u s L (kept1 L us ns k) ns w' := by
  unfold kept1
  by_cases hn : ns = []
  · subst hn
    rw [if_pos rfl]
    refine (keepNo j b u s L us k w h).mono ?_
    rintro e w' ⟨hx, rfl⟩
    exact ⟨hx, JStep.same h⟩
  · rw [if_neg hn]
    exact keepYes j b u s L us ns k w h (List.length_pos_iff.2 hn) hz
theorem setNilJ (k v : ByteArray) (w : World) : Calls Try.prog 18 #[.pointer none, .string k, .string v] w fun e w' => e = .returned (.int .i64 2) ∧ w' = w := by
  go_enter Try.func18, Try.ntmps18
  go_wp2
  go_ret
  exact ⟨rfl, rfl⟩
theorem setLong (j : Nat) (k v : ByteArray) (w : World) (h : 65536 < k.size ∨ 65536 < v.size) : Calls Try.prog 18 #[.pointer (some ⟨j, 0, none⟩), .string k, .string v] w fun e w' => e = .returned (.int .i64 4) ∧ w' = w := by
  by_cases h1 : 65536 < k.size
  · have g1 : (65536 : Int) < (k.size : Int) := by omega
    go_enter Try.func18, Try.ntmps18
    go_wp2
    go_ret
    exact ⟨rfl, rfl⟩
  · have g1 : ¬ (65536 : Int) < (k.size : Int) := by omega
    have g2 : (65536 : Int) < (v.size : Int) := by omega
    go_enter Try.func18, Try.ntmps18
    go_wp2
    go_ret
    exact ⟨rfl, rfl⟩
set_option maxHeartbeats 1000000 in
theorem setC (j b : Nat) (u s : Value) (L : List KV) (us : List Undo) (ns : List Nat) (k v : ByteArray) (w : World) (h : JAt w j b u s L us ns) (hk : k.size ≤ 65536) (hv : v.size ≤ 65536) (hz : us.length + 1 ≤ 1000000000) (hzL : L.length + 1 ≤ 1000000000) :
    Calls Try.prog 18 #[.pointer (some ⟨j, 0, none⟩), .string k, .string v] w fun e w' => e = .returned (.int .i64 0) ∧ JStep w j b u s (lset L k v) (kept1 L us ns k) ns w' := by
  have H1 := Lib.hid (keepC j b u s L us ns k w h hz)
  have g1 : ¬ (65536 : Int) < (k.size : Int) := by omega
  have g2 : ¬ (65536 : Int) < (v.size : Int) := by omega
  clear h
  generalize kept1 L us ns k = vs at *
  go_enter Try.func18, Try.ntmps18
  go_wp2_with fail
  refine H1.out.mono ?_
  rintro e w1 ⟨⟨x, rfl⟩, u1, s1, J1, k1, gr1⟩
  have c0 : w1.cell? ⟨j, 0, none⟩ = some (.pointer (some ⟨b, 0, none⟩)) := J1.blk.cell 0
  have H2 := Lib.hid (sSet b k v L w1 J1.store (by omega))
  have HJ := Lib.hid (And.intro J1 (And.intro k1 gr1))
  clear J1 k1 gr1 H1
  generalize (!(lget L k).isSome) = c at *
  go_wp2_with fail
  refine H2.out.mono ?_
  rintro e w2 ⟨rfl, hs2, hg2⟩
  go_wp2
  go_ret
  exact ⟨rfl, JStep.next HJ.out.2.1 HJ.out.2.2 (HJ.out.1.stored hs2 hg2)⟩
theorem delNilJ (k : ByteArray) (w : World) : Calls Try.prog 19 #[.pointer none, .string k] w fun e w' => e = .returned (.int .i64 2) ∧ w' = w := by
  go_enter Try.func19, Try.ntmps19
  go_wp2
  go_ret
  exact ⟨rfl, rfl⟩
set_option maxHeartbeats 1000000 in
theorem delAbsent (j b : Nat) (u s : Value) (L : List KV) (us : List Undo) (ns : List Nat) (k : ByteArray) (w : World) (h : JAt w j b u s L us ns) (hg : lget L k = none) :
    Calls Try.prog 19 #[.pointer (some ⟨j, 0, none⟩), .string k] w fun e w' => e = .returned (.int .i64 8) ∧ w' = w := by
  have H1 := Lib.hid (sGet b k L w h.store)
  have c0 : w.cell? ⟨j, 0, none⟩ = some (.pointer (some ⟨b, 0, none⟩)) := h.blk.cell 0
  rw [hg] at H1
  clear h
  unfold retGet at *
  simp only [Option.getD_none, Option.isSome_none] at *
  go_enter Try.func19, Try.ntmps19
  go_wp2_with fail
  refine H1.out.mono ?_
  rintro e w' ⟨rfl, rfl⟩
  go_wp2
  go_ret
  exact ⟨rfl, rfl⟩
set_option maxHeartbeats 1000000 in
theorem delC1 (j b : Nat) (u s : Value) (L : List KV) (us : List Undo) (ns : List Nat) (k o : ByteArray) (w : World) (h : JAt w j b u s L us ns) (hg : lget L k = some o) (hz : us.length + 1 ≤ 1000000000) (hzL : L.length + 1 ≤ 1000000000) :
    Calls Try.prog 19 #[.pointer (some ⟨j, 0, none⟩), .string k] w fun e w' => e = .returned (.int .i64 0) ∧ JStep w j b u s (ldel L k) (kept1 L us ns k) ns w' := by
  have H1 := Lib.hid (sGet b k L w h.store)
  have H2 := Lib.hid (keepC j b u s L us ns k w h hz)
  have c0 : w.cell? ⟨j, 0, none⟩ = some (.pointer (some ⟨b, 0, none⟩)) := h.blk.cell 0
  rw [hg] at H1
  clear h
  unfold retGet at *
  simp only [Option.getD_some, Option.isSome_some] at *
  generalize kept1 L us ns k = vs at *
  go_enter Try.func19, Try.ntmps19
  go_wp2_with fail
  refine H1.out.mono ?_
  rintro e w' ⟨rfl, rfl⟩
  go_wp2_with fail
  refine H2.out.mono ?_
  rintro e w1 ⟨⟨x, rfl⟩, u1, s1, J1, k1, gr1⟩
  have d0 : w1.cell? ⟨j, 0, none⟩ = some (.pointer (some ⟨b, 0, none⟩)) := J1.blk.cell 0
  have H3 := Lib.hid (sDel b k L w1 J1.store (by omega))
  have HJ := Lib.hid (And.intro J1 (And.intro k1 gr1))
  clear J1 k1 gr1 H1 H2 c0 hg
  generalize (lget L k).isSome = c at *
  go_wp2_with fail
  refine H3.out.mono ?_
  rintro e w2 ⟨rfl, hs2, hg2⟩
  go_wp2
  go_ret
  exact ⟨rfl, JStep.next HJ.out.2.1 HJ.out.2.2 (HJ.out.1.stored hs2 hg2)⟩
set_option maxHeartbeats 1000000 in
theorem getAt (a p : Option Addr) (k : ByteArray) (r : Option ByteArray) (w : World) (H1 : Calls Try.prog 26 #[.pointer a] w fun e w' => e = .returned (.pointer p) ∧ w' = w) (H2 : Calls Try.prog 28 #[.pointer p, .string k] w fun e w' => e = .returned (retGet r) ∧ w' = w) :
    Calls Try.prog 13 #[.pointer a, .string k] w fun e w' => e = .returned (retGet r) ∧ w' = w := by
  replace H1 := Lib.hid H1
  replace H2 := Lib.hid H2
  unfold retGet at *
  generalize r.getD ⟨#[]⟩ = v at *
  generalize r.isSome = c at *
  go_enter Try.func13, Try.ntmps13
  go_wp2_with fail
  refine H1.out.mono ?_
  rintro e w' ⟨rfl, rfl⟩
  go_wp2_with fail
  refine H2.out.mono ?_
  rintro e w' ⟨rfl, rfl⟩
  go_wp2
  go_returns
  exact ⟨rfl, rfl⟩
theorem getJ (j b : Nat) (u s : Value) (L : List KV) (us : List Undo) (ns : List Nat) (k : ByteArray) (w : World) (h : JAt w j b u s L us ns) :
    Calls Try.prog 13 #[.pointer (some ⟨j, 0, none⟩), .string k] w fun e w' => e = .returned (retGet (lget L k)) ∧ w' = w := getAt _ _ k _ w (heldC j b u s L us ns w h) (sGet b k L w h.store)
theorem getJNil (k : ByteArray) (w : World) : Calls Try.prog 13 #[.pointer none, .string k] w fun e w' => e = .returned (retGet none) ∧ w' = w := getAt _ _ k _ w (heldNil w) (sGetNil k w)
/-- what List answers -/
def Listed (L : List KV) (w : World) (e : Ending) (w' : World) : Prop := ∃ v, e = .returned v ∧ w'.ownsRow w.heap.size 51 2 v L.length (prVals L) ∧ Below w.heap.size w w'
set_option maxHeartbeats 1000000 in
theorem listJAt (a p : Option Addr) (L : List KV) (w : World) (H1 : Calls Try.prog 26 #[.pointer a] w fun e w' => e = .returned (.pointer p) ∧ w' = w) (H2 : Calls Try.prog 27 #[.pointer p] w (Listed L w)) :
    Calls Try.prog 12 #[.pointer a] w (Listed L w) := by
  replace H1 := Lib.hid H1
  replace H2 := Lib.hid H2
  go_enter Try.func12, Try.ntmps12
  go_wp2_with fail
  refine H1.out.mono ?_
  rintro e w' ⟨rfl, rfl⟩
  go_wp2_with fail
  refine H2.out.mono ?_
  rintro e w2 ⟨v, rfl, ho, hb⟩
  go_wp2
  go_ret
  exact ⟨v, rfl, ho, hb⟩
theorem listJ (j b : Nat) (u s : Value) (L : List KV) (us : List Undo) (ns : List Nat) (w : World) (h : JAt w j b u s L us ns) (hz : L.length ≤ 1000000000) :
    Calls Try.prog 12 #[.pointer (some ⟨j, 0, none⟩)] w (Listed L w) := listJAt _ _ L w (heldC j b u s L us ns w h) (sList b L w h.store hz)
theorem listJNil (w : World) : Calls Try.prog 12 #[.pointer none] w (Listed [] w) := listJAt _ _ [] w (heldNil w) (sListNil w)
end Go.Proofs.Ytpjndgcliegloaa.W
