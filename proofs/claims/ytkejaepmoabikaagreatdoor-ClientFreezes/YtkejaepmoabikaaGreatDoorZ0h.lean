import Derived.IntWalk
import Derived.Deep.RegionHeld3
import Derived.LaidEql
import Derived.Stop.Asserts
import Derived.RowKitTokens
import Derived.Test.YtkejaepmoabikaaGreatDoorZ0g
import Derived.Test.YtkejaepmoabikaaGreatDoorZ0d
import Derived.Test.YtkejaepmoabikaaGreatDoorZ0a
import Derived.Test.YtkejaepmoabikaaGreatDoorZ0f
import Derived.Test.YtkejaepmoabikaaGreatDoorZ0b
import Derived.Test.YtkejaepmoabikaaGreatDoorZ0e
namespace Go.Proofs.YtkejaepmoabikaaGreatDoor.W
open Go.RowKit
open Lib renaming hid → qH
open _root_.Go.Proofs.Tryz renaming prog → qP
set_option maxHeartbeats 4000000
set_option maxRecDepth 100000
theorem JAt.began {w w1 w2 : World} {j b : Nat} {u s s' : Value} {L : List KV} {us : List Undo} {ns ns' : List Nat} (h : JAt w j b u s L us ns) (hb : Below w.heap.size w w1) (gr : w1.grownBy w2 s.ownBlock) (own : w2.ownsRow 0 3 1 s' ns'.length (intVals ns'))
  (at1 : s.ownBlock = s'.ownBlock ∨ ∃ g, s'.ownBlock = some g ∧ w.heap.size ≤ g) : JStep w j b u s L us ns' (w2.setCell ⟨j, 2, none⟩ s') := by
 obtain ⟨n1, n2, n3, n4, n5⟩ := h.nj
 have h1 := h.below hb
 have hj1 : Blk w2 j 133 #[.pointer (some ⟨b, 0, none⟩), u, s] := h1.blk.grown gr (fun e => n3 e.symm)
 have hjs := h.blk.lt
 have nj' : s'.ownBlock ≠ some j := fun e => by
  rcases at1 with a | ⟨g, a, hg⟩
  ·exact n3 (a.trans e)
  ·rw [a] at e; cases e; omega
 have keep : KeepS (jset j b u s) w (w2.setCell ⟨j, 2, none⟩ s') := by
  refine (KeepS.of_below _ hb).step ((KeepS.of_grown gr (fun r e => .inl (.inr (.inr (.inr e))))).step (KeepS.of_grown (only_set (only_refl w2 (some j)) 2 s') (fun r e => ?_)))
  cases e
  exact .inl (.inl rfl)
 have blocks : ∀ i, i < w.heap.size → i ≠ j → s.ownBlock ≠ some i → (w2.setCell ⟨j, 2, none⟩ s').heap[i]? = w.heap[i]? := fun i hi h2 h3 =>
  (Below.heap_setCell w2 ⟨j, 2, none⟩ s' i h2).trans ((gr.block i (Nat.lt_of_lt_of_le hi hb.size) (fun e => h3 e.symm)).trans (hb.block i hi))
 refine ⟨u, s', ⟨hj1.set_ 2 s', ?_, own_keep h.undos (fun g e => ?_), own_keep own (fun g e => ?_)⟩, keep, jset_starts j b u s s' w at1⟩
 ·obtain ⟨p, t, h2, h3, h4⟩ := h.store
  exact ⟨p, t, (blocks b h2.lt n1.symm n5).trans h2, h3.kept (h.kept keep), h4⟩
 ·exact blocks g (h.bound (.inr (.inr (.inl e)))) (fun e2 => n2 (by rw [e, e2])) (fun e2 => h.apart e e2)
 ·exact Below.heap_setCell w2 ⟨j, 2, none⟩ s' g (fun e2 => nj' (by rw [e]; exact congrArg some e2))
theorem beginC (j b : Nat) (u s : Value) (L : List KV) (us : List Undo) (ns : List Nat) (w : World) (h : JAt w j b u s L us ns) (hz : ns.length + 1 ≤ 1000000000) :
  Calls qP 145 #[.pointer (some ⟨j, 0, none⟩)] w fun e w' => e = .returned (.int .i64 ((ns.length + 1 : Nat) : Int)) ∧ JStep w j b u s L us (ns ++ [us.length]) w' := by
 have HJ := qH h
 obtain ⟨A, cap, rfl, hcap⟩ := own_slice h.starts
 obtain ⟨A1, cap1, rfl, hcap1⟩ := own_slice h.undos
 have c1 : w.cell? ⟨j, 1, none⟩ = some (.slice A1 us.length cap1) := h.blk.cell 1
 have c2 : w.cell? ⟨j, 2, none⟩ = some (.slice A ns.length cap) := h.blk.cell 2
 have f2 : w.frozen? ⟨j, 2, none⟩ = false := h.blk.frozen 2
 have hjl := qH h.blk.lt
 have HN := qH h.nj.2.2.1
 have HO := qH h.starts
 have HB := qH h.blk
 have d1a : ∀ ob, (w.alloc ob).cell? ⟨j, 1, none⟩ = some (.slice A1 us.length cap1) := fun ob => (HB.out.alloc ob).cell 1
 have d2a : ∀ ob, (w.alloc ob).cell? ⟨j, 2, none⟩ = some (.slice A ns.length cap) := fun ob => (HB.out.alloc ob).cell 2
 obtain ⟨i0, hi, hz0, hz1, hz2⟩ := info_parts infoInt
 clear h
 go_enter Tryz.func145, Tryz.ntmps145
 go_wp2
 go_region_law ((refine step_append_lies _ (by rfl) _ _ _ (by rfl) 0 3 i0 _ 1 8 Tryz.underlying131 hi hz0 hz1 hz2 rfl (by omega) (.slice A ns.length cap) ns.length (intVals ns) (by rfl) ((HO.out.alloc _).drew) ⟨w.heap.size, 0, none⟩ 1 1 [.int .i64 us.length] (by rfl) (by rfl) (World.news_of_block (cs := #[.int .i64 us.length]) (t := 3) (fr := (0, 0)) (heap_alloc_new w _)) (by simp [Value.oneCell']) (by omega) (by unfold maxLen; omega) (by omega) (by simp) (w.heap.size + 1) (by simp) ?_; intro gg cap2 w1 hown1 hgrow hat hlt'; have bj := qH (HB.out.adg hgrow (fun e => HN.out e.symm)); have p1 : w1.cell? ⟨j, 2, none⟩ = some (.slice A ns.length cap) := bj.out.cell 2; have q1 : w1.frozen? ⟨j, 2, none⟩ = false := bj.out.frozen 2))
 all_goals
  have R := qH (HJ.out.began (w1 := (w.alloc _).drew) (ns' := ns ++ [us.length]) (((Below.refl _ w).alloc (Nat.le_refl _) _).drew) hgrow (by simpa [intVals] using hown1) (by
   rcases hat with h | h
   ·exact .inl h
   ·exact .inr ⟨gg, rfl, by omega⟩))
  have p2 : (w1.setCell ⟨j, 2, none⟩ (.slice (some ⟨gg, 0, none⟩) (ns.length + 1) cap2)).cell? ⟨j, 2, none⟩ = some (.slice (some ⟨gg, 0, none⟩) (ns.length + 1) cap2) := (bj.out.set_ 2 _).cell 2
  clear hown1 hgrow hat hlt' p1 q1 c1 c2 f2 d1a d2a
  go_wp2
  go_ret
  exact ⟨by simp, R.out⟩
theorem commitC (j b : Nat) (u s : Value) (L : List KV) (us : List Undo) (ns : List Nat) (n : Nat) (w : World) (h : JAt w j b u s L us (ns ++ [n])) (hz : ns.length + 1 ≤ 1000000000) :
  Calls qP 148 #[.pointer (some ⟨j, 0, none⟩)] w fun e w' => e = .returned (.int .i64 0) ∧ JStep w j b u s L (if ns = [] then [] else us) ns w' := by
 have H1 := qH (leaveC j b u s L us ns n w h hz)
 obtain ⟨A, cap, rfl, hcap⟩ := own_slice h.starts
 have c2 : w.cell? ⟨j, 2, none⟩ = some (.slice A (ns ++ [n]).length cap) := h.blk.cell 2
 have hlen : (ns ++ [n]).length = ns.length + 1 := by simp
 rw [hlen] at c2 H1 ⊢
 have hne : (((ns.length + 1 : Nat) : Int) == 0) = false := by rw [beq_eq_false_iff_ne]; omega
 clear h
 generalize (if ns = [] then [] else us) = vs at *
 go_enter Tryz.func148, Tryz.ntmps148
 go_wp2_with fail
 refine H1.out.mono ?_
 rintro e w' ⟨⟨x, rfl⟩, hs⟩
 go_wp2
 go_ret
 exact ⟨rfl, hs⟩
section
variable {w : World} {S : Nat → Prop} {j m : Nat} {Lv : List (List KV)} {L : List KV}
theorem jBegin (h : Jr w S j Lv L m) (hm : m + 2 ≤ 1000000000) :
  Calls qP 145 #[.pointer (some ⟨j, 0, none⟩)] w fun e w' => e = .returned (.int .i64 ((Lv.length + 1 : Nat) : Int)) ∧ Jm w S j (Lv ++ [L]) L (m + 2) w' := by
 obtain ⟨b, u, s, us, ns, h1, rfl, rfl, h4, h5⟩ := h
 refine (beginC j b u s L us ns w h1 (by omega)).mono ?_
 rintro e w' ⟨he, hs⟩
 exact ⟨by rw [he, levs_len], jm_of hs (levs_begin L us ns) (steps_begin h4) (by rw [List.length_append, List.length_cons, List.length_nil]; omega)⟩
theorem steps_if {us : List Undo} {ns : List Nat} {vs : List Undo} (h : Steps us.length ns) : Steps (if ns = [] then vs else us).length ns := by
 split
 ·rename_i hn; subst hn; exact ⟨List.Pairwise.nil, fun _ h => by cases h⟩
 ·exact h
theorem levs_if {L : List KV} {us vs : List Undo} {ns : List Nat} : levs L (if ns = [] then vs else us) ns = levs L us ns := by
 split
 ·rename_i hn; subst hn; rfl
 ·rfl
theorem snoc_of_levs {Lv : List (List KV)} {x : List KV} {us : List Undo} {ns : List Nat} (h : levs L us ns = Lv ++ [x]) : ∃ ns' n, ns = ns' ++ [n] ∧ levs L us ns' = Lv ∧ unwind L (us.drop n) = x := by
 have hne : ns ≠ [] := fun e => by rw [e] at h; simp [levs] at h
 obtain ⟨ns', n, rfl⟩ : ∃ ns' n, ns = ns' ++ [n] := ⟨ns.dropLast, ns.getLast hne, (List.dropLast_concat_getLast hne).symm⟩
 rw [levs_last] at h
 have h1 := List.append_inj' h rfl
 refine ⟨ns', n, rfl, h1.1, ?_⟩
 have := h1.2
 injection this
theorem jCommit {x : List KV} (h : Jr w S j (Lv ++ [x]) L m) (hm : m + 2 ≤ 1000000000) :
  Calls qP 148 #[.pointer (some ⟨j, 0, none⟩)] w fun e w' => e = .returned (.int .i64 0) ∧ Jm w S j Lv L m w' := by
 obtain ⟨b, u, s, us, ns, h1, rfl, h3, h4, h5⟩ := h
 obtain ⟨ns', n, rfl, h6, _⟩ := snoc_of_levs h3
 rw [List.length_append, List.length_cons, List.length_nil] at h5
 obtain ⟨h7, h8⟩ := steps_init h4
 refine (commitC j b u s L us ns' n w h1 (by omega)).mono ?_
 rintro e w' ⟨he, hs⟩
 refine ⟨he, jm_of hs (levs_if.trans h6) (steps_if (steps_more h7 h8)) ?_⟩
 split
 ·simp only [List.length_nil]; omega
 ·omega
end
def setAll (L : List KV) (P : List KV) : List KV := P.foldl (fun s p => lset s p.1 p.2) L
theorem setAll_take {L P : List KV} {k : Nat} (h : k < P.length) : setAll L (P.take (k + 1)) = lset (setAll L (P.take k)) P[k].1 P[k].2 := by
 unfold setAll
 rw [List.take_succ_eq_append_getElem h, List.foldl_append]
 rfl
structure SetAt (w : World) (S : Nat → Prop) (j : Nat) (L M : List KV) (m : Nat) (v : Value) (P : List KV) (W : World) : Prop where
 k : KeepS S w W
 g : ∃ S', Grows S S' w ∧ Jr W S' j [L] M m
 p : Prs W v P
theorem SetAt.step {w W W' : World} {S : Nat → Prop} {j : Nat} {L M M' : List KV} {m m' : Nat} {v : Value} {P : List KV} {S1 : Nat → Prop} (h : SetAt w S j L M m v P W) (hg : Grows S S1 w) (hv : ∀ g, v.ownBlock = some g → g < w.heap.size ∧ ¬ S g) (hm : Jm W S1 j [L] M' m' W') : SetAt w S j L M' m' v P W' := by
 obtain ⟨k2, S2, g2, hj⟩ := hm
 exact ⟨h.k.trans hg k2, ⟨S2, hg.trans g2 h.k.size, hj⟩, h.p.out_of k2 fun g e hs => (hg g hs).elim (hv g e).2 (fun h2 => by have := (hv g e).1; omega)⟩
theorem SetAt.mono {w W : World} {S : Nat → Prop} {j : Nat} {L M : List KV} {m m' : Nat} {v : Value} {P : List KV} (h : SetAt w S j L M m v P W) (hm : m ≤ m') : SetAt w S j L M m' v P W := ⟨h.k, by obtain ⟨S1, hg, hj⟩ := h.g; exact ⟨S1, hg, hj.mono hm⟩, h.p⟩
theorem SetAt.alloc {w W : World} {S : Nat → Prop} {j : Nat} {L M : List KV} {m : Nat} {v : Value} {P : List KV} (h : SetAt w S j L M m v P W) (ob : Obj) : SetAt w S j L M m v P (W.alloc ob) := by
 have b : Below W.heap.size W (W.alloc ob) := (Below.refl _ W).alloc (Nat.le_refl _) _
 obtain ⟨S1, hg, hj⟩ := h.g
 exact ⟨h.k.trans hg (KeepS.of_below _ b), ⟨S1, hg, hj.below b⟩, h.p.below b⟩
theorem clSet {w : World} {S : Nat → Prop} {j m cap : Nat} {A : Option Addr} {L P : List KV} (hJ : Jr w S j [] L m) (hP : Prs w (.slice A P.length cap) P) (hv : ∀ g, (Value.slice A P.length cap).ownBlock = some g → g < w.heap.size ∧ ¬ S g) (hz : ∀ p ∈ P, p.1.size ≤ 65536 ∧ p.2.size ≤ 65536) (hm : m + 100 ≤ 1000000000) (hn : P.length ≤ 10) :
  Calls qP 97 #[.pointer (some ⟨j, 0, none⟩), .slice A P.length cap] w fun e w' => e = .returned (.int .i64 0) ∧ Jm w S j [] (setAll L P) (m + 2 + 2 * P.length) w' := by
 have HV := qH hv
 have HZ := qH hz
 have HJ := qH (And.intro hJ hP)
 clear hJ hP hv hz
 go_enter Tryz.func97, Tryz.ntmps97
 go_wp2_with fail
 refine (jBegin HJ.out.1 (by omega)).mono ?_
 rintro e w1 ⟨rfl, hb⟩
 have H0 : Hid (SetAt w S j L (setAll L (P.take 0)) (m + 2 + 2 * 0) (.slice A P.length cap) P w1) := qH ⟨hb.1, hb.2, HJ.out.2.out_of hb.1 fun g e => (HV.out g e).2⟩
 clear hb HJ
 go_wp2
 go_loopw [12] (fun i wr => ∃ k : Nat, k ≤ P.length ∧ i = .int .i64 k ∧ Hid (SetAt w S j L (setAll L (P.take k)) (m + 2 + 2 * k) (.slice A P.length cap) P wr)) (fun i _ => P.length - (intOf i).toNat)
 case atStart => exact ⟨0, Nat.zero_le _, rfl, H0⟩
 case round =>
  clear H0
  obtain ⟨k, hk, rfl, HT⟩ := hrel
  by_cases hlt : k < P.length
  ·have hz := HZ.out P[k] (List.getElem_mem hlt)
   obtain ⟨A', cap', e, _, hc⟩ := HT.out.p
   cases e
   obtain ⟨b, off, rfl, d0, d1⟩ := hc k hlt
   have hi0 : (0 : Int) ≤ k := by omega
   have hi1 : (k : Int) < (P.length : Int) := by omega
   have hwr : IntKind.i64.wrap ((k : Int) + 1) = (k : Int) + 1 := IntWalk.i64_in _ (by omega)
   have HX := qH (setAll_take (L := L) hlt)
   obtain ⟨p1, hp1⟩ : ∃ p1, p1 = P[k].1 := ⟨_, rfl⟩
   obtain ⟨p2, hp2⟩ : ∃ p2, p2 = P[k].2 := ⟨_, rfl⟩
   rw [← hp1] at hz d0 HX
   rw [← hp2] at hz d1 HX
   clear hp1 hp2 hc
   have HP := qH (Blk.new wr 36 #[.string p1, .string p2])
   have HA := qH (HT.out.alloc (.cells #[.string p1, .string p2] 36))
   have q0 := HP.out.c 0 (v := .string p1) rfl
   have q1 := HP.out.c 1 (v := .string p2) rfl
   obtain ⟨S1, hg, hj⟩ := HA.out.g
   have HJ := qH (And.intro hg hj)
   have HS := qH (jSet p1 p2 hj hz.1 hz.2 (by omega))
   clear hg hj HT HP hz
   go_wp2_with fail
   refine HS.out.mono ?_
   rintro en w3 ⟨rfl, hm3⟩
   have HN := qH ((HA.out.step HJ.out.1 HV.out hm3).mono (show m + 2 + 2 * k + 2 ≤ m + 2 + 2 * (k + 1) by omega))
   rw [← HX.out] at HN
   clear HS HA HJ hm3 q0 q1 d0 d1 HX
   go_wp2
   go_roundw
   case rel => exact ⟨k + 1, by omega, by go_num, HN⟩
   case measure => simp [intOf]; omega
  ·obtain rfl : k = P.length := by omega
   rw [List.take_length] at HT
   obtain ⟨S1, hg, hj⟩ := HT.out.g
   have HJ := qH (And.intro hg hj)
   have HC := qH (jCommit (Lv := []) hj (by omega))
   clear hg hj
   go_wp2_with fail
   refine HC.out.mono ?_
   rintro en w3 ⟨rfl, hm3⟩
   clear HC
   go_wp2
   go_ret
   obtain ⟨k2, S2, g2, h2⟩ := hm3
   exact ⟨rfl, HT.out.k.trans HJ.out.1 k2, S2, HJ.out.1.trans g2 HT.out.k.size, h2⟩
theorem enc_this (c k : ByteArray) (h : Int) (f : Bool) (z : Int) (hz : z = if f then 1 else 0) (s1 s2 s3 s4 : List UInt8) (w : World) (l1 : s1.length ≤ 100000) (l2 : s2.length ≤ 100000) (l3 : s3.length ≤ 100000) (l4 : s4.length ≤ 100000)
  (K1 : Hid (∀ W, Calls qP 62 #[.string c] W fun e w' => e = .returned (.tuple #[.string (bs s1), .int .i64 0]) ∧ Below W.heap.size W w'))
  (K2 : Hid (∀ W, Calls qP 62 #[.string k] W fun e w' => e = .returned (.tuple #[.string (bs s2), .int .i64 0]) ∧ Below W.heap.size W w'))
  (K3 : Hid (∀ W, Calls qP 65 #[.int .i64 h] W fun e w' => e = .returned (.tuple #[.string (bs s3), .int .i64 0]) ∧ Below W.heap.size W w'))
  (K4 : Hid (∀ W, Calls qP 65 #[.int .i64 z] W fun e w' => e = .returned (.tuple #[.string (bs s4), .int .i64 0]) ∧ Below W.heap.size W w'))
  (O : Hid (∀ W g, Blk W g 42 #[.int .i64 0, .int .i64 0, .int .i64 0, .int .i64 0] → Calls qP 66 #[.slice (some ⟨g, 0, none⟩) 4 4] W fun e w' => e = .returned (.int .i64 0) ∧ Since W w')) :
  Calls qP 98 #[.agg #[.string c, .string k, .int .i64 h, .bool f]] w fun e w' => e = .returned (.tuple #[.string (bs (((s1 ++ s2) ++ s3) ++ s4)), .int .i64 0]) ∧ Since w w' := by
 have a1 : ∀ W, (Op.stringOp .add (bs s1) (bs s2)).run qP W = .ok (.string (bs (s1 ++ s2))) W := fun W => run_add W s1 s2 (by omega)
 have a2 : ∀ W, (Op.stringOp .add (bs (s1 ++ s2)) (bs s3)).run qP W = .ok (.string (bs ((s1 ++ s2) ++ s3))) W := fun W => run_add W _ _ (by rw [List.length_append]; omega)
 have a3 : ∀ W, (Op.stringOp .add (bs ((s1 ++ s2) ++ s3)) (bs s4)).run qP W = .ok (.string (bs (((s1 ++ s2) ++ s3) ++ s4))) W := fun W => run_add W _ _ (by rw [List.length_append, List.length_append]; omega)
 generalize ((s1 ++ s2) ++ s3) ++ s4 = x3 at *
 generalize (s1 ++ s2) ++ s3 = x2 at *
 generalize s1 ++ s2 = x1 at *
 clear l1 l2 l3 l4
 have HB := qH (Blk.new w 41 #[.string c, .string k, .int .i64 h, .bool f])
 have HS := qH (since_alloc (Since.refl w) (.cells #[.string c, .string k, .int .i64 h, .bool f] 41))
 have HZ := qH hz
 clear hz
 cases f
 all_goals
  have hz := HZ.out
  simp only [Bool.false_eq_true, if_false, if_true] at hz
  subst hz
  have y0 : (w.alloc (.cells #[.string c, .string k, .int .i64 h, .bool _] 41)).cell? ⟨w.heap.size, 0, none⟩ = some (.string c) := HB.out.c 0 rfl
  have y3 : (w.alloc (.cells #[.string c, .string k, .int .i64 h, .bool _] 41)).cell? ⟨w.heap.size, 3, none⟩ = some (.bool _) := HB.out.c 3 rfl
  go_enter Tryz.func98, Tryz.ntmps98
  go_wp2_with fail
  refine (K1.out _).mono ?_
  rintro e w1 ⟨rfl, q⟩
  have X1 := qH (HB.out.next q)
  have S1 := qH (since_of (step_below HS.out.below q))
  clear y0 y3 HB HS K1 q
  have y0 : w1.cell? ⟨w.heap.size, 1, none⟩ = some (.string k) := X1.out.c 1 rfl
  go_wp2_with fail
  refine (K2.out _).mono ?_
  rintro e w2 ⟨rfl, q⟩
  have X2 := qH (X1.out.next q)
  have S2 := qH (since_of (step_below S1.out.below q))
  clear X1 S1 K2 q y0
  have y0 : w2.cell? ⟨w.heap.size, 2, none⟩ = some (.int .i64 h) := X2.out.c 2 rfl
  go_wp2_with fail
  refine (K3.out _).mono ?_
  rintro e w3 ⟨rfl, q⟩
  have S3 := qH (since_of (step_below S2.out.below q))
  clear X2 S2 K3 q y0
  go_wp2_with fail
  refine (K4.out _).mono ?_
  rintro e w4 ⟨rfl, q⟩
  have S4 := qH (since_of (step_below S3.out.below q))
  clear S3 K4 q
  have B5 := qH (Blk.new w4 42 #[.int .i64 0, .int .i64 0, .int .i64 0, .int .i64 0])
  have S5 := qH (since_alloc S4.out (.cells #[.int .i64 0, .int .i64 0, .int .i64 0, .int .i64 0] 42))
  clear S4
  go_wp2_with fail
  refine (O.out _ _ B5.out).mono ?_
  rintro e w6 ⟨rfl, q6⟩
  have S6 := qH (since_two S5.out q6)
  clear S5 B5 O q6
  go_wp2
  go_ret2
  exact ⟨rfl, S6.out⟩
theorem own_since {w w' : World} {base k n : Nat} {e : TypeId} {v : Value} {xs : List Value} (h : w.ownsRow base e k v n xs) (q : Since w w') : w'.ownsRow base e k v n xs :=
 own_keep h fun g hg => by obtain ⟨cs, hb⟩ := own_tag h hg; exact q.2.2.2.2 g hb.lt
theorem store_this (V : World) (S : Nat → Prop) (j : Nat) (id key tx : ByteArray) (c1 c2 : ByteArray) (c3 : Int) (c4 : Bool) (v : Value) (P : List KV) (Q : World → Prop) (w : World) (hV : Since V w) (own : w.ownsRow V.heap.size 36 2 v P.length (prVals P)) (hn : P.length ≤ 5)
  (E : Hid (∀ W, Since w W → Calls qP 98 #[.agg #[.string c1, .string c2, .int .i64 c3, .bool c4]] W fun e w' => e = .returned (.tuple #[.string tx, .int .i64 0]) ∧ Since W w'))
  (K : Hid (∀ W, Since w W → Calls qP 34 #[.string id] W fun e w' => e = .returned (.string key) ∧ Since W w'))
  (ST : Hid (∀ W A cap, Below V.heap.size V W → Prs W (.slice A (P.length + 1) cap) (P ++ [(key, tx)]) → (∀ g, (Value.slice A (P.length + 1) cap).ownBlock = some g → V.heap.size ≤ g ∧ g < W.heap.size) → Calls qP 97 #[.pointer (some ⟨j, 0, none⟩), .slice A (P.length + 1) cap] W fun e w' => e = .returned (.int .i64 0) ∧ Q w' ∧ KeepS S W w')) :
  Calls qP 52 #[.pointer (some ⟨j, 0, none⟩), .string id, .agg #[.string c1, .string c2, .int .i64 c3, .bool c4], v] w fun e w' => e = .returned (.int .i64 0) ∧ Q w' ∧ ∀ g, g < w.heap.size → ¬ S g → v.ownBlock ≠ some g → w'.heap[g]? = w.heap[g]? := by
 obtain ⟨A, cap, rfl, hcap⟩ := own_slice own
 have HB := qH (Blk.new w 41 #[.string c1, .string c2, .int .i64 c3, .bool c4])
 have HS := qH (since_alloc (Since.refl w) (.cells #[.string c1, .string c2, .int .i64 c3, .bool c4] 41))
 have y0 := HB.out.c 0 (v := .string c1) rfl
 have y1 := HB.out.c 1 (v := .string c2) rfl
 have y2 := HB.out.c 2 (v := .int .i64 c3) rfl
 have y3 := HB.out.c 3 (v := .bool c4) rfl
 have HO := qH own
 have HV := qH hV
 clear own hV HB
 go_enter Tryz.func52, Tryz.ntmps52
 go_wp2_with fail
 clear y0 y1 y2 y3
 refine (E.out _ HS.out).mono ?_
 rintro e w1 ⟨rfl, q⟩
 have S1 := qH (since_two HS.out q)
 clear HS E q
 go_wp2_with fail
 refine (K.out _ S1.out).mono ?_
 rintro e w2 ⟨rfl, q⟩
 have S2 := qH (since_alloc (since_two S1.out q) (.cells #[.string key, .string tx] 36))
 have O2 := qH (own_since HO.out S2.out)
 have B2 := qH (since_two HV.out S2.out).below.size
 clear K S1 q HO
 go_wp2_with (at_builtin; refine wpList_append_prs _ rfl _ _ 22 Tryz.underlying22 rfl V.heap.size (.slice A P.length cap) (.slice (some ⟨w2.heap.size, 0, none⟩) 1 1) P [(key, tx)] rfl rfl O2.out (prs_built w2 (key, tx)) B2.out (by simp; omega) ?_; intro v' w3 own3 gr3 at3; obtain ⟨A3, cap3, rfl, hc3⟩ := own_slice own3; have P3 := qH (And.intro own3 gr3); have L3 := qH ((since_two HV.out S2.out).below.grown gr3 B2.out (fun k hk => (O2.out.lt k hk).1)); clear own3 gr3 at3 O2 B2)
 have hl : (P ++ [(key, tx)]).length = P.length + 1 := by simp
 have PP := qH (Prs.of_own P3.out.1)
 have PL := qH (fun g hg => P3.out.1.lt g hg)
 have PG := qH P3.out.2
 rw [hl] at PP PL
 clear hl P3
 refine (ST.out _ A3 cap3 L3.out PP.out PL.out).mono ?_
 rintro e w4 ⟨rfl, q, k⟩
 clear ST PP PL
 go_wp2
 go_ret
 refine ⟨rfl, q, fun g hg hS ho => ?_⟩
 have z2 := S2.out.below.size
 exact (k.block g (by have := PG.out.size; omega) hS).trans ((PG.out.block g (by omega) (fun e => ho e.symm)).trans (S2.out.2.2.2.2 g hg))
theorem acc_this (j : Nat) (id key : ByteArray) (c1 c2 : ByteArray) (c3 : Int) (c4 : Bool) (h1 : ByteArray) (h2 h3 : Int) (h4 h5 : ByteArray) (s1 s2 : List UInt8) (Q : World → Prop) (w : World) (l1 : s1.length ≤ 100000) (l2 : s2.length ≤ 100000)
  (K1 : Hid (∀ W, Since w W → Calls qP 65 #[.int .i64 h3] W fun e w' => e = .returned (.tuple #[.string (bs s1), .int .i64 0]) ∧ Since W w'))
  (K2 : Hid (∀ W, Since w W → Calls qP 62 #[.string h4] W fun e w' => e = .returned (.tuple #[.string (bs s2), .int .i64 0]) ∧ Since W w'))
  (O : Hid (∀ W g, Blk W g 42 #[.int .i64 0, .int .i64 0] → Calls qP 66 #[.slice (some ⟨g, 0, none⟩) 2 2] W fun e w' => e = .returned (.int .i64 0) ∧ Since W w'))
  (K : Hid (∀ W, Since w W → Calls qP 60 #[.string id, .int .i64 h2] W fun e w' => e = .returned (.string key) ∧ Since W w'))
  (SET : h2 ≤ c3 → Hid (∀ W b, Since w W → w.heap.size ≤ b → Blk W b 36 #[.string key, .string (bs (s1 ++ s2))] → Calls qP 97 #[.pointer (some ⟨j, 0, none⟩), .slice (some ⟨b, 0, none⟩) 1 1] W fun e w' => e = .returned (.int .i64 0) ∧ Q w'))
  (STO : c3 < h2 → Hid (∀ W b, Since w W → w.heap.size ≤ b → Blk W b 36 #[.string key, .string (bs (s1 ++ s2))] → Calls qP 52 #[.pointer (some ⟨j, 0, none⟩), .string id, .agg #[.string c1, .string c2, .int .i64 h2, .bool c4], .slice (some ⟨b, 0, none⟩) 1 1] W fun e w' => e = .returned (.int .i64 0) ∧ Q w')) :
  Calls qP 51 #[.pointer (some ⟨j, 0, none⟩), .string id, .agg #[.string c1, .string c2, .int .i64 c3, .bool c4], .agg #[.string h1, .int .i64 h2, .int .i64 h3, .string h4, .string h5]] w fun e w' => e = .returned (.int .i64 0) ∧ Q w' := by
 have a1 : ∀ W, (Op.stringOp .add (bs s1) (bs s2)).run qP W = .ok (.string (bs (s1 ++ s2))) W := fun W => run_add W s1 s2 (by omega)
 generalize bs (s1 ++ s2) = tx at *
 generalize bs s1 = t1 at *
 generalize bs s2 = t2 at *
 clear l1 l2
 have z0 : (w.alloc (.cells #[.string c1, .string c2, .int .i64 c3, .bool c4] 41)).heap.size = w.heap.size + 1 := by simp
 have C0 := qH ((Blk.new w 41 #[.string c1, .string c2, .int .i64 c3, .bool c4]).alloc (.cells #[.string h1, .int .i64 h2, .int .i64 h3, .string h4, .string h5] 34))
 have H := Blk.new (w.alloc (.cells #[.string c1, .string c2, .int .i64 c3, .bool c4] 41)) 34 #[.string h1, .int .i64 h2, .int .i64 h3, .string h4, .string h5]
 rw [z0] at H
 have H0 := qH H
 have S0 := qH (since_alloc (since_alloc (Since.refl w) (.cells #[.string c1, .string c2, .int .i64 c3, .bool c4] 41)) (.cells #[.string h1, .int .i64 h2, .int .i64 h3, .string h4, .string h5] 34))
 clear z0 H
 have x2 := H0.out.c 2 (v := .int .i64 h3) rfl
 go_enter Tryz.func51, Tryz.ntmps51
 go_wp2_with fail
 clear x2
 refine (K1.out _ S0.out).mono ?_
 rintro e w1 ⟨rfl, q⟩
 have C1 := qH (C0.out.next q.below)
 have H1 := qH (H0.out.next q.below)
 have S1 := qH (since_two S0.out q)
 clear C0 H0 S0 K1 q
 have x3 := H1.out.c 3 (v := .string h4) rfl
 go_wp2_with fail
 clear x3
 refine (K2.out _ S1.out).mono ?_
 rintro e w2 ⟨rfl, q⟩
 have B2 := qH (Blk.new w2 42 #[.int .i64 0, .int .i64 0])
 have C2 := qH ((C1.out.next q.below).alloc (.cells #[.int .i64 0, .int .i64 0] 42))
 have H2 := qH ((H1.out.next q.below).alloc (.cells #[.int .i64 0, .int .i64 0] 42))
 have S2 := qH (since_alloc (since_two S1.out q) (.cells #[.int .i64 0, .int .i64 0] 42))
 clear C1 H1 S1 K2 q
 go_wp2_with fail
 refine (O.out _ _ B2.out).mono ?_
 rintro e w3 ⟨rfl, q⟩
 have C3 := qH (C2.out.next q.below)
 have H3 := qH (H2.out.next q.below)
 have S3 := qH (since_two S2.out q)
 clear C2 H2 S2 B2 O q
 have x1 := H3.out.c 1 (v := .int .i64 h2) rfl
 go_wp2_with fail
 clear x1
 refine (K.out _ S3.out).mono ?_
 rintro e w4 ⟨rfl, q⟩
 have P4 := qH (Blk.new w4 36 #[.string key, .string tx])
 have C4 := qH ((C3.out.next q.below).alloc (.cells #[.string key, .string tx] 36))
 have H4 := qH ((H3.out.next q.below).alloc (.cells #[.string key, .string tx] 36))
 have S4 := qH (since_alloc (since_two S3.out q) (.cells #[.string key, .string tx] 36))
 clear C3 H3 S3 K q
 have x1 := H4.out.c 1 (v := .int .i64 h2) rfl
 have y0 := C4.out.c 0 (v := .string c1) rfl
 have y1 := C4.out.c 1 (v := .string c2) rfl
 have y2 := C4.out.c 2 (v := .int .i64 c3) rfl
 have y3 := C4.out.c 3 (v := .bool c4) rfl
 have g2 := C4.out.frozen 2
 have p0 := P4.out.c 0 (v := .string key) rfl
 have p1 := P4.out.c 1 (v := .string tx) rfl
 have hp := C4.out.lt
 have n4 : w.heap.size ≠ w4.heap.size := fun e => by
  have := C4.out
  rw [e] at this
  have h := blk_type this P4.out
  revert h
  decide
 by_cases hh : h2 ≤ c3
 ·have SET' := SET hh
  clear SET STO
  have z5 : (w4.alloc (.cells #[.string key, .string tx] 36)).heap.size = w4.heap.size + 1 := by simp
  have B := Blk.new (w4.alloc (.cells #[.string key, .string tx] 36)) 36 #[.string key, .string tx]
  rw [z5] at B
  have B5 := qH B
  have L5 := qH (Nat.le_trans S4.out.below.size (Nat.le_of_eq z5))
  clear z5 B
  have S5 := qH (since_alloc S4.out (.cells #[.string key, .string tx] 36))
  go_wp2_with fail
  refine (SET'.out _ _ S5.out L5.out B5.out).mono ?_
  rintro e w5 ⟨rfl, q⟩
  go_wp2
  go_ret
  exact ⟨rfl, q⟩
 ·have STO' := STO (by omega)
  clear SET STO
  have C5 := qH (C4.out.set_ 2 (.int .i64 h2))
  have P5 := qH (P4.out.far (p := ⟨w.heap.size, 2, none⟩) n4.symm (.int .i64 h2))
  have S5 := qH (since_put S4.out (p := ⟨w.heap.size, 2, none⟩) (Nat.le_refl _) (.int .i64 h2))
  have v0 := C5.out.c 0 (v := .string c1) rfl
  have v1 := C5.out.c 1 (v := .string c2) rfl
  have v2 := C5.out.c 2 (v := .int .i64 h2) rfl
  have v3 := C5.out.c 3 (v := .bool c4) rfl
  have u0 := P5.out.c 0 (v := .string key) rfl
  have u1 := P5.out.c 1 (v := .string tx) rfl
  have z6 : ((w4.alloc (.cells #[.string key, .string tx] 36)).setCell ⟨w.heap.size, 2, none⟩ (.int .i64 h2)).heap.size = w4.heap.size + 1 := by simp
  have B := Blk.new ((w4.alloc (.cells #[.string key, .string tx] 36)).setCell ⟨w.heap.size, 2, none⟩ (.int .i64 h2)) 36 #[.string key, .string tx]
  rw [z6] at B
  have B6 := qH B
  have L6 := qH (Nat.le_trans S5.out.below.size (Nat.le_of_eq z6))
  have S6 := qH (since_alloc S5.out (.cells #[.string key, .string tx] 36))
  clear C4 H4 C5 P5 P4 z6 B S5
  go_wp2_with fail
  refine (STO'.out _ _ S6.out L6.out B6.out).mono ?_
  rintro e w5 ⟨rfl, q⟩
  go_wp2
  go_ret
  exact ⟨rfl, q⟩
theorem new_e1 (j : Nat) (chain key : ByteArray) (e : Int) (he : e ≠ 0) (w : World)
  (K1 : Hid (∀ W, Since w W → Calls qP 61 #[.int .i64 6, .string chain] W fun en w' => en = .returned (.int .i64 e) ∧ Since W w')) :
  Calls qP 23 #[.pointer (some ⟨j, 0, none⟩), .string chain, .string key] w fun en w' => en = .returned (.tuple #[.string ⟨#[]⟩, .int .i64 e]) ∧ Since w w' := by
 have hb : (e != 0) = true := by rw [bne_iff_ne]; exact he
 clear he
 go_enter Tryz.func23, Tryz.ntmps23
 go_wp2_with fail
 refine (K1.out _ (Since.refl w)).mono ?_
 rintro en w1 ⟨rfl, q⟩
 go_wp2
 go_ret2
 exact ⟨rfl, q⟩
theorem new_this (j : Nat) (chain key id k1 t x : ByteArray) (n : Nat) (hn : n ≤ 1000000000) (S : Nat → Prop) (Q : World → Prop) (w : World) (hS : ∀ i, S i → i < w.heap.size)
  (K1 : Hid (∀ W, Since w W → Calls qP 61 #[.int .i64 6, .string chain] W fun en w' => en = .returned (.int .i64 0) ∧ Since W w'))
  (K2 : Hid (∀ W, Since w W → Calls qP 62 #[.string key] W fun en w' => en = .returned (.tuple #[.string t, .int .i64 0]) ∧ Since W w'))
  (K3 : Hid (∀ W, Since w W → Calls qP 63 #[.pointer (some ⟨j, 0, none⟩)] W fun en w' => en = .returned (.int .i64 n) ∧ Since W w'))
  (K4 : Hid (∀ W, Since w W → Calls qP 64 #[.int .i64 3, .int .i64 n] W fun en w' => en = .returned (.tuple #[.string id, .int .i64 0]) ∧ Since W w'))
  (K5 : Hid (∀ W, Since w W → Calls qP 65 #[.int .i64 ((n : Int) + 1)] W fun en w' => en = .returned (.tuple #[.string x, .int .i64 0]) ∧ Since W w'))
  (O : Hid (∀ W g, Blk W g 42 #[.int .i64 0, .int .i64 0] → Calls qP 66 #[.slice (some ⟨g, 0, none⟩) 2 2] W fun e w' => e = .returned (.int .i64 0) ∧ Since W w'))
  (K6 : Hid (∀ W, Since w W → Calls qP 67 #[] W fun en w' => en = .returned (.string k1) ∧ Since W w'))
  (ST : Hid (∀ W b, Since w W → w.heap.size ≤ b → Blk W b 36 #[.string k1, .string x] → Calls qP 52 #[.pointer (some ⟨j, 0, none⟩), .string id, .agg #[.string chain, .string key, .int .i64 0, .bool false], .slice (some ⟨b, 0, none⟩) 1 1] W fun e w' => e = .returned (.int .i64 0) ∧ Q w' ∧ ∀ g, g < W.heap.size → ¬ S g → some b ≠ some g → w'.heap[g]? = W.heap[g]?)) :
  Calls qP 23 #[.pointer (some ⟨j, 0, none⟩), .string chain, .string key] w fun en w' => en = .returned (.tuple #[.string id, .int .i64 0]) ∧ Q w' := by
 have hn0 : (0 : Int) ≤ n := by omega
 have hn1 : (n : Int) ≤ 1000000000 := by omega
 go_enter Tryz.func23, Tryz.ntmps23
 go_wp2_with fail
 refine (K1.out _ (Since.refl w)).mono ?_
 rintro en w1 ⟨rfl, q⟩
 have S1 := qH q
 clear q K1
 go_wp2_with fail
 refine (K2.out _ S1.out).mono ?_
 rintro en w2 ⟨rfl, q⟩
 have S2 := qH (since_two S1.out q)
 clear q K2 S1
 go_wp2_with fail
 refine (K3.out _ S2.out).mono ?_
 rintro en w3 ⟨rfl, q⟩
 have S3 := qH (since_two S2.out q)
 clear q K3 S2
 go_wp2_with fail
 refine (K4.out _ S3.out).mono ?_
 rintro en w4 ⟨rfl, q⟩
 have S4 := qH (since_two S3.out q)
 clear q K4 S3
 go_wp2_with fail
 refine (K5.out _ S4.out).mono ?_
 rintro en w5 ⟨rfl, q⟩
 have B5 := qH (Blk.new w5 42 #[.int .i64 0, .int .i64 0])
 have S5 := qH (since_alloc (since_two S4.out q) (.cells #[.int .i64 0, .int .i64 0] 42))
 clear q K5 S4
 go_wp2_with fail
 refine (O.out _ _ B5.out).mono ?_
 rintro en w6 ⟨rfl, q⟩
 have S6 := qH (since_two S5.out q)
 clear q O S5 B5
 have C6 := qH (Blk.new w6 41 #[.string chain, .string key, .int .i64 0, .bool false])
 have S7 := qH (since_alloc S6.out (.cells #[.string chain, .string key, .int .i64 0, .bool false] 41))
 have lt6 := S6.out.below.size
 go_wp2
 generalize w6.alloc (.cells #[.string chain, .string key, .int .i64 0, .bool false] 41) = V at *
 have c0 := C6.out.c 0 (v := .string chain) rfl
 have c1 := C6.out.c 1 (v := .string key) rfl
 have c2 := C6.out.c 2 (v := .int .i64 0) rfl
 have c3 := C6.out.c 3 (v := .bool false) rfl
 have CB := C6
 clear C6 S6
 have r0 := Since.refl V
 have K6' := qH (fun W (hW : Since V W) => (K6.out W (since_two S7.out hW)).mono fun en w' (h : en = .returned (.string k1) ∧ Since W w') => And.intro h.1 (since_two hW h.2))
 clear K6
 have F9 := qH (fun (W w' : World) (hW : Since V W) (h : ∀ g, g < (W.alloc (.cells #[.string k1, .string x] 36)).heap.size → ¬ S g → some W.heap.size ≠ some g → w'.heap[g]? = (W.alloc (.cells #[.string k1, .string x] 36)).heap[g]?) =>
  have hlt : w6.heap.size < W.heap.size := Nat.lt_of_lt_of_le CB.out.lt hW.below.size
  have e : w'.heap[w6.heap.size]? = V.heap[w6.heap.size]? := (h w6.heap.size (by simp; omega) (fun hs => by have := hS _ hs; omega) (fun x => by injection x with x; omega)).trans ((Below.heap_alloc W _ _ hlt).trans (hW.2.2.2.2 _ CB.out.lt))
  show w'.cell? ⟨w6.heap.size, 0, none⟩ = some (.string chain) ∧ w'.cell? ⟨w6.heap.size, 1, none⟩ = some (.string key) ∧ w'.cell? ⟨w6.heap.size, 2, none⟩ = some (.int .i64 0) ∧ w'.cell? ⟨w6.heap.size, 3, none⟩ = some (.bool false) from
  have hb : Blk w' w6.heap.size 41 #[.string chain, .string key, .int .i64 0, .bool false] := e.trans CB.out
  ⟨hb.c 0 rfl, hb.c 1 rfl, hb.c 2 rfl, hb.c 3 rfl⟩)
 have FB := qH (fun W (hW : Since w W) => And.intro (since_alloc hW (.cells #[.string k1, .string x] 36)) (Blk.new W 36 #[.string k1, .string x]))
 go_region_held3 (fun W => W.cell? ⟨w6.heap.size, 0, none⟩ = some (.string chain) ∧ W.cell? ⟨w6.heap.size, 1, none⟩ = some (.string key) ∧ W.cell? ⟨w6.heap.size, 2, none⟩ = some (.int .i64 0) ∧ W.cell? ⟨w6.heap.size, 3, none⟩ = some (.bool false))
  (first | exact F9.out _ _ s3 hk | exact ⟨s3.cell c0, s3.cell c1, s3.cell c2, s3.cell c3⟩ | go_keep)
  (first
    | (go_at_call 67; refine (K6'.out _ (by exact r0)).mono ?_; clear K6'; rintro en w7 ⟨rfl, s3⟩)
    | (go_at_call 52; refine (ST.out _ _ (by exact (FB.out _ (since_two S7.out s3)).1) (by exact (since_two S7.out s3).below.size) (by exact (FB.out _ (since_two S7.out s3)).2)).mono ?_; clear ST; rintro en w8 ⟨rfl, q, hk⟩))
 all_goals go_wp2
 all_goals go_ret2
 all_goals exact ⟨rfl, q⟩
end Go.Proofs.YtkejaepmoabikaaGreatDoor.W
namespace Go.Proofs.YtkejaepmoabikaaGreatDoor.W
open Go.RowKit Go.Extern.Stop Go.Stop Go.Extern
open _root_.Go.Proofs.Tryz renaming prog → qP
set_option maxHeartbeats 4000000
abbrev hT : Value := .pointer (some ⟨10, 160, none⟩)
abbrev hPT : Value := .pointer (some ⟨10, 163, none⟩)
abbrev hErr : Value := .iface 246 (.agg #[.pointer (some ⟨10, 103, none⟩)])
theorem As.valueOfP (t : Addr) (w : World) : (ReflectliteValue.unpack (.iface 163 (.pointer (some t)))).run qP w
  = .ok (.agg #[.pointer (some ⟨10, 163, none⟩), .pointer (some ⟨w.heap.size, 0, none⟩), .int .u64 150]) (w.alloc (.cells #[.pointer (some t)] 163)) := by kernel_rfl
theorem As.typeP (a : Addr) (w : World) : (ReflectliteValue.methodAny (ReflectliteValue.valueError "reflectlite.Value.Type" 0) (fun t _ _ _ => ReflectliteType.toType t) #[.agg #[.pointer (some ⟨10, 163, none⟩), .pointer (some a), .int .u64 150]]).run qP w
  = .ok (.iface 246 (.agg #[.pointer (some ⟨10, 163, none⟩)])) w := by kernel_rfl
theorem As.methodKind (h : Value) (w : World) : (Go.method 449 246 (.agg #[h]) "Kind").run qP w = .ok (272, h) w := by kernel_rfl
theorem As.kindP (w : World) : ((ReflectliteType.abiMethod fun t => (fun a : Nat => Value.int IntKind.u8 (a : Int)) <$> Rtype.kind t) #[.pointer (some ⟨10, 163, none⟩)]).run qP w = .ok (.int .u8 22) w := by kernel_rfl
theorem As.kindT (w : World) : ((ReflectliteType.abiMethod fun t => (fun a : Nat => Value.int IntKind.u8 (a : Int)) <$> Rtype.kind t) #[.pointer (some ⟨10, 160, none⟩)]).run qP w = .ok (.int .u8 25) w := by kernel_rfl
theorem As.isNilRun (a : Addr) (W : World) : (ReflectliteValue.method (ReflectliteValue.valueError "reflectlite.Value.IsNil" 0) ReflectliteValue.isNil #[.agg #[.pointer (some ⟨10, 163, none⟩), .pointer (some a), .int .u64 150]]).run qP W = (ReflectliteValue.isNil 163 a 150 22).run qP W := by kernel_rfl
theorem As.elemRun (a : Addr) (W : World) : (ReflectliteValue.method (ReflectliteValue.valueError "reflectlite.Value.Elem" 0) ReflectliteValue.elem #[.agg #[.pointer (some ⟨10, 163, none⟩), .pointer (some a), .int .u64 150]]).run qP W = (ReflectliteValue.elem 163 a 150 22).run qP W := by kernel_rfl
theorem As.isNilP (a p : Addr) (W : World) (ha : W.cell? a = some (.pointer (some p))) :
  (ReflectliteValue.method (ReflectliteValue.valueError "reflectlite.Value.IsNil" 0) ReflectliteValue.isNil #[.agg #[.pointer (some ⟨10, 163, none⟩), .pointer (some a), .int .u64 150]]).run qP W = .ok (.bool false) W := by
 rw [As.isNilRun]
 simp [ReflectliteValue.isNil, loadVar, isAgg, underlying, Tryz.underlying163, ha, Result.andThen]
theorem As.methodElem (h : Value) (w : World) : (Go.method 449 246 (.agg #[h]) "Elem").run qP w = .ok (283, .agg #[h]) w := by kernel_rfl
theorem As.methodImplements (h : Value) (w : World) : (Go.method 449 246 (.agg #[h]) "Implements").run qP w = .ok (284, .agg #[h]) w := by kernel_rfl
theorem As.methodAssignableTo (h : Value) (w : World) : (Go.method 449 246 (.agg #[h]) "AssignableTo").run qP w = .ok (281, .agg #[h]) w := by kernel_rfl
theorem As.elemP (w : World) : (ReflectliteType.method ReflectliteType.elem #[.agg #[.pointer (some ⟨10, 163, none⟩)]]).run qP w = .ok (.iface 246 (.agg #[.pointer (some ⟨10, 160, none⟩)])) w := by kernel_rfl
theorem As.implementsT (w : World) : (ReflectliteType.relation "Implements" ReflectliteType.implements_ #[.agg #[.pointer (some ⟨10, 160, none⟩)], .iface 246 (.agg #[.pointer (some ⟨10, 103, none⟩)])]).run qP w = .ok (.bool true) w := by kernel_rfl
theorem As.typeOfT (v : Value) (w : World) : (ReflectliteType.typeOf #[.iface 160 v]).run qP w = .ok (.iface 246 (.agg #[.pointer (some ⟨10, 160, none⟩)])) w := by kernel_rfl
theorem As.assignableT (w : World) : (ReflectliteType.relation "AssignableTo" ReflectliteType.assignableTo #[.agg #[.pointer (some ⟨10, 160, none⟩)], .iface 246 (.agg #[.pointer (some ⟨10, 160, none⟩)])]).run qP w = .ok (.bool true) w := by kernel_rfl
theorem As.valueOfT (e : Int) (w : World) : (ReflectliteValue.unpack (.iface 160 (.agg #[.int .i64 e]))).run qP w
  = .ok (.agg #[.pointer (some ⟨10, 160, none⟩), .pointer (some ⟨w.heap.size, 0, none⟩), .int .u64 153]) (w.alloc (.cells #[.int .i64 e] 160)) := by kernel_rfl
theorem As.elemOfP (w : World) : (Rtype.elem? 163).run qP w = .ok (some 160) w := by kernel_rfl
theorem As.mkT (p : Addr) (w : World) : (ReflectliteValue.mk 160 p ReflectliteValue.flagAddr).run qP w = .ok (.agg #[.pointer (some ⟨10, 160, none⟩), .pointer (some p), .int .u64 409]) w := by kernel_rfl
theorem As.elemVP (a p : Addr) (W : World) (ha : W.cell? a = some (.pointer (some p))) :
  (ReflectliteValue.method (ReflectliteValue.valueError "reflectlite.Value.Elem" 0) ReflectliteValue.elem #[.agg #[.pointer (some ⟨10, 163, none⟩), .pointer (some a), .int .u64 150]]).run qP W
    = .ok (.agg #[.pointer (some ⟨10, 160, none⟩), .pointer (some p), .int .u64 409]) W := by
 rw [As.elemRun]
 simp [ReflectliteValue.elem, loadVar, isAgg, underlying, Tryz.underlying163, ha, Result.andThen, As.elemOfP, As.mkT]
theorem As.setRun (ta b : Addr) (W : World) : (ReflectliteValue.set #[.agg #[.pointer (some ⟨10, 160, none⟩), .pointer (some ta), .int .u64 409], .agg #[.pointer (some ⟨10, 160, none⟩), .pointer (some b), .int .u64 153]]).run qP W
  = ((loadVar 160 b) >>= fun u => (storeVar 160 ta u) >>= fun _ => pure (.tuple #[])).run qP W := by kernel_rfl
theorem As.setT (ta b : Addr) (e : Int) (old : Value) (W : World) (hb : W.cell? b = some (.int .i64 e)) (ht : W.cell? ta = some old) (hf : W.frozen? ta = false) :
  (ReflectliteValue.set #[.agg #[.pointer (some ⟨10, 160, none⟩), .pointer (some ta), .int .u64 409], .agg #[.pointer (some ⟨10, 160, none⟩), .pointer (some b), .int .u64 153]]).run qP W
    = .ok (.tuple #[]) (W.setCell ta (.int .i64 e)) := by
 rw [As.setRun]
 simp [loadVar, loadCells, loadCellsFrom, hb, Result.andThen, storeVar, Value.cells, storeCells, Addr.add]
 rw [run_store qP W ta _ _ (by rfl)]
 simp [ht, hf]
theorem asHit (e : Int) (t : Addr) (old : Value) (w : World) (hg : w.cell? ⟨0, 0, none⟩ = some hErr) (ht0 : w.cell? t = some old) (hf0 : w.frozen? t = false) :
  Calls qP 96 #[.iface 160 (.agg #[.int .i64 e]), .iface 163 (.pointer (some t))] w fun ev w' => ev = .returned (.bool true) ∧ w' = ((((w.alloc (.cells #[.pointer (some t)] 163)).alloc (.cells #[.pointer (some ⟨10, 163, none⟩), .pointer (some ⟨w.heap.size, 0, none⟩), .int .u64 150] 208)).alloc (.cells #[.pointer (some ⟨10, 163, none⟩), .pointer (some ⟨w.heap.size, 0, none⟩), .int .u64 150] 208)).alloc (.cells #[.int .i64 e] 160)).setCell t (.int .i64 e) := by
 have h6 := @run_callFunc_extern qP 141 _ (fun args => ReflectliteValue.unpack (args.getD 0 (.tuple #[]))) Tryz.func141 (by kernel_rfl) (by kernel_rfl) (by kernel_rfl) (by kernel_rfl)
 have h7 := @run_callFunc_extern qP 142 _ (ReflectliteValue.methodAny (ReflectliteValue.valueError "reflectlite.Value.Type" 0) (fun t _ _ _ => ReflectliteType.toType t)) Tryz.func142 (by kernel_rfl) (by kernel_rfl) (by kernel_rfl) (by kernel_rfl)
 have h8 := @run_callFunc_extern qP 143 _ (ReflectliteValue.method (ReflectliteValue.valueError "reflectlite.Value.IsNil" 0) ReflectliteValue.isNil) Tryz.func143 (by kernel_rfl) (by kernel_rfl) (by kernel_rfl) (by kernel_rfl)
 have h27 := @run_callFunc_extern qP 272 _ (ReflectliteType.abiMethod fun t => do pure (.int .u8 (← Rtype.kind t))) Tryz.func272 (by kernel_rfl) (by kernel_rfl) (by kernel_rfl) (by kernel_rfl)
 have h37 := @run_callFunc_extern qP 283 _ (ReflectliteType.method ReflectliteType.elem) Tryz.func283 (by kernel_rfl) (by kernel_rfl) (by kernel_rfl) (by kernel_rfl)
 have h38 := @run_callFunc_extern qP 284 _ (ReflectliteType.relation "Implements" ReflectliteType.implements_) Tryz.func284 (by kernel_rfl) (by kernel_rfl) (by kernel_rfl) (by kernel_rfl)
 have h10 := @run_callFunc_extern qP 176 _ (ReflectliteType.typeOf) Tryz.func176 (by kernel_rfl) (by kernel_rfl) (by kernel_rfl) (by kernel_rfl)
 have h35 := @run_callFunc_extern qP 281 _ (ReflectliteType.relation "AssignableTo" ReflectliteType.assignableTo) Tryz.func281 (by kernel_rfl) (by kernel_rfl) (by kernel_rfl) (by kernel_rfl)
 have h11 := @run_callFunc_extern qP 177 _ (ReflectliteValue.method (ReflectliteValue.valueError "reflectlite.Value.Elem" 0) ReflectliteValue.elem) Tryz.func177 (by kernel_rfl) (by kernel_rfl) (by kernel_rfl) (by kernel_rfl)
 have h12 := @run_callFunc_extern qP 178 _ (ReflectliteValue.set) Tryz.func178 (by kernel_rfl) (by kernel_rfl) (by kernel_rfl) (by kernel_rfl)
 have tO := As.typeOfT
 have mA := As.methodAssignableTo
 have a25 := As.assignableT
 have v25 := As.valueOfT
 have f6 := As.valueOfP
 have f7 := As.typeP
 have mK := As.methodKind
 have mE := As.methodElem
 have mI := As.methodImplements
 have k27 := As.kindP
 have k25 := As.kindT
 have e27 := As.elemP
 have i25 := As.implementsT
 have n8 := As.isNilP ⟨w.heap.size, 0, none⟩ t ((w.alloc (.cells #[.pointer (some t)] 163)).alloc (.cells #[.pointer (some ⟨10, 163, none⟩), .pointer (some ⟨w.heap.size, 0, none⟩), .int .u64 150] 208)) (by simp)
 have hlt : 0 < w.heap.size := World.block_lt_of_cell? w _ hg
 have hg2 : ((w.alloc (.cells #[.pointer (some t)] 163)).alloc (.cells #[.pointer (some ⟨10, 163, none⟩), .pointer (some ⟨w.heap.size, 0, none⟩), .int .u64 150] 208)).cell? ⟨0, 0, none⟩ = some hErr := by
  rw [World.cell?_alloc_lt _ _ ⟨0, 0, none⟩ (by simp), World.cell?_alloc_lt _ _ ⟨0, 0, none⟩ hlt]; exact hg
 have htl : t.block < w.heap.size := World.block_lt_of_cell? w _ ht0
 have el := As.elemVP ⟨w.heap.size, 0, none⟩ t (((w.alloc (.cells #[.pointer (some t)] 163)).alloc (.cells #[.pointer (some ⟨10, 163, none⟩), .pointer (some ⟨w.heap.size, 0, none⟩), .int .u64 150] 208)).alloc (.cells #[.pointer (some ⟨10, 163, none⟩), .pointer (some ⟨w.heap.size, 0, none⟩), .int .u64 150] 208)) (by rw [World.cell?_alloc_lt _ _ ⟨w.heap.size, 0, none⟩ (by simp; omega)]; simp)
 have st := As.setT t ⟨w.heap.size + 1 + 1 + 1, 0, none⟩ e old ((((w.alloc (.cells #[.pointer (some t)] 163)).alloc (.cells #[.pointer (some ⟨10, 163, none⟩), .pointer (some ⟨w.heap.size, 0, none⟩), .int .u64 150] 208)).alloc (.cells #[.pointer (some ⟨10, 163, none⟩), .pointer (some ⟨w.heap.size, 0, none⟩), .int .u64 150] 208)).alloc (.cells #[.int .i64 e] 160))
  (by rw [World.cell?_alloc_at _ _ _ _ (by simp)]; rfl)
  (by rw [World.cell?_alloc_lt _ _ t (by simp; omega), World.cell?_alloc_lt _ _ t (by simp; omega), World.cell?_alloc_lt _ _ t (by simp; omega), World.cell?_alloc_lt _ _ t htl]; exact ht0)
  (by rw [World.frozen?_alloc_old _ _ t (by simp; omega), World.frozen?_alloc_old _ _ t (by simp; omega), World.frozen?_alloc_old _ _ t (by simp; omega), World.frozen?_alloc_old _ _ t (Nat.ne_of_lt htl)]; exact hf0)
 go_enter Tryz.func96, Tryz.ntmps96
 go_wp2
 refine wp_loop_rounds 1 ?_
 rw [rounds_succ]
 go_wp2
 go_ret
 exact ⟨rfl, rfl⟩
end Go.Proofs.YtkejaepmoabikaaGreatDoor.W
namespace Go.Proofs.YtkejaepmoabikaaGreatDoor.W
open Go.RowKit
open Lib renaming hid → qH
open _root_.Go.Proofs.Tryz renaming prog → qP
set_option maxHeartbeats 2000000
theorem reasonC (e : Int) (w : World) (hg : w.cell? ⟨0, 0, none⟩ = some hErr) :
  Calls qP 50 #[.iface 160 (.agg #[.int .i64 e])] w fun en w' => en = .returned (.int .i64 e) ∧ Since w w' := by
 have B0 := qH (Blk.new w 160 #[.int .i64 0])
 have S0 := qH (since_alloc (Since.refl w) (.cells #[.int .i64 0] 160))
 have A := qH (asHit e ⟨w.heap.size, 0, none⟩ (.int .i64 0) _ (S0.out.cell hg) (B0.out.c 0 rfl) (B0.out.frozen 0))
 go_enter Tryz.func50, Tryz.ntmps50
 go_wp2_with fail
 refine A.out.mono ?_
 rintro en w1 ⟨rfl, rfl⟩
 clear A
 have B1 := qH (((((B0.out.alloc (.cells #[.pointer (some ⟨w.heap.size, 0, none⟩)] 163)).alloc (.cells #[hPT, .pointer (some ⟨(w.alloc (.cells #[.int .i64 0] 160)).heap.size, 0, none⟩), .int .u64 150] 208)).alloc (.cells #[hPT, .pointer (some ⟨(w.alloc (.cells #[.int .i64 0] 160)).heap.size, 0, none⟩), .int .u64 150] 208)).alloc (.cells #[.int .i64 e] 160)).set_ 0 (.int .i64 e))
 have S1 := qH (since_put (since_alloc (since_alloc (since_alloc (since_alloc S0.out (.cells #[.pointer (some ⟨w.heap.size, 0, none⟩)] 163)) (.cells #[hPT, .pointer (some ⟨(w.alloc (.cells #[.int .i64 0] 160)).heap.size, 0, none⟩), .int .u64 150] 208)) (.cells #[hPT, .pointer (some ⟨(w.alloc (.cells #[.int .i64 0] 160)).heap.size, 0, none⟩), .int .u64 150] 208)) (.cells #[.int .i64 e] 160)) (p := ⟨w.heap.size, 0, none⟩) (Nat.le_refl _) (.int .i64 e))
 clear B0 S0
 generalize hW : World.setCell _ (⟨w.heap.size, 0, none⟩ : Addr) (Value.int .i64 e) = W1 at *
 have c0 : W1.cell? ⟨w.heap.size, 0, none⟩ = some (.int .i64 e) := B1.out.c 0 rfl
 go_wp2
 go_ret
 exact ⟨rfl, S1.out⟩
end Go.Proofs.YtkejaepmoabikaaGreatDoor.W
