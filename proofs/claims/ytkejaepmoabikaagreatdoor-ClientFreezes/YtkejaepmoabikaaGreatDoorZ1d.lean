import Derived.Stop.LaidErr
import Derived.MakeChecks
import Derived.LaidHandle
import Derived.Lib.LaidTab
import Derived.Shelf.Vars
import Derived.Test.YtkejaepmoabikaaGreatDoorZ0g
import Derived.Test.YtkejaepmoabikaaGreatDoorZ0f
import Derived.Test.YtkejaepmoabikaaGreatDoorZ1b
import Derived.Test.YtkejaepmoabikaaGreatDoorZ1a
import Derived.Test.YtkejaepmoabikaaGreatDoorZ0b
import Derived.Test.YtkejaepmoabikaaGreatDoorZ1c
import Derived.Test.YtkejaepmoabikaaGreatDoorZ0h
namespace Go.Proofs.YtkejaepmoabikaaGreatDoor.W
open Go.RowKit
open Lib renaming hid → qH
open _root_.Go.Proofs.Tryz renaming prog → qP
set_option maxHeartbeats 4000000
set_option maxRecDepth 100000
theorem raddNum_this (s t : List UInt8) (e f : Int) (x : Int) (w : World) (hs : s.length ≤ 1000000000) (ht : t.length ≤ 100000)
  (K : Hid (∀ W, Calls qP 123 #[.int .i64 x] W fun e w' => e = .returned (.tuple #[.string (bs t), .int .i64 f]) ∧ Below W.heap.size W w')) :
  Calls qP 101 #[.string (bs s), .int .i64 e, .int .i64 x] w fun en w' => en = .returned (retSE (radd (s, e) (t, f))) ∧ Below w.heap.size w w' := by
 by_cases he : e = 0
 ·subst he
  by_cases hf : f = 0
  ·subst hf
   have hr : radd (s, 0) (t, 0) = (s ++ t, 0) := by simp [radd]
   have a1 : ∀ W, (Op.stringOp .add (bs s) (bs t)).run qP W = .ok (.string (bs (s ++ t))) W := fun W => run_add W s t (by omega)
   rw [hr]
   unfold retSE
   clear hr hs ht
   go_enter Tryz.func101, Tryz.ntmps101
   go_wp2_with fail
   refine (K.out _).mono ?_
   rintro en w1 ⟨rfl, b1⟩
   go_wp2
   go_ret2
   exact ⟨rfl, b1⟩
  ·have hr : radd (s, 0) (t, f) = ([], f) := by simp [radd, hf]
   have hfn : (f != 0) = true := by rw [bne_iff_ne]; exact hf
   rw [hr]
   unfold retSE
   clear hr hs ht hf
   go_enter Tryz.func101, Tryz.ntmps101
   go_wp2_with fail
   refine (K.out _).mono ?_
   rintro en w1 ⟨rfl, b1⟩
   go_wp2
   go_ret2
   exact ⟨rfl, b1⟩
 ·have hr : radd (s, e) (t, f) = ([], e) := by simp [radd, he]
  have hen : (e != 0) = true := by rw [bne_iff_ne]; exact he
  rw [hr]
  unfold retSE
  clear hr hs ht he
  go_enter Tryz.func101, Tryz.ntmps101
  go_wp2
  go_ret2
  exact ⟨rfl, Below.refl _ _⟩
theorem raddNum (st : List UInt8 × Int) (x : Int) (w : World) (hs : st.1.length ≤ 1000000000) :
  Calls qP 101 #[.string (bs st.1), .int .i64 st.2, .int .i64 x] w fun en w' => en = .returned (retSE (radd st (encNum x))) ∧ Since w w' :=
 (raddNum_this st.1 (encNum x).1 st.2 (encNum x).2 x w hs (by have := encNum_len x; omega) (qH fun W => rNumC x _ _ rfl W)).mono fun e w' ⟨he, hb⟩ => ⟨he, since_of hb⟩
theorem raddText_this (s t : List UInt8) (e f : Int) (x : ByteArray) (w : World) (hs : s.length ≤ 1000000000) (ht : t.length ≤ 100000)
  (K : Hid (∀ W, Calls qP 93 #[.string x] W fun e w' => e = .returned (.tuple #[.string (bs t), .int .i64 f]) ∧ Below W.heap.size W w')) :
  Calls qP 102 #[.string (bs s), .int .i64 e, .string x] w fun en w' => en = .returned (retSE (radd (s, e) (t, f))) ∧ Below w.heap.size w w' := by
 by_cases he : e = 0
 ·subst he
  by_cases hf : f = 0
  ·subst hf
   have hr : radd (s, 0) (t, 0) = (s ++ t, 0) := by simp [radd]
   have a1 : ∀ W, (Op.stringOp .add (bs s) (bs t)).run qP W = .ok (.string (bs (s ++ t))) W := fun W => run_add W s t (by omega)
   rw [hr]
   unfold retSE
   clear hr hs ht
   go_enter Tryz.func102, Tryz.ntmps102
   go_wp2_with fail
   refine (K.out _).mono ?_
   rintro en w1 ⟨rfl, b1⟩
   go_wp2
   go_ret2
   exact ⟨rfl, b1⟩
  ·have hr : radd (s, 0) (t, f) = ([], f) := by simp [radd, hf]
   have hfn : (f != 0) = true := by rw [bne_iff_ne]; exact hf
   rw [hr]
   unfold retSE
   clear hr hs ht hf
   go_enter Tryz.func102, Tryz.ntmps102
   go_wp2_with fail
   refine (K.out _).mono ?_
   rintro en w1 ⟨rfl, b1⟩
   go_wp2
   go_ret2
   exact ⟨rfl, b1⟩
 ·have hr : radd (s, e) (t, f) = ([], e) := by simp [radd, he]
  have hen : (e != 0) = true := by rw [bne_iff_ne]; exact he
  rw [hr]
  unfold retSE
  clear hr hs ht he
  go_enter Tryz.func102, Tryz.ntmps102
  go_wp2
  go_ret2
  exact ⟨rfl, Below.refl _ _⟩
theorem raddText (st : List UInt8 × Int) (x : ByteArray) (w : World) (hs : st.1.length ≤ 1000000000) :
  Calls qP 102 #[.string (bs st.1), .int .i64 st.2, .string x] w fun en w' => en = .returned (retSE (radd st (encText x))) ∧ Since w w' :=
 (raddText_this st.1 (encText x).1 st.2 (encText x).2 x w hs (by have := encText_len x; omega) (qH fun W => rTextC x _ _ rfl W)).mono fun e w' ⟨he, hb⟩ => ⟨he, since_of hb⟩
theorem ritems_fold (n pos : Int) (t : Bool) (near : List KV) (paths : List (List (List UInt8))) (tn : Int) (ht : tn = if t then 1 else 0) :
  (items ⟨n, pos, t, near, paths⟩).foldl radd ([], 0) = (pathItems paths).foldl radd (radd ((nearItems near).foldl radd (radd (radd (radd (radd ([], 0) (encNum n)) (encNum pos)) (encNum tn)) (encNum near.length))) (encNum paths.length)) := by
 subst ht
 simp only [items, headItems, List.foldl_append, List.foldl_cons, List.foldl_nil, List.append_assoc]
theorem put_of {x : Pf} (h : ¬ (x.there = true ∧ x.near ≠ [])) : encPf x = (items x).foldl radd ([], 0) := by unfold encPf; rw [if_neg h]
theorem rPutNo (n pos : Int) (A1 A2 : Option Addr) (m1 c1 m2 c2 : Nat) (w : World) (h : 0 < m1) :
  Calls qP 56 #[.agg #[.int .i64 n, .int .i64 pos, .bool true, .slice A1 m1 c1, .slice A2 m2 c2]] w fun e w' => e = .returned (.tuple #[.string (bs []), .int .i64 6]) ∧ Since w w' := by
 have HR := qH (show Since w (w.alloc (.cells #[.int .i64 n, .int .i64 pos, .bool true, .slice A1 m1 c1, .slice A2 m2 c2] 112)) from since_of (by go_grown))
 have h1 : (0 : Int) < (m1 : Int) := by omega
 go_enter Tryz.func56, Tryz.ntmps56
 go_wp2
 go_ret2
 exact ⟨rfl, HR.out⟩
theorem rPut_false (n pos : Int) (A1 : Option Addr) (c1 : Nat) (A2 : Option Addr) (c2 : Nat) (near : List KV) (paths : List (List (List UInt8))) (w : World) (hz1 : near.length ≤ 4) (hz2 : paths.length ≤ 4)
  (hc : ∀ k (h : k < near.length), ∃ b off, A1 = some ⟨b, off, none⟩ ∧ w.cell? ⟨b, off + k * 2, none⟩ = some (.string near[k].1) ∧ w.cell? ⟨b, off + k * 2 + 1, none⟩ = some (.string near[k].2))
  (hq : ∀ (k : Nat) q, paths[k]? = some q → ∃ b off u, A2 = some ⟨b, off, none⟩ ∧ w.cell? ⟨b, off + k, none⟩ = some u ∧ ∀ W, Since w W → Calls qP 103 #[u] W fun e w' => e = .returned (retSE (encJoin (bss q))) ∧ Since W w')
  (HN : Hid (∀ (st : List UInt8 × Int) (x : Int) W, Since w W → st.1.length ≤ 1000000000 → Calls qP 101 #[.string (bs st.1), .int .i64 st.2, .int .i64 x] W fun e w' => e = .returned (retSE (radd st (encNum x))) ∧ Since W w'))
  (HT : Hid (∀ (st : List UInt8 × Int) (x : ByteArray) W, Since w W → st.1.length ≤ 1000000000 → Calls qP 102 #[.string (bs st.1), .int .i64 st.2, .string x] W fun e w' => e = .returned (retSE (radd st (encText x))) ∧ Since W w')) :
  Calls qP 56 #[.agg #[.int .i64 n, .int .i64 pos, .bool false, .slice A1 near.length c1, .slice A2 paths.length c2]] w fun e w' => e = .returned (retSE ((pathItems paths).foldl radd (radd ((nearItems near).foldl radd (radd (radd (radd (radd ([], 0) (encNum n)) (encNum pos)) (encNum 0)) (encNum near.length))) (encNum paths.length)))) ∧ Since w w' := by
 have HC := qH hc
 have HQ := qH hq
 have HZ := qH (And.intro hz1 hz2)
 have S0 := qH (show Since w (w.alloc (.cells #[.int .i64 n, .int .i64 pos, .bool false, .slice A1 near.length c1, .slice A2 paths.length c2] 112)) from since_of (by go_grown))
 have X0 := qH (Blk.new w 112 #[.int .i64 n, .int .i64 pos, .bool false, .slice A1 near.length c1, .slice A2 paths.length c2])
 have L0 := qH (show (([] : List UInt8), (0 : Int)).1.length ≤ 0 by simp)
 obtain ⟨s0, hs0⟩ : ∃ s, s = (([] : List UInt8), (0 : Int)) := ⟨_, rfl⟩
 have e01 : bs s0.1 = ⟨#[]⟩ := by rw [hs0]; rfl
 have e02 : s0.2 = 0 := by rw [hs0]
 have HN0 := qH (fun x W (h : Since w W) => HN.out s0 x W h (by rw [hs0]; simp))
 rw [e01, e02] at HN0
 rw [← hs0] at L0
 have E0 := qH hs0
 obtain ⟨fin9, hfin⟩ : ∃ r, r = (pathItems paths).foldl radd (radd ((nearItems near).foldl radd (radd (radd (radd (radd ([], 0) (encNum n)) (encNum pos)) (encNum 0)) (encNum near.length))) (encNum paths.length)) := ⟨_, rfl⟩
 rw [← hfin]
 have HF := qH hfin
 clear hc hq hs0 e01 e02 hfin hz1 hz2
 go_enter Tryz.func56, Tryz.ntmps56
 go_wp2_with fail
 refine (HN0.out n _ S0.out).mono ?_
 rintro e w1 ⟨rfl, q1⟩
 have S1 := qH (show Since w w1 from since_of (step_below S0.out.below q1.below))
 have X1 := qH (X0.out.next q1.below)
 have L1 := qH (show (radd s0 (encNum n)).1.length ≤ 8 by have h1 := radd_len s0 (encNum n); have h2 := encNum_len n; have := L0.out; omega)
 obtain ⟨s1, hs1⟩ : ∃ s, s = radd s0 (encNum n) := ⟨_, rfl⟩
 rw [← hs1] at L1 ⊢
 have E1 := qH hs1
 unfold retSE
 clear hs1 q1 S0 X0 L0
 have y0 : w1.cell? ⟨w.heap.size, 0, none⟩ = some (.int .i64 n) := X1.out.cell 0
 have y1 : w1.cell? ⟨w.heap.size, 1, none⟩ = some (.int .i64 pos) := X1.out.cell 1
 have y3 : w1.cell? ⟨w.heap.size, 3, none⟩ = some (.slice A1 near.length c1) := X1.out.cell 3
 have y4 : w1.cell? ⟨w.heap.size, 4, none⟩ = some (.slice A2 paths.length c2) := X1.out.cell 4
 go_wp2_with fail
 clear y0 y1 y3 y4
 refine (HN.out s1 pos _ S1.out (by have := L1.out; omega)).mono ?_
 rintro e w2 ⟨rfl, q2⟩
 have S2 := qH (show Since w w2 from since_of (step_below S1.out.below q2.below))
 have X2 := qH (X1.out.next q2.below)
 have L2 := qH (show (radd s1 (encNum pos)).1.length ≤ 16 by have h1 := radd_len s1 (encNum pos); have h2 := encNum_len pos; have := L1.out; omega)
 obtain ⟨s2, hs2⟩ : ∃ s, s = radd s1 (encNum pos) := ⟨_, rfl⟩
 rw [← hs2] at L2 ⊢
 have E2 := qH hs2
 unfold retSE
 clear hs2 q2 S1 X1 L1
 have y0 : w2.cell? ⟨w.heap.size, 0, none⟩ = some (.int .i64 n) := X2.out.cell 0
 have y1 : w2.cell? ⟨w.heap.size, 1, none⟩ = some (.int .i64 pos) := X2.out.cell 1
 have y3 : w2.cell? ⟨w.heap.size, 3, none⟩ = some (.slice A1 near.length c1) := X2.out.cell 3
 have y4 : w2.cell? ⟨w.heap.size, 4, none⟩ = some (.slice A2 paths.length c2) := X2.out.cell 4
 go_wp2_with fail
 clear y0 y1 y3 y4
 refine (HN.out s2 0 _ S2.out (by have := L2.out; omega)).mono ?_
 rintro e w3 ⟨rfl, q3⟩
 have S3 := qH (show Since w w3 from since_of (step_below S2.out.below q3.below))
 have X3 := qH (X2.out.next q3.below)
 have L3 := qH (show (radd s2 (encNum 0)).1.length ≤ 24 by have h1 := radd_len s2 (encNum 0); have h2 := encNum_len 0; have := L2.out; omega)
 obtain ⟨s3, hs3⟩ : ∃ s, s = radd s2 (encNum 0) := ⟨_, rfl⟩
 rw [← hs3] at L3 ⊢
 have E3 := qH hs3
 unfold retSE
 clear hs3 q3 S2 X2 L2
 have y0 : w3.cell? ⟨w.heap.size, 0, none⟩ = some (.int .i64 n) := X3.out.cell 0
 have y1 : w3.cell? ⟨w.heap.size, 1, none⟩ = some (.int .i64 pos) := X3.out.cell 1
 have y3 : w3.cell? ⟨w.heap.size, 3, none⟩ = some (.slice A1 near.length c1) := X3.out.cell 3
 have y4 : w3.cell? ⟨w.heap.size, 4, none⟩ = some (.slice A2 paths.length c2) := X3.out.cell 4
 go_wp2_with fail
 clear y0 y1 y3 y4
 refine (HN.out s3 near.length _ S3.out (by have := L3.out; omega)).mono ?_
 rintro e w4 ⟨rfl, q4⟩
 have S4 := qH (show Since w w4 from since_of (step_below S3.out.below q4.below))
 have X4 := qH (X3.out.next q4.below)
 have L4 := qH (show (radd s3 (encNum near.length)).1.length ≤ 32 by have h1 := radd_len s3 (encNum near.length); have h2 := encNum_len near.length; have := L3.out; omega)
 obtain ⟨s4, hs4⟩ : ∃ s, s = radd s3 (encNum near.length) := ⟨_, rfl⟩
 rw [← hs4] at L4 ⊢
 have E4 := qH hs4
 unfold retSE
 clear hs4 q4 S3 X3 L3
 have y0 : w4.cell? ⟨w.heap.size, 0, none⟩ = some (.int .i64 n) := X4.out.cell 0
 have y1 : w4.cell? ⟨w.heap.size, 1, none⟩ = some (.int .i64 pos) := X4.out.cell 1
 have y3 : w4.cell? ⟨w.heap.size, 3, none⟩ = some (.slice A1 near.length c1) := X4.out.cell 3
 have y4 : w4.cell? ⟨w.heap.size, 4, none⟩ = some (.slice A2 paths.length c2) := X4.out.cell 4
 clear y0 y1
 go_wp2
 go_loopw [5, 6, 7] (fun a b i wr => ∃ (k : Nat) (st : List UInt8 × Int), k ≤ near.length ∧ i = .int .i64 k ∧ a = .string (bs st.1) ∧ b = .int .i64 st.2 ∧ Hid (st = (nearItems (near.take k)).foldl radd s4 ∧ st.1.length ≤ 32 + k * 131088) ∧ Hid (Since w4 wr)) (fun _ _ i _ => near.length - (intOf i).toNat)
 case atStart => exact ⟨0, s4, Nat.zero_le _, rfl, rfl, rfl, qH ⟨rfl, by have := L4.out; omega⟩, qH (Since.refl w4)⟩
 case round =>
  obtain ⟨k, st, hk, rfl, rfl, rfl, HI, HW⟩ := hrel
  have x3 := HW.out.cell y3
  have x4 := HW.out.cell y4
  have HSW := qH (show Since w wr from since_of (step_below S4.out.below HW.out.below))
  by_cases hlt : k < near.length
  ·obtain ⟨g1, o1, rfl, d1, d2⟩ := HC.out k hlt
   have z1 := HSW.out.cell d1
   have z2 := HSW.out.cell d2
   have i0 : (0 : Int) ≤ (k : Int) := by omega
   have i1 : (k : Int) < (near.length : Int) := by omega
   have HE := qH (nearItems_at hlt)
   have hz := HZ.out.1
   obtain ⟨p, hp⟩ : ∃ p, p = near[k] := ⟨_, rfl⟩
   rw [← hp] at z1 z2 HE
   obtain ⟨p1, p2⟩ := p
   simp only at z1 z2 HE
   clear d1 d2 hp
   go_wp2_with fail
   refine (HT.out st p1 _ HSW.out (by have := HI.out.2; omega)).mono ?_
   rintro e w5 ⟨rfl, q5⟩
   have HW5 := qH (show Since w4 w5 from since_of (step_below HW.out.below q5.below))
   have HSW5 := qH (show Since w w5 from since_of (step_below HSW.out.below q5.below))
   have x3' := q5.cell x3
   have z2' := q5.cell z2
   have L5 := qH (show (radd st (encText p1)).1.length ≤ 32 + k * 131088 + 65544 by have h1 := radd_len st (encText p1); have h2 := encText_len p1; have := HI.out.2; omega)
   obtain ⟨st1, hst1⟩ : ∃ s, s = radd st (encText p1) := ⟨_, rfl⟩
   rw [← hst1] at L5 ⊢
   have E5 := qH hst1
   unfold retSE
   clear hst1 q5 x3 x4 z1 z2 HW HSW
   go_wp2_with fail
   refine (HT.out st1 p2 _ HSW5.out (by have := L5.out; omega)).mono ?_
   rintro e w6 ⟨rfl, q6⟩
   have HW6 := qH (show Since w4 w6 from since_of (step_below HW5.out.below q6.below))
   have L6 := qH (show (radd st1 (encText p2)).1.length ≤ 32 + (k + 1) * 131088 by have h1 := radd_len st1 (encText p2); have h2 := encText_len p2; have := L5.out; omega)
   have E6 := qH (show radd st1 (encText p2) = (nearItems (near.take (k + 1))).foldl radd s4 by rw [HE.out, List.foldl_append, ← HI.out.1, E5.out]; rfl)
   obtain ⟨st2, hst2⟩ : ∃ s, s = radd st1 (encText p2) := ⟨_, rfl⟩
   rw [← hst2] at L6 E6 ⊢
   unfold retSE
   clear hst2 q6 x3' z2' HW5 HSW5 L5 E5 HE HI
   go_wp2
   go_roundw
   case rel => exact ⟨k + 1, st2, by omega, by go_num, rfl, rfl, qH ⟨E6.out, L6.out⟩, HW6⟩
   case measure => simp [intOf]; omega
  ·obtain rfl : k = near.length := by omega
   have HI2 := qH (show st = (nearItems near).foldl radd s4 by have := HI.out.1; rwa [List.take_length] at this)
   have LI2 := HI.out.2
   have hz := HZ.out.1
   have LI := qH (show st.1.length ≤ 600000 by omega)
   clear HI LI2 hz
   go_wp2_with fail
   refine (HN.out st paths.length _ HSW.out (by have := LI.out; omega)).mono ?_
   rintro e w5 ⟨rfl, q5⟩
   have HW5 := qH (show Since w w5 from since_of (step_below HSW.out.below q5.below))
   have v4 := q5.cell x4
   have L5 := qH (show (radd st (encNum paths.length)).1.length ≤ 700000 by have h1 := radd_len st (encNum paths.length); have h2 := encNum_len paths.length; have := LI.out; omega)
   have NRM := qH (radd_norm (s := st) (p := encNum paths.length))
   obtain ⟨s5, hs5⟩ : ∃ s, s = radd st (encNum paths.length) := ⟨_, rfl⟩
   rw [← hs5] at L5 NRM ⊢
   have HF5 := qH (show fin9 = (pathItems paths).foldl radd s5 by rw [HF.out, hs5, HI2.out, E4.out, E3.out, E2.out, E1.out, E0.out])
   unfold retSE
   clear hs5 q5 x3 x4 y3 y4 HW HSW HF HI2 E0 E1 E2 E3 E4 LI HC HT
   rename World => w5
   go_wp2
   go_loopw [5, 6, 8, 9, 10] (fun a b i _ _ wr => ∃ (k : Nat) (su : List UInt8 × Int), k ≤ paths.length ∧ i = .int .i64 k ∧ a = .string (bs su.1) ∧ b = .int .i64 su.2 ∧ Hid (su = (pathItems (paths.take k)).foldl kadd s5 ∧ su.1.length ≤ 700000 + k * 17000000) ∧ Hid (Since w5 wr)) (fun _ _ i _ _ _ => paths.length - (intOf i).toNat)
   case atStart => exact ⟨0, s5, Nat.zero_le _, rfl, rfl, rfl, qH ⟨rfl, by have := L5.out; omega⟩, qH (Since.refl w5)⟩
   case round =>
    obtain ⟨k, su, hk, rfl, rfl, rfl, HJ, HV⟩ := hrel
    have u4 := HV.out.cell v4
    have HSV := qH (show Since w wr from since_of (step_below HW5.out.below HV.out.below))
    have hf5 : fin s5 = s5 := by
     unfold fin
     by_cases h : s5.2 = 0
     ·rw [if_neg (by simp [h])]
     ·rw [if_pos h, ← NRM.out h]
    by_cases hlt : k < paths.length
    ·have hsplit : fin9 = ((pathItems paths).drop k).foldl radd (fin su) := by
      have e : pathItems paths = pathItems (paths.take k) ++ (pathItems paths).drop k := by
       conv => lhs; rw [← List.take_append_drop k (pathItems paths)]
       congr 1
       simp [pathItems, List.map_take]
      rw [HF5.out, HJ.out.1, fin_fold, hf5, ← List.foldl_append, ← e]
     have HSP := qH hsplit
     clear hsplit hf5
     by_cases he : su.2 = 0
     ·obtain ⟨g2, o2, u, rfl, d3, J⟩ := HQ.out k _ (List.getElem?_eq_getElem hlt)
      have z3 := HSV.out.cell d3
      have HJN := qH (J _ HSV.out)
      have i0 : (0 : Int) ≤ (k : Int) := by omega
      have i1 : (k : Int) < (paths.length : Int) := by omega
      have hb : (su.2 != 0) = false := by rw [he]; rfl
      have LJ := encJoin_len (bss paths[k])
      have HE := qH (pathItems_at hlt)
      have hz := HZ.out.2
      obtain ⟨⟨t1, f1⟩, ht⟩ : ∃ t, t = encJoin (bss paths[k]) := ⟨_, rfl⟩
      rw [← ht] at HJN HE LJ
      have a1 : ∀ W, (Op.stringOp .add (bs su.1) (bs t1)).run qP W = .ok (.string (bs (su.1 ++ t1))) W := fun W => run_add W su.1 t1 (by have := HJ.out.2; simp only at LJ; omega)
      have HK := qH (show kadd su (t1, f1) = (su.1 ++ t1, f1) by unfold kadd; rw [if_neg (by simp [he])])
      have L7 := qH (show (su.1 ++ t1).length ≤ 700000 + (k + 1) * 17000000 by rw [List.length_append]; have := HJ.out.2; simp only at LJ; omega)
      have E7 := qH (show (su.1 ++ t1, f1) = (pathItems (paths.take (k + 1))).foldl kadd s5 by rw [HE.out, List.foldl_append, ← HJ.out.1, List.foldl_cons, List.foldl_nil, HK.out])
      clear d3 J ht LJ HE HK HSP HJ
      obtain ⟨r1, r2⟩ := su
      simp only at he hb a1 L7 E7
      subst he
      go_wp2_with fail
      refine HJN.out.mono ?_
      rintro e w6 ⟨rfl, q6⟩
      have HV6 := qH (show Since w5 w6 from since_of (step_below HV.out.below q6.below))
      unfold retSE
      clear q6 HJN z3 u4 HV HSV
      go_wp2
      go_roundw
      case rel => exact ⟨k + 1, (r1 ++ t1, f1), by omega, by go_num, rfl, rfl, qH ⟨E7.out, L7.out⟩, HV6⟩
      case measure => simp [intOf]; omega
     ·have hb : (su.2 != 0) = true := by rw [bne_iff_ne]; exact he
      have i1 : (k : Int) < (paths.length : Int) := by omega
      have HR := qH (show fin9 = ([], su.2) by
       rw [HSP.out]
       unfold fin
       rw [if_pos he]
       exact fold_bad _ he)
      clear he HSP HJ
      go_wp2
      go_ret2
      exact ⟨by rw [HR.out]; rfl, HSV.out⟩
    ·obtain rfl : k = paths.length := by omega
     have HR := qH (show fin9 = fin su by
      have h1 := HJ.out.1
      rw [List.take_length] at h1
      rw [HF5.out, h1, fin_fold, hf5])
     have i1 : ¬ (paths.length : Int) < (paths.length : Int) := by omega
     clear hf5 HJ
     by_cases he : su.2 = 0
     ·have hb : (su.2 != 0) = false := by rw [he]; rfl
      have HR2 := qH (show fin9 = (su.1, 0) by rw [HR.out]; unfold fin; rw [if_neg (by simp [he]), ← he])
      clear HR
      go_wp2
      go_ret2
      exact ⟨by rw [HR2.out]; rfl, HSV.out⟩
     ·have hb : (su.2 != 0) = true := by rw [bne_iff_ne]; exact he
      have HR2 := qH (show fin9 = ([], su.2) by rw [HR.out]; unfold fin; rw [if_pos he])
      clear HR he
      go_wp2
      go_ret2
      exact ⟨by rw [HR2.out]; rfl, HSV.out⟩
theorem rPut_true (n pos : Int) (A1 : Option Addr) (c1 : Nat) (A2 : Option Addr) (c2 : Nat) (near : List KV) (paths : List (List (List UInt8))) (w : World) (hno : near = []) (hz1 : near.length ≤ 4) (hz2 : paths.length ≤ 4)
  (hc : ∀ k (h : k < near.length), ∃ b off, A1 = some ⟨b, off, none⟩ ∧ w.cell? ⟨b, off + k * 2, none⟩ = some (.string near[k].1) ∧ w.cell? ⟨b, off + k * 2 + 1, none⟩ = some (.string near[k].2))
  (hq : ∀ (k : Nat) q, paths[k]? = some q → ∃ b off u, A2 = some ⟨b, off, none⟩ ∧ w.cell? ⟨b, off + k, none⟩ = some u ∧ ∀ W, Since w W → Calls qP 103 #[u] W fun e w' => e = .returned (retSE (encJoin (bss q))) ∧ Since W w')
  (HN : Hid (∀ (st : List UInt8 × Int) (x : Int) W, Since w W → st.1.length ≤ 1000000000 → Calls qP 101 #[.string (bs st.1), .int .i64 st.2, .int .i64 x] W fun e w' => e = .returned (retSE (radd st (encNum x))) ∧ Since W w')) :
  Calls qP 56 #[.agg #[.int .i64 n, .int .i64 pos, .bool true, .slice A1 near.length c1, .slice A2 paths.length c2]] w fun e w' => e = .returned (retSE ((pathItems paths).foldl radd (radd ((nearItems near).foldl radd (radd (radd (radd (radd ([], 0) (encNum n)) (encNum pos)) (encNum 1)) (encNum near.length))) (encNum paths.length)))) ∧ Since w w' := by
 have HC := qH hc
 have HQ := qH hq
 have HZ := qH (And.intro hz1 hz2)
 have S0 := qH (show Since w (w.alloc (.cells #[.int .i64 n, .int .i64 pos, .bool true, .slice A1 near.length c1, .slice A2 paths.length c2] 112)) from since_of (by go_grown))
 have X0 := qH (Blk.new w 112 #[.int .i64 n, .int .i64 pos, .bool true, .slice A1 near.length c1, .slice A2 paths.length c2])
 have L0 := qH (show (([] : List UInt8), (0 : Int)).1.length ≤ 0 by simp)
 obtain ⟨s0, hs0⟩ : ∃ s, s = (([] : List UInt8), (0 : Int)) := ⟨_, rfl⟩
 have e01 : bs s0.1 = ⟨#[]⟩ := by rw [hs0]; rfl
 have e02 : s0.2 = 0 := by rw [hs0]
 have HN0 := qH (fun x W (h : Since w W) => HN.out s0 x W h (by rw [hs0]; simp))
 rw [e01, e02] at HN0
 rw [← hs0] at L0
 have E0 := qH hs0
 obtain ⟨fin9, hfin⟩ : ∃ r, r = (pathItems paths).foldl radd (radd ((nearItems near).foldl radd (radd (radd (radd (radd ([], 0) (encNum n)) (encNum pos)) (encNum 1)) (encNum near.length))) (encNum paths.length)) := ⟨_, rfl⟩
 rw [← hfin]
 have HF := qH hfin
 have HNO := qH hno
 have hgt : ¬ (0 : Int) < (near.length : Int) := by rw [hno]; simp
 clear hc hq hs0 e01 e02 hfin hz1 hz2 hno
 go_enter Tryz.func56, Tryz.ntmps56
 go_wp2_with fail
 clear hgt
 refine (HN0.out n _ S0.out).mono ?_
 rintro e w1 ⟨rfl, q1⟩
 have S1 := qH (show Since w w1 from since_of (step_below S0.out.below q1.below))
 have X1 := qH (X0.out.next q1.below)
 have L1 := qH (show (radd s0 (encNum n)).1.length ≤ 8 by have h1 := radd_len s0 (encNum n); have h2 := encNum_len n; have := L0.out; omega)
 obtain ⟨s1, hs1⟩ : ∃ s, s = radd s0 (encNum n) := ⟨_, rfl⟩
 rw [← hs1] at L1 ⊢
 have E1 := qH hs1
 unfold retSE
 clear hs1 q1 S0 X0 L0
 have y0 : w1.cell? ⟨w.heap.size, 0, none⟩ = some (.int .i64 n) := X1.out.cell 0
 have y1 : w1.cell? ⟨w.heap.size, 1, none⟩ = some (.int .i64 pos) := X1.out.cell 1
 have y3 : w1.cell? ⟨w.heap.size, 3, none⟩ = some (.slice A1 near.length c1) := X1.out.cell 3
 have y4 : w1.cell? ⟨w.heap.size, 4, none⟩ = some (.slice A2 paths.length c2) := X1.out.cell 4
 go_wp2_with fail
 clear y0 y1 y3 y4
 refine (HN.out s1 pos _ S1.out (by have := L1.out; omega)).mono ?_
 rintro e w2 ⟨rfl, q2⟩
 have S2 := qH (show Since w w2 from since_of (step_below S1.out.below q2.below))
 have X2 := qH (X1.out.next q2.below)
 have L2 := qH (show (radd s1 (encNum pos)).1.length ≤ 16 by have h1 := radd_len s1 (encNum pos); have h2 := encNum_len pos; have := L1.out; omega)
 obtain ⟨s2, hs2⟩ : ∃ s, s = radd s1 (encNum pos) := ⟨_, rfl⟩
 rw [← hs2] at L2 ⊢
 have E2 := qH hs2
 unfold retSE
 clear hs2 q2 S1 X1 L1
 have y0 : w2.cell? ⟨w.heap.size, 0, none⟩ = some (.int .i64 n) := X2.out.cell 0
 have y1 : w2.cell? ⟨w.heap.size, 1, none⟩ = some (.int .i64 pos) := X2.out.cell 1
 have y3 : w2.cell? ⟨w.heap.size, 3, none⟩ = some (.slice A1 near.length c1) := X2.out.cell 3
 have y4 : w2.cell? ⟨w.heap.size, 4, none⟩ = some (.slice A2 paths.length c2) := X2.out.cell 4
 go_wp2_with fail
 clear y0 y1 y3 y4
 refine (HN.out s2 1 _ S2.out (by have := L2.out; omega)).mono ?_
 rintro e w3 ⟨rfl, q3⟩
 have S3 := qH (show Since w w3 from since_of (step_below S2.out.below q3.below))
 have X3 := qH (X2.out.next q3.below)
 have L3 := qH (show (radd s2 (encNum 1)).1.length ≤ 24 by have h1 := radd_len s2 (encNum 1); have h2 := encNum_len 1; have := L2.out; omega)
 obtain ⟨s3, hs3⟩ : ∃ s, s = radd s2 (encNum 1) := ⟨_, rfl⟩
 rw [← hs3] at L3 ⊢
 have E3 := qH hs3
 unfold retSE
 clear hs3 q3 S2 X2 L2
 have y0 : w3.cell? ⟨w.heap.size, 0, none⟩ = some (.int .i64 n) := X3.out.cell 0
 have y1 : w3.cell? ⟨w.heap.size, 1, none⟩ = some (.int .i64 pos) := X3.out.cell 1
 have y3 : w3.cell? ⟨w.heap.size, 3, none⟩ = some (.slice A1 near.length c1) := X3.out.cell 3
 have y4 : w3.cell? ⟨w.heap.size, 4, none⟩ = some (.slice A2 paths.length c2) := X3.out.cell 4
 go_wp2_with fail
 clear y0 y1 y3 y4
 refine (HN.out s3 near.length _ S3.out (by have := L3.out; omega)).mono ?_
 rintro e w4 ⟨rfl, q4⟩
 have S4 := qH (show Since w w4 from since_of (step_below S3.out.below q4.below))
 have X4 := qH (X3.out.next q4.below)
 have L4 := qH (show (radd s3 (encNum near.length)).1.length ≤ 32 by have h1 := radd_len s3 (encNum near.length); have h2 := encNum_len near.length; have := L3.out; omega)
 obtain ⟨s4, hs4⟩ : ∃ s, s = radd s3 (encNum near.length) := ⟨_, rfl⟩
 rw [← hs4] at L4 ⊢
 have E4 := qH hs4
 unfold retSE
 clear hs4 q4 S3 X3 L3
 have y0 : w4.cell? ⟨w.heap.size, 0, none⟩ = some (.int .i64 n) := X4.out.cell 0
 have y1 : w4.cell? ⟨w.heap.size, 1, none⟩ = some (.int .i64 pos) := X4.out.cell 1
 have y3 : w4.cell? ⟨w.heap.size, 3, none⟩ = some (.slice A1 near.length c1) := X4.out.cell 3
 have y4 : w4.cell? ⟨w.heap.size, 4, none⟩ = some (.slice A2 paths.length c2) := X4.out.cell 4
 clear y0 y1
 go_wp2
 go_loopw [5, 6, 7] (fun a b i wr => ∃ (k : Nat) (st : List UInt8 × Int), k ≤ near.length ∧ i = .int .i64 k ∧ a = .string (bs st.1) ∧ b = .int .i64 st.2 ∧ Hid (st = (nearItems (near.take k)).foldl radd s4 ∧ st.1.length ≤ 32 + k * 131088) ∧ Hid (Since w4 wr)) (fun _ _ i _ => near.length - (intOf i).toNat)
 case atStart => exact ⟨0, s4, Nat.zero_le _, rfl, rfl, rfl, qH ⟨rfl, by have := L4.out; omega⟩, qH (Since.refl w4)⟩
 case round =>
  obtain ⟨k, st, hk, rfl, rfl, rfl, HI, HW⟩ := hrel
  have x3 := HW.out.cell y3
  have x4 := HW.out.cell y4
  have HSW := qH (show Since w wr from since_of (step_below S4.out.below HW.out.below))
  by_cases hlt : k < near.length
  ·exact absurd hlt (by rw [HNO.out]; simp)
  ·obtain rfl : k = near.length := by omega
   have HI2 := qH (show st = (nearItems near).foldl radd s4 by have := HI.out.1; rwa [List.take_length] at this)
   have LI2 := HI.out.2
   have hz := HZ.out.1
   have LI := qH (show st.1.length ≤ 600000 by omega)
   clear HI LI2 hz
   go_wp2_with fail
   refine (HN.out st paths.length _ HSW.out (by have := LI.out; omega)).mono ?_
   rintro e w5 ⟨rfl, q5⟩
   have HW5 := qH (show Since w w5 from since_of (step_below HSW.out.below q5.below))
   have v4 := q5.cell x4
   have L5 := qH (show (radd st (encNum paths.length)).1.length ≤ 700000 by have h1 := radd_len st (encNum paths.length); have h2 := encNum_len paths.length; have := LI.out; omega)
   have NRM := qH (radd_norm (s := st) (p := encNum paths.length))
   obtain ⟨s5, hs5⟩ : ∃ s, s = radd st (encNum paths.length) := ⟨_, rfl⟩
   rw [← hs5] at L5 NRM ⊢
   have HF5 := qH (show fin9 = (pathItems paths).foldl radd s5 by rw [HF.out, hs5, HI2.out, E4.out, E3.out, E2.out, E1.out, E0.out])
   unfold retSE
   clear hs5 q5 x3 x4 y3 y4 HW HSW HF HI2 E0 E1 E2 E3 E4 LI HC
   rename World => w5
   go_wp2
   go_loopw [5, 6, 8, 9, 10] (fun a b i _ _ wr => ∃ (k : Nat) (su : List UInt8 × Int), k ≤ paths.length ∧ i = .int .i64 k ∧ a = .string (bs su.1) ∧ b = .int .i64 su.2 ∧ Hid (su = (pathItems (paths.take k)).foldl kadd s5 ∧ su.1.length ≤ 700000 + k * 17000000) ∧ Hid (Since w5 wr)) (fun _ _ i _ _ _ => paths.length - (intOf i).toNat)
   case atStart => exact ⟨0, s5, Nat.zero_le _, rfl, rfl, rfl, qH ⟨rfl, by have := L5.out; omega⟩, qH (Since.refl w5)⟩
   case round =>
    obtain ⟨k, su, hk, rfl, rfl, rfl, HJ, HV⟩ := hrel
    have u4 := HV.out.cell v4
    have HSV := qH (show Since w wr from since_of (step_below HW5.out.below HV.out.below))
    have hf5 : fin s5 = s5 := by
     unfold fin
     by_cases h : s5.2 = 0
     ·rw [if_neg (by simp [h])]
     ·rw [if_pos h, ← NRM.out h]
    by_cases hlt : k < paths.length
    ·have hsplit : fin9 = ((pathItems paths).drop k).foldl radd (fin su) := by
      have e : pathItems paths = pathItems (paths.take k) ++ (pathItems paths).drop k := by
       conv => lhs; rw [← List.take_append_drop k (pathItems paths)]
       congr 1
       simp [pathItems, List.map_take]
      rw [HF5.out, HJ.out.1, fin_fold, hf5, ← List.foldl_append, ← e]
     have HSP := qH hsplit
     clear hsplit hf5
     by_cases he : su.2 = 0
     ·obtain ⟨g2, o2, u, rfl, d3, J⟩ := HQ.out k _ (List.getElem?_eq_getElem hlt)
      have z3 := HSV.out.cell d3
      have HJN := qH (J _ HSV.out)
      have i0 : (0 : Int) ≤ (k : Int) := by omega
      have i1 : (k : Int) < (paths.length : Int) := by omega
      have hb : (su.2 != 0) = false := by rw [he]; rfl
      have LJ := encJoin_len (bss paths[k])
      have HE := qH (pathItems_at hlt)
      have hz := HZ.out.2
      obtain ⟨⟨t1, f1⟩, ht⟩ : ∃ t, t = encJoin (bss paths[k]) := ⟨_, rfl⟩
      rw [← ht] at HJN HE LJ
      have a1 : ∀ W, (Op.stringOp .add (bs su.1) (bs t1)).run qP W = .ok (.string (bs (su.1 ++ t1))) W := fun W => run_add W su.1 t1 (by have := HJ.out.2; simp only at LJ; omega)
      have HK := qH (show kadd su (t1, f1) = (su.1 ++ t1, f1) by unfold kadd; rw [if_neg (by simp [he])])
      have L7 := qH (show (su.1 ++ t1).length ≤ 700000 + (k + 1) * 17000000 by rw [List.length_append]; have := HJ.out.2; simp only at LJ; omega)
      have E7 := qH (show (su.1 ++ t1, f1) = (pathItems (paths.take (k + 1))).foldl kadd s5 by rw [HE.out, List.foldl_append, ← HJ.out.1, List.foldl_cons, List.foldl_nil, HK.out])
      clear d3 J ht LJ HE HK HSP HJ
      obtain ⟨r1, r2⟩ := su
      simp only at he hb a1 L7 E7
      subst he
      go_wp2_with fail
      refine HJN.out.mono ?_
      rintro e w6 ⟨rfl, q6⟩
      have HV6 := qH (show Since w5 w6 from since_of (step_below HV.out.below q6.below))
      unfold retSE
      clear q6 HJN z3 u4 HV HSV
      go_wp2
      go_roundw
      case rel => exact ⟨k + 1, (r1 ++ t1, f1), by omega, by go_num, rfl, rfl, qH ⟨E7.out, L7.out⟩, HV6⟩
      case measure => simp [intOf]; omega
     ·have hb : (su.2 != 0) = true := by rw [bne_iff_ne]; exact he
      have i1 : (k : Int) < (paths.length : Int) := by omega
      have HR := qH (show fin9 = ([], su.2) by
       rw [HSP.out]
       unfold fin
       rw [if_pos he]
       exact fold_bad _ he)
      clear he HSP HJ
      go_wp2
      go_ret2
      exact ⟨by rw [HR.out]; rfl, HSV.out⟩
    ·obtain rfl : k = paths.length := by omega
     have HR := qH (show fin9 = fin su by
      have h1 := HJ.out.1
      rw [List.take_length] at h1
      rw [HF5.out, h1, fin_fold, hf5])
     have i1 : ¬ (paths.length : Int) < (paths.length : Int) := by omega
     clear hf5 HJ
     by_cases he : su.2 = 0
     ·have hb : (su.2 != 0) = false := by rw [he]; rfl
      have HR2 := qH (show fin9 = (su.1, 0) by rw [HR.out]; unfold fin; rw [if_neg (by simp [he]), ← he])
      clear HR
      go_wp2
      go_ret2
      exact ⟨by rw [HR2.out]; rfl, HSV.out⟩
     ·have hb : (su.2 != 0) = true := by rw [bne_iff_ne]; exact he
      have HR2 := qH (show fin9 = ([], su.2) by rw [HR.out]; unfold fin; rw [if_pos he])
      clear HR he
      go_wp2
      go_ret2
      exact ⟨by rw [HR2.out]; rfl, HSV.out⟩
theorem rPutC (x : Pf) (v : Value) (w : World) (hP : Prf w v x) (hl1 : x.near.length ≤ 4) (hl2 : x.paths.length ≤ 4) (hq : ∀ q ∈ x.paths, q.length ≤ 1000000) :
  Calls qP 56 #[v] w fun e w' => e = .returned (retSE (encPf x)) ∧ Since w w' := by
 obtain ⟨n, pos, there, near, paths⟩ := x
 obtain ⟨nv, pv, rfl, ⟨A1, c1, rfl, _, hc1⟩, ⟨A2, c2, rfl, _, hc⟩⟩ := hP
 simp only at hl1 hl2 hq hc hc1 ⊢
 have hj : ∀ (k : Nat) q, paths[k]? = some q → ∃ b off u, A2 = some ⟨b, off, none⟩ ∧ w.cell? ⟨b, off + k, none⟩ = some u ∧ ∀ W, Since w W → Calls qP 103 #[u] W fun e w' => e = .returned (retSE (encJoin (bss q))) ∧ Since W w' := fun k q hk => by
  obtain ⟨b, off, u, rfl, d, hT, _⟩ := hc k q hk
  exact ⟨b, off, u, rfl, d, fun W hW => (rJoin u (bss q) W ((hT.below hW.below).more hW.2.2.2.1) (by rw [bss_len]; have := hq q (List.mem_of_getElem? hk); omega)).mono fun e w' ⟨he, hb⟩ => ⟨he, since_of hb⟩⟩
 have HN : Hid (∀ (st : List UInt8 × Int) (x : Int) W, Since w W → st.1.length ≤ 1000000000 → Calls qP 101 #[.string (bs st.1), .int .i64 st.2, .int .i64 x] W fun e w' => e = .returned (retSE (radd st (encNum x))) ∧ Since W w') := qH fun st x W _ hs => raddNum st x W hs
 have HT : Hid (∀ (st : List UInt8 × Int) (x : ByteArray) W, Since w W → st.1.length ≤ 1000000000 → Calls qP 102 #[.string (bs st.1), .int .i64 st.2, .string x] W fun e w' => e = .returned (retSE (radd st (encText x))) ∧ Since W w') := qH fun st x W _ hs => raddText st x W hs
 by_cases h : there = true ∧ near ≠ []
 ·obtain ⟨rfl, hne⟩ := h
  have e : encPf ⟨n, pos, true, near, paths⟩ = ([], 6) := by unfold encPf; rw [if_pos ⟨rfl, hne⟩]
  rw [e]
  exact rPutNo n pos A1 A2 _ c1 _ c2 w (List.length_pos_iff.2 hne)
 ·rw [put_of h]
  cases there with
  | false =>
   rw [ritems_fold n pos false near paths 0 rfl]
   exact rPut_false n pos A1 c1 A2 c2 near paths w hl1 hl2 hc1 hj HN HT
  | true =>
   rw [ritems_fold n pos true near paths 1 rfl]
   have h0 : near = [] := by
    by_cases h1 : near = []
    ·exact h1
    ·exact absurd ⟨rfl, h1⟩ h
   exact rPut_true n pos A1 c1 A2 c2 near paths w h0 hl1 hl2 hc1 hj HN
def rawOf (key : ByteArray) (h : Hdr) : ByteArray := bs (encHd (signOf key h).1).1
end Go.Proofs.YtkejaepmoabikaaGreatDoor.W
namespace Go.Proofs.YtkejaepmoabikaaGreatDoor.W
def cOther : ByteArray := ⟨#[111, 116, 104, 101, 114]⟩
def cK : ByteArray := ⟨#[107]⟩
def cId : ByteArray := ⟨#[99, 108, 105, 101, 110, 116, 45, 48]⟩
def store0 : List KV := lset (lset [] kNext (bs (encNum 1).1)) (kClt cId) (bs (cltTx ⟨cOther, cK, 0, false⟩))
theorem new_first : cNew [] cOther cK = ((store0, cId), 0) := by
 have hc : cCount [] = 0 := rd_cnt_none
 unfold cNew
 rw [if_neg (by decide +kernel), if_neg (by decide), hc]
 rw [show (((0 : Nat) : Int) + 1) = 1 by rfl, show bs (mkS 3 ((0 : Nat) : Int)) = cId by decide +kernel]
 rfl
section
variable {L : List KV} {id : ByteArray} {c : Clt}
theorem get_put (h1 : c.chain.size ≤ 65536) (h2 : c.key.size ≤ 65536) (h3 : 0 ≤ c.height) (h4 : c.height ≤ 9007199254740992) : cGet (lset L (kClt id) (bs (cltTx c))) id = (c, 0) := by
 unfold cGet
 rw [lget_lset, if_pos rfl, Option.bind_some, rd_clt h1 h2 h3 h4]
theorem raw_read {key : ByteArray} {h : Hdr} (hb : (bodyOf h).2 = 0) : ∃ M, rdHd (rawOf key h) = (⟨h.chain, h.height, h.time, h.root, M⟩, 0) ∧ goodOf key ⟨h.chain, h.height, h.time, h.root, M⟩ = true := by
 obtain ⟨_, g2, g3, _⟩ := sign_good key h hb
 have hs : signOf key h = (⟨h.chain, h.height, h.time, h.root, bs (macOf key.data.toList (bodyOf h).1)⟩, 0) := by unfold signOf; rw [if_neg (by simp [hb])]
 rw [hs] at g2 g3
 refine ⟨_, ?_, g2⟩
 have hbk := rd_hd _ g3 []
 rw [List.append_nil, if_pos rfl] at hbk
 unfold rawOf
 rw [hs]
 exact hbk
theorem head_ok {h : Hdr} (hf : c.frozen = false) (hb : (bodyOf h).2 = 0) (hc : h.chain = c.chain) (h1 : 1 ≤ h.height) (h2 : h.height ≤ 1099511627776) : ∃ M, cHead c (rawOf c.key h) = (⟨h.chain, h.height, h.time, h.root, M⟩, 0) := by
 obtain ⟨M, hr, hg⟩ := raw_read (key := c.key) hb
 refine ⟨M, ?_⟩
 unfold cHead
 rw [if_neg (by simp [hf]), hr]
 simp only
 rw [if_neg (by simp), if_neg (by rw [hg]; simp [hc]), if_neg (by omega)]
theorem upd_new {h : Hdr} (hg : cGet L id = (c, 0)) (hf : c.frozen = false) (hb : (bodyOf h).2 = 0) (hc : h.chain = c.chain) (h1 : 1 ≤ h.height) (h2 : h.height ≤ 1099511627776) (hs : (cSee L id h.height).2 ≠ 0) :
  cUpd L id (rawOf c.key h) = (lset (lset L (kSeen id h.height) (bs (snTx h.time h.root))) (kClt id) (bs (cltTx ⟨c.chain, c.key, max c.height h.height, c.frozen⟩)), 0) := by
 obtain ⟨M, hh⟩ := head_ok hf hb hc h1 h2
 unfold cUpd
 rw [hg]
 simp only
 rw [if_neg (by simp), hh]
 simp only
 rw [if_neg (by simp)]
 unfold cTake
 simp only
 rw [if_neg hs]
theorem upd_frz {h : Hdr} (hg : cGet L id = (c, 0)) (hf : c.frozen = false) (hb : (bodyOf h).2 = 0) (hc : h.chain = c.chain) (h1 : 1 ≤ h.height) (h2 : h.height ≤ 1099511627776) (hs : (cSee L id h.height).2 = 0) (hn : (cSee L id h.height).1.time ≠ h.time) :
  cUpd L id (rawOf c.key h) = (lset L (kClt id) (bs (cltTx ⟨c.chain, c.key, c.height, true⟩)), 0) := by
 obtain ⟨M, hh⟩ := head_ok hf hb hc h1 h2
 unfold cUpd
 rw [hg]
 simp only
 rw [if_neg (by simp), hh]
 simp only
 rw [if_neg (by simp)]
 unfold cTake
 simp only
 rw [if_pos hs, if_neg (fun x => hn x.1)]
theorem open_frozen (hg : cGet L id = (c, 0)) (hf : c.frozen = true) (h : Int) (pr : ByteArray) : (cOpen L id h pr).2 = 12 := by
 unfold cOpen
 rw [hg]
 simp only
 rw [if_neg (by simp), if_pos hf]
theorem has_frozen (hg : cGet L id = (c, 0)) (hf : c.frozen = true) (h : Int) (pr : ByteArray) (p : KV) : cHas L id h pr p = 12 := by
 unfold cHas
 rw [open_frozen hg hf, if_pos (by decide)]
theorem lacks_frozen (hg : cGet L id = (c, 0)) (hf : c.frozen = true) (h : Int) (pr key : ByteArray) : cLacks L id h pr key = 12 := by
 unfold cLacks
 rw [open_frozen hg hf, if_pos (by decide)]
theorem see_put {h : Int} {t : Int} {r : ByteArray} (hg : cGet L id = (c, 0)) (h1 : 1 ≤ h) (h2 : h ≤ 1099511627776) (hl : lget L (kSeen id h) = some (bs (snTx t r))) (h3 : 0 ≤ t) (h4 : t ≤ 9007199254740992) (h5 : r.size ≤ 65536) : cSee L id h = (⟨t, r⟩, 0) := by
 unfold cSee
 rw [hg]
 simp only
 rw [if_neg (by simp), if_neg (by omega), hl, Option.bind_some, rd_sn h3 h4 h5]
theorem see_not {h : Int} (hg : cGet L id = (c, 0)) (hl : lget L (kSeen id h) = none) : (cSee L id h).2 = 13 := by
 unfold cSee
 rw [hg]
 simp only
 rw [if_neg (by simp)]
 split
 ·rfl
 ·rw [hl]; rfl
end
theorem get_0 : cGet store0 cId = (⟨cOther, cK, 0, false⟩, 0) := get_put (by decide) (by decide) (by decide) (by decide)
theorem see_0 (h : Int) : (cSee store0 cId h).2 = 13 := by
 refine see_not get_0 ?_
 unfold store0
 rw [lget_lset, if_neg (fun e => kClt_seen _ _ _ e.symm), lget_lset, if_neg (kSeen_next _ _)]
 rfl
def store1 (t : Int) (r : ByteArray) : List KV := lset (lset store0 (kSeen cId 1) (bs (snTx t r))) (kClt cId) (bs (cltTx ⟨cOther, cK, 1, false⟩))
def hdAt (n t : Int) (r : ByteArray) : Hdr := ⟨cOther, n, t, r, ⟨#[]⟩⟩
theorem body_at {n t : Int} {r : ByteArray} (h1 : 0 ≤ n) (h2 : n ≤ 9007199254740992) (h3 : 0 ≤ t) (h4 : t ≤ 9007199254740992) (h5 : r.size ≤ 65536) : (bodyOf (hdAt n t r)).2 = 0 := by
 have e1 : (encText cOther).2 = 0 := by unfold encText; rw [if_pos (by decide)]
 have e2 : (encNum n).2 = 0 := by unfold encNum; rw [if_pos ⟨h1, h2⟩]
 have e3 : (encNum t).2 = 0 := by unfold encNum; rw [if_pos ⟨h3, h4⟩]
 have e4 : (encText r).2 = 0 := by unfold encText; rw [if_pos h5]
 unfold bodyOf hdAt
 simp only [radd, e1, e2, e3, e4, ne_eq, not_true_eq_false, if_false]
theorem upd_0 {t : Int} {r : ByteArray} (h3 : 0 ≤ t) (h4 : t ≤ 9007199254740992) (h5 : r.size ≤ 65536) : cUpd store0 cId (rawOf cK (hdAt 1 t r)) = (store1 t r, 0) :=
 upd_new (c := ⟨cOther, cK, 0, false⟩) (h := hdAt 1 t r) get_0 rfl (body_at (by decide) (by decide) h3 h4 h5) rfl (show (1 : Int) ≤ 1 by decide) (show (1 : Int) ≤ 1099511627776 by decide) (by rw [show (hdAt 1 t r).height = 1 from rfl, see_0]; decide)
theorem get_1 (t : Int) (r : ByteArray) : cGet (store1 t r) cId = (⟨cOther, cK, 1, false⟩, 0) := get_put (by decide) (by decide) (by decide) (by decide)
theorem see_1 {t : Int} {r : ByteArray} (h3 : 0 ≤ t) (h4 : t ≤ 9007199254740992) (h5 : r.size ≤ 65536) : cSee (store1 t r) cId 1 = (⟨t, r⟩, 0) := by
 refine see_put (get_1 t r) (by decide) (by decide) ?_ h3 h4 h5
 unfold store1
 rw [lget_lset, if_neg (fun e => kClt_seen _ _ _ e.symm), lget_lset, if_pos rfl]
def store2 (t : Int) (r : ByteArray) : List KV := lset (store1 t r) (kClt cId) (bs (cltTx ⟨cOther, cK, 1, true⟩))
theorem upd_1 {t u : Int} {r q : ByteArray} (h3 : 0 ≤ t) (h4 : t ≤ 9007199254740992) (h5 : r.size ≤ 65536) (hu : 0 ≤ u) (hu2 : u ≤ 9007199254740992) (hq : q.size ≤ 65536) (hn : t ≠ u) : cUpd (store1 t r) cId (rawOf cK (hdAt 1 u q)) = (store2 t r, 0) :=
 upd_frz (c := ⟨cOther, cK, 1, false⟩) (h := hdAt 1 u q) (get_1 t r) rfl (body_at (by decide) (by decide) hu hu2 hq) rfl (show (1 : Int) ≤ 1 by decide) (show (1 : Int) ≤ 1099511627776 by decide) (by rw [show (hdAt 1 u q).height = 1 from rfl, see_1 h3 h4 h5]) (by rw [show (hdAt 1 u q).height = 1 from rfl, see_1 h3 h4 h5]; exact hn)
theorem get_2 (t : Int) (r : ByteArray) : cGet (store2 t r) cId = (⟨cOther, cK, 1, true⟩, 0) := get_put (by decide) (by decide) (by decide) (by decide)
theorem see_2 {t : Int} {r : ByteArray} (h3 : 0 ≤ t) (h4 : t ≤ 9007199254740992) (h5 : r.size ≤ 65536) : cSee (store2 t r) cId 1 = (⟨t, r⟩, 0) := by
 refine see_put (get_2 t r) (by decide) (by decide) ?_ h3 h4 h5
 unfold store2 store1
 rw [lget_lset, if_neg (fun e => kClt_seen _ _ _ e.symm), lget_lset, if_neg (fun e => kClt_seen _ _ _ e.symm), lget_lset, if_pos rfl]
theorem lset_same {L : List KV} {k v : ByteArray} (hu : Up L) (h : lget L k = some v) : lset L k v = L := by
 unfold lget at h
 cases hf : L.find? (fun x => decide (x.1 = k)) with
 | none => rw [hf] at h; simp at h
 | some x =>
  rw [hf] at h
  obtain ⟨hx, A, B, rfl, _⟩ := List.find?_eq_some_iff_append.1 hf
  have h1 : x.1 = k := by simpa using hx
  have h2 : x.2 = v := by simpa using h
  rw [lset_here hu (by rw [h1, kc_self]), ← h1, ← h2]
theorem rd_clt_inv {v : ByteArray} {c : Clt} (h : rdClt v = some c) : v = bs (cltTx c) ∧ c.chain.size ≤ 65536 ∧ c.key.size ≤ 65536 ∧ 0 ≤ c.height ∧ c.height ≤ 9007199254740992 := by
 unfold rdClt at h
 simp only at h
 generalize ha : stText v 0 = a at h
 generalize hb : stText a.1.1 a.1.2 = b at h
 generalize hc : stNum b.1.1 b.1.2 = d at h
 generalize hd : stNum d.1.1 d.1.2 = f at h
 split at h
 ·cases h
 ·rename_i hn
  have hn0 : stDone f.1.1 f.1.2 = 0 := Classical.not_not.1 fun e => hn (.inl e)
  have hf1 : ¬ 1 < f.2 := fun e => hn (.inr e)
  have e4 : f.1.2 = 0 := Classical.not_not.1 fun e => by unfold stDone at hn0; rw [if_pos e] at hn0; exact e hn0
  rw [e4] at hn0
  have z4 := stDone_zero _ hn0
  have e3 : d.1.2 = 0 := Classical.not_not.1 fun e => by rw [stNum_err _ e] at hd; rw [← hd] at e4; exact e e4
  have e2 : b.1.2 = 0 := Classical.not_not.1 fun e => by rw [stNum_err _ e] at hc; rw [← hc] at e3; exact e e3
  have e1 : a.1.2 = 0 := Classical.not_not.1 fun e => by rw [stText_err _ e] at hb; rw [← hb] at e2; exact e e2
  rw [e1] at hb
  rw [e2] at hc
  rw [e3] at hd
  obtain ⟨t1, l1⟩ := text_of_st v (by rw [ha]; exact e1)
  obtain ⟨t2, l2⟩ := text_of_st a.1.1 (by rw [hb]; exact e2)
  obtain ⟨t3, l3⟩ := num_of_st b.1.1 (by rw [hc]; exact e3)
  obtain ⟨t4, l4⟩ := num_of_st d.1.1 (by rw [hd]; exact e4)
  rw [ha] at t1 l1
  rw [hb] at t2 l2
  rw [hc] at t3 l3
  rw [hd, z4] at t4
  cases h
  refine ⟨?_, l1, l2, Int.natCast_nonneg _, by simp only; omega⟩
  rw [← bs_of v, t1, t2, t3, t4]
  unfold cltTx
  rw [encTextOk l1, encTextOk l2, encNumOk (Int.natCast_nonneg _) (by omega), encNumOk (by unfold fz; split <;> omega) (by unfold fz; split <;> omega)]
  have h5 : (fz (decide (f.2 = 1))).toNat = f.2 := by
   unfold fz
   by_cases h6 : f.2 = 1
   ·simp [h6]
   ·have : f.2 = 0 := by omega
    simp [this]
  rw [h5]
  simp [bs_data]
theorem get_some {L : List KV} {id : ByteArray} (h : (cGet L id).2 = 0) : lget L (kClt id) = some (bs (cltTx (cGet L id).1)) ∧ (cGet L id).1.chain.size ≤ 65536 ∧ (cGet L id).1.key.size ≤ 65536 ∧ 0 ≤ (cGet L id).1.height ∧ (cGet L id).1.height ≤ 9007199254740992 := by
 unfold cGet at *
 cases hl : lget L (kClt id) with
 | none => rw [hl] at h; simp at h
 | some v =>
  cases hr : rdClt v with
  | none => rw [hl] at h; simp [hr] at h
  | some c =>
   simp only [Option.bind_some, hr]
   obtain ⟨h1, h2⟩ := rd_clt_inv hr
   exact ⟨by rw [h1], h2⟩
theorem take_low {L : List KV} {id : ByteArray} (hu : Up L) (hg : (cGet L id).2 = 0) {h : Int} {v : ByteArray} (hh : h ≤ (cGet L id).1.height) :
  lset (lset L (kSeen id h) v) (kClt id) (bs (cltTx ⟨(cGet L id).1.chain, (cGet L id).1.key, max (cGet L id).1.height h, (cGet L id).1.frozen⟩)) = lset L (kSeen id h) v := by
 rw [show max (cGet L id).1.height h = (cGet L id).1.height by omega]
 refine lset_same (lset_up hu) ?_
 rw [lget_lset, if_neg (kClt_seen _ _ _)]
 exact (get_some hg).1
theorem enc_text_size (s : ByteArray) : (encText s).1.length ≤ s.size + 8 := by
 unfold encText
 split
 ·rename_i h
  have := be_len_le s.data.toList.length 7 (by rw [size_list]; omega)
  show (num s.data.toList.length ++ s.data.toList).length ≤ s.size + 8
  rw [List.length_append, num_len, size_list] at *
  omega
 ·exact Nat.zero_le _
theorem clt_size (c : Clt) : (bs (cltTx c)).size ≤ c.chain.size + c.key.size + 32 := by
 have h1 := enc_text_size c.chain
 have h2 := enc_text_size c.key
 have h3 := encNum_len c.height
 have h4 := encNum_len (fz c.frozen)
 rw [bs_size]
 unfold cltTx
 simp only [List.length_append]
 omega
theorem sn_size (t : Int) (r : ByteArray) : (bs (snTx t r)).size ≤ r.size + 16 := by
 have h1 := enc_text_size r
 have h3 := encNum_len t
 rw [bs_size]
 unfold snTx
 simp only [List.length_append]
 omega
theorem kClt_size (id : ByteArray) : (kClt id).size ≤ 2 * id.size + 14 := by
 unfold kClt
 rw [bs_size]
 have h := pkOf_len wClt [id]
 have hw : wClt.size = 6 := rfl
 have : tot wClt [id] = id.size + 7 := by simp only [tot, List.map_cons, List.map_nil, List.sum_cons, List.sum_nil, List.length_cons, List.length_nil, hw]; omega
 omega
theorem kSeen_size (id : ByteArray) (n : Int) : (kSeen id n).size ≤ 2 * id.size + 40 := by
 unfold kSeen
 rw [bs_size]
 have h := pkOf_len wSeen [id, nTx n]
 have h2 := nTx_len n
 have hw : wSeen.size = 4 := rfl
 have : tot wSeen [id, nTx n] = id.size + (nTx n).size + 6 := by simp only [tot, List.map_cons, List.map_nil, List.sum_cons, List.sum_nil, List.length_cons, List.length_nil, hw]; omega
 omega
theorem kNext_size : kNext.size ≤ 100 := by decide +kernel
theorem stText_val (s : ByteArray) (e : Int) : (stText s e).2.size ≤ s.size := by
 have h := stLen_facts s e 65536
 unfold stText
 simp only
 split
 ·exact Nat.zero_le _
 ·split
  ·exact Nat.zero_le _
  ·simp only [← size_list, ex_list, List.length_take, List.length_drop]
   rw [size_list, size_list]
   omega
theorem rdHd_size (s : ByteArray) : (rdHd s).1.root.size ≤ s.size ∧ (rdHd s).1.root.size ≤ 65536 ∧ 0 ≤ (rdHd s).1.time ∧ (rdHd s).1.time ≤ 9007199254740992 := by
 unfold rdHd
 simp only
 split
 ·exact ⟨Nat.zero_le _, Nat.zero_le _, Int.le_refl _, show (0 : Int) ≤ 9007199254740992 by decide⟩
 ·have z1 := (stText_facts s 0).1
  have z2 := (stNum_facts (stText s 0).1.1 (stText s 0).1.2).2.1
  have z3 := stNum_facts (stNum (stText s 0).1.1 (stText s 0).1.2).1.1 (stNum (stText s 0).1.1 (stText s 0).1.2).1.2
  have z4 := stText_val (stNum (stNum (stText s 0).1.1 (stText s 0).1.2).1.1 (stNum (stText s 0).1.1 (stText s 0).1.2).1.2).1.1 (stNum (stNum (stText s 0).1.1 (stText s 0).1.2).1.1 (stNum (stText s 0).1.1 (stText s 0).1.2).1.2).1.2
  have z5 := (stText_facts (stNum (stNum (stText s 0).1.1 (stText s 0).1.2).1.1 (stNum (stText s 0).1.1 (stText s 0).1.2).1.2).1.1 (stNum (stNum (stText s 0).1.1 (stText s 0).1.2).1.1 (stNum (stText s 0).1.1 (stText s 0).1.2).1.2).1.2).2
  refine ⟨by simp only; omega, z5, Int.natCast_nonneg _, by have := z3.1; simp only; omega⟩
theorem hd_size (h : Hdr) : (encHd h).1.length ≤ h.chain.size + h.root.size + h.mac.size + 48 := by
 unfold encHd bodyOf
 have b1 := enc_text_size h.chain
 have b2 := encNum_len h.height
 have b3 := encNum_len h.time
 have b4 := enc_text_size h.root
 have b5 := enc_text_size h.mac
 have a1 := radd_len ([], 0) (encText h.chain)
 have a2 := radd_len (radd ([], 0) (encText h.chain)) (encNum h.height)
 have a3 := radd_len (radd (radd ([], 0) (encText h.chain)) (encNum h.height)) (encNum h.time)
 have a4 := radd_len (radd (radd (radd ([], 0) (encText h.chain)) (encNum h.height)) (encNum h.time)) (encText h.root)
 have a5 := radd_len (radd (radd (radd (radd ([], 0) (encText h.chain)) (encNum h.height)) (encNum h.time)) (encText h.root)) (encText h.mac)
 simp only [List.length_nil] at a1
 omega
theorem raw_size {key : ByteArray} {h : Hdr} (hc : h.chain.size ≤ 1000) (hr : h.root.size ≤ 1000) : (rawOf key h).size ≤ 3000 := by
 unfold rawOf signOf
 rw [bs_size]
 split
 ·have := hd_size Hdr.zero
  show (encHd Hdr.zero).1.length ≤ 3000
  have e1 : Hdr.zero.chain.size = 0 := rfl
  have e2 : Hdr.zero.root.size = 0 := rfl
  have e3 : Hdr.zero.mac.size = 0 := rfl
  omega
 ·have := hd_size ⟨h.chain, h.height, h.time, h.root, bs (macOf key.data.toList (bodyOf h).1)⟩
  have e3 : (bs (macOf key.data.toList (bodyOf h).1)).size = 32 := by rw [bs_size]; exact shaOf_len _
  simp only at *
  omega
end Go.Proofs.YtkejaepmoabikaaGreatDoor.W
namespace Go.Proofs.YtkejaepmoabikaaGreatDoor.W
open Go.RowKit
open Lib renaming hid → qH
open _root_.Go.Proofs.Tryz renaming prog → qP
structure Fit (w : World) : Prop where
 roots : Roots w
 play : PLay w
 lay : Lay w
 err : w.cell? ⟨0, 0, none⟩ = some hErr
theorem Fit.since {w W : World} (h : Fit w) (k : Since w W) : Fit W := ⟨h.roots.since k, h.play.next k.below, h.lay.next k.below, k.cell h.err⟩
theorem jm_base {V W w' : World} {S : Nat → Prop} {j m : Nat} {Lv : List (List KV)} {L : List KV} (hb : Below V.heap.size V W) (h : Jm W S j Lv L m w') : Jm V S j Lv L m w' := by
 obtain ⟨k, S', g, hj⟩ := h
 exact ⟨(KeepS.of_below S hb).step k, S', (Grows.refl S V).trans g hb.size, hj⟩
structure CFits (c : Clt) : Prop where
 chain : c.chain.size ≤ 1000
 key : c.key.size ≤ 60000
 low : 0 ≤ c.height
 high : c.height ≤ 9007199254740992
theorem CFits.size {c : Clt} (h : CFits c) : (bs (cltTx c)).size ≤ 65536 := by have := clt_size c; have := h.chain; have := h.key; omega
theorem encodeC (c : Clt) (h : CFits c) (w : World) : Calls qP 98 #[cltV c] w fun e w' => e = .returned (.tuple #[.string (bs (cltTx c)), .int .i64 0]) ∧ Since w w' := by
 have e1 : (encText c.chain).2 = 0 := by unfold encText; rw [if_pos (by have := h.chain; omega)]
 have e2 : (encText c.key).2 = 0 := by unfold encText; rw [if_pos (by have := h.key; omega)]
 have e3 : (encNum c.height).2 = 0 := by unfold encNum; rw [if_pos ⟨h.low, h.high⟩]
 have e4 : (encNum (fz c.frozen)).2 = 0 := by unfold encNum fz; split <;> (rw [if_pos (by decide)])
 have t1 := encText_len c.chain
 have t2 := encText_len c.key
 have t3 := encNum_len c.height
 have t4 := encNum_len (fz c.frozen)
 exact enc_this c.chain c.key c.height c.frozen (fz c.frozen) rfl _ _ _ _ w (by omega) (by omega) (by omega) (by omega) (qH fun W => e1 ▸ wText c.chain W) (qH fun W => e2 ▸ wText c.key W) (qH fun W => e3 ▸ wNum c.height W) (qH fun W => e4 ▸ wNum (fz c.frozen) W) (qH fun W g hB => or4 _ 0 0 0 0 W g hB)
section
variable {V w : World} {S : Nat → Prop} {j m : Nat} {L : List KV}
theorem clSto (hJ : Jr V S j [] L m) (hV : Since V w) (hL : PLay V) (id : ByteArray) (hid : id.size ≤ 1000) (c : Clt) (hc : CFits c) (v : Value) (P : List KV) (own : w.ownsRow V.heap.size 36 2 v P.length (prVals P)) (hn : P.length ≤ 5) (hz : ∀ p ∈ P, p.1.size ≤ 65536 ∧ p.2.size ≤ 65536) (hm : m + 100 ≤ 1000000000) :
  Calls qP 52 #[.pointer (some ⟨j, 0, none⟩), .string id, cltV c, v] w fun e w' => e = .returned (.int .i64 0) ∧ Jm V S j [] (lset (setAll L P) (kClt id) (bs (cltTx c))) (m + 14) w' ∧ ∀ g, g < w.heap.size → ¬ S g → v.ownBlock ≠ some g → w'.heap[g]? = w.heap[g]? := by
 refine store_this V S j id (kClt id) (bs (cltTx c)) c.chain c.key c.height c.frozen v P _ w hV own hn (qH fun W _ => encodeC c hc W) (qH fun W hW => clientKeyC id (by omega) W (hL.next (since_two hV hW).below)) (qH fun W A cap hW hp hg => ?_)
 have hl : (P ++ [(kClt id, bs (cltTx c))]).length = P.length + 1 := by simp
 have hJ2 := hJ.below hW
 have hp2 : Prs W (.slice A (P ++ [(kClt id, bs (cltTx c))]).length cap) (P ++ [(kClt id, bs (cltTx c))]) := by rw [hl]; exact hp
 have hS : ∀ g, (Value.slice A (P ++ [(kClt id, bs (cltTx c))]).length cap).ownBlock = some g → g < W.heap.size ∧ ¬ S g := fun g e => by
  rw [hl] at e
  exact ⟨(hg g e).2, fun hs => by have := hJ.bound g hs; have := (hg g e).1; omega⟩
 have k := clSet hJ2 hp2 hS (fun p hp => by
  rcases List.mem_append.1 hp with hp | hp
  ·exact hz p hp
  ·obtain rfl := List.mem_singleton.1 hp
   exact ⟨by have := kClt_size id; show (kClt id).size ≤ 65536; omega, hc.size⟩) hm (by rw [hl]; omega)
 rw [hl] at k
 refine k.mono fun e w' ⟨he, h⟩ => ⟨he, ?_, h.1⟩
 have e2 : setAll L (P ++ [(kClt id, bs (cltTx c))]) = lset (setAll L P) (kClt id) (bs (cltTx c)) := by unfold setAll; rw [List.foldl_append]; rfl
 rw [e2] at h
 exact jm_base hW (h.mono (by omega))
theorem own_pair (W : World) {B : Nat} (b : Nat) (hb : B ≤ b) (x : KV) (h : Blk W b 36 #[.string x.1, .string x.2]) : W.ownsRow B 36 2 (.slice (some ⟨b, 0, none⟩) 1 1) [x].length (prVals [x]) :=
 ⟨by simp [prVals], .inr ⟨b, 1, #[.string x.1, .string x.2], rfl, hb, h, by simp, by unfold maxLen; omega, by simp, by simp [prVals]⟩⟩
def cAcc (L : List KV) (id : ByteArray) (c : Clt) (h : Hdr) : List KV := lset (lset L (kSeen id h.height) (bs (snTx h.time h.root))) (kClt id) (bs (cltTx ⟨c.chain, c.key, max c.height h.height, c.frozen⟩))
theorem clAcc (hJ : Jr V S j [] L m) (hV : Since V w) (hL : PLay V) (id : ByteArray) (hid : id.size ≤ 1000) (hg : (cGet L id).2 = 0) (hc : CFits (cGet L id).1) (h : Hdr) (h1 : 1 ≤ h.height) (h2 : h.height ≤ 1099511627776) (h3 : 0 ≤ h.time) (h4 : h.time ≤ 9007199254740992) (h5 : h.root.size ≤ 60000) (hm : m + 100 ≤ 1000000000) :
  Calls qP 51 #[.pointer (some ⟨j, 0, none⟩), .string id, cltV (cGet L id).1, hdV h] w fun e w' => e = .returned (.int .i64 0) ∧ Jm V S j [] (cAcc L id (cGet L id).1 h) (m + 14) w' := by
 have e1 : (encNum h.time).2 = 0 := by unfold encNum; rw [if_pos ⟨h3, h4⟩]
 have e2 : (encText h.root).2 = 0 := by unfold encText; rw [if_pos (by omega)]
 have t1 := encNum_len h.time
 have t2 := encText_len h.root
 have hk : (kSeen id h.height).size ≤ 65536 := by have := kSeen_size id h.height; omega
 have hs : (bs (snTx h.time h.root)).size ≤ 65536 := by have := sn_size h.time h.root; omega
 have hup := hJ.up
 unfold cAcc
 refine acc_this j id (kSeen id h.height) (cGet L id).1.chain (cGet L id).1.key (cGet L id).1.height (cGet L id).1.frozen h.chain h.height h.time h.root h.mac (encNum h.time).1 (encText h.root).1 _ w (by omega) (by omega) (qH fun W _ => e1 ▸ (wNum h.time W).mono fun _ _ ⟨he, hb⟩ => ⟨he, since_of hb⟩) (qH fun W _ => e2 ▸ (wText h.root W).mono fun _ _ ⟨he, hb⟩ => ⟨he, since_of hb⟩) (qH fun W g hB => or2 _ 0 0 W g hB) (qH fun W hW => seenKeyC id (by omega) h.height W (hL.next (since_two hV hW).below)) (fun hh => qH fun W b hW hb hB => ?_) (fun hh => qH fun W b hW hb hB => ?_)
 ·rw [take_low hup hg hh]
  have hVW := since_two hV hW
  have hp : Prs W (.slice (some ⟨b, 0, none⟩) [((kSeen id h.height, bs (snTx h.time h.root)) : KV)].length 1) [(kSeen id h.height, bs (snTx h.time h.root))] := Prs.of_own (own_pair W (B := 0) b (Nat.zero_le _) (kSeen id h.height, bs (snTx h.time h.root)) hB)
  have k := clSet (hJ.below hVW.below) hp (fun g e => by
   have e2 : b = g := by simpa [Value.ownBlock] using e
   rw [← e2]
   exact ⟨hB.lt, fun hs => by have h7 := hJ.bound b hs; have h8 := hV.below.size; omega⟩) (fun p hp => by obtain rfl := List.mem_singleton.1 hp; exact ⟨hk, hs⟩) hm (by simp)
  exact k.mono fun e w' ⟨he, h⟩ => ⟨he, jm_base hVW.below (h.mono (show m + 2 + 2 * 1 ≤ m + 14 by omega))⟩
 ·have hc2 : CFits ⟨(cGet L id).1.chain, (cGet L id).1.key, h.height, (cGet L id).1.frozen⟩ := ⟨hc.chain, hc.key, by simp only; omega, by simp only; omega⟩
  have hVW := since_two hV hW
  rw [show max (cGet L id).1.height h.height = h.height by omega]
  exact (clSto hJ hVW hL id hid _ hc2 _ _ (own_pair W b (Nat.le_trans hV.below.size hb) (kSeen id h.height, bs (snTx h.time h.root)) hB) (by simp) (fun p hp => by obtain rfl := List.mem_singleton.1 hp; exact ⟨hk, hs⟩) hm).mono fun e w' ⟨he, h, _⟩ => ⟨he, h⟩
theorem ck6 (l : List UInt8) : ck 6 l = if plain l then 0 else 7 := ck_plain (.inr (.inr (.inr rfl))) l
theorem clNew (hJ : Jr w S j [] L m) (hs : Sized L) (E : Fit w) (chain key : ByteArray) (hc : chain.size ≤ 1000000) (hk : key.size ≤ 60000) (hn : cCount L ≤ 1000000000) (hm : m + 100 ≤ 1000000000) :
  Calls qP 23 #[.pointer (some ⟨j, 0, none⟩), .string chain, .string key] w fun e w' => e = .returned (.tuple #[.string (cNew L chain key).1.2, .int .i64 (cNew L chain key).2]) ∧ Jm w S j [] (cNew L chain key).1.1 (m + 14) w' := by
 unfold cNew
 by_cases hp : plain chain.data.toList = true
 ·have h0 : ck 6 chain.data.toList = 0 := by rw [ck6, if_pos hp]
  have hcs : chain.size ≤ 64 := by
   unfold plain at hp
   rw [size_list] at hp
   simp only [Bool.and_eq_true, decide_eq_true_eq] at hp
   exact hp.2
  rw [if_neg (by rw [h0]; simp), if_neg (by omega)]
  have e1 : (encNum ((cCount L : Int) + 1)).2 = 0 := by unfold encNum; rw [if_pos ⟨by omega, by omega⟩]
  have e2 : (encText key).2 = 0 := by unfold encText; rw [if_pos (by omega)]
  have hmk : mkE 3 (cCount L : Int) = 0 := by unfold mkE; rw [if_neg (by decide +kernel), if_neg (by omega)]
  have hid : (bs (mkS 3 (cCount L : Int))).size ≤ 1000 := by
   rw [bs_size]
   unfold mkS
   rw [if_pos hmk, List.length_append, show (wd 3).length = 7 by decide]
   have := dcm_len (Int.toNat (cCount L : Int)) (by omega)
   omega
  have hz : (bs (encNum ((cCount L : Int) + 1)).1).size ≤ 65536 := by rw [bs_size]; have := encNum_len ((cCount L : Int) + 1); omega
  have hx := kNext_size
  refine new_this j chain key (bs (mkS 3 (cCount L : Int))) kNext (bs (encText key).1) (bs (encNum ((cCount L : Int) + 1)).1) (cCount L) hn S _ w hJ.bound
   (qH fun W hW => h0 ▸ (check 6 chain W (E.since hW).lay hc).mono fun _ _ ⟨he, hb⟩ => ⟨he, since_of hb⟩)
   (qH fun W _ => e2 ▸ (wText key W).mono fun _ _ ⟨he, hb⟩ => ⟨he, since_of hb⟩)
   (qH fun W hW => createdC (hJ.below hW.below) hs (E.since hW).play)
   (qH fun W hW => hmk ▸ (make 3 (cCount L : Int) W (E.since hW).lay).mono fun _ _ ⟨he, hb⟩ => ⟨he, since_of hb⟩)
   (qH fun W _ => e1 ▸ (wNum _ W).mono fun _ _ ⟨he, hb⟩ => ⟨he, since_of hb⟩)
   (qH fun W g hB => or2 _ 0 0 W g hB) (qH fun W hW => nextKeyC W (E.since hW).play) (qH fun W b hW hb hB => ?_)
  exact clSto hJ hW E.play _ hid ⟨chain, key, 0, false⟩ ⟨by simp only; omega, hk, Int.le_refl _, show (0 : Int) ≤ 9007199254740992 by decide⟩ _ _ (own_pair W b hb (kNext, bs (encNum ((cCount L : Int) + 1)).1) hB) (by simp) (fun p hp => by obtain rfl := List.mem_singleton.1 hp; exact ⟨by show kNext.size ≤ 65536; omega, hz⟩) hm
 ·have h0 : ck 6 chain.data.toList = 7 := by rw [ck6, if_neg hp]
  rw [if_pos (by rw [h0]; decide)]
  exact (new_e1 j chain key 7 (by decide) w (qH fun W hW => h0 ▸ (check 6 chain W (E.since hW).lay hc).mono fun _ _ ⟨he, hb⟩ => ⟨he, since_of hb⟩)).mono fun _ _ ⟨he, hb⟩ => ⟨he, (Jm.of_below hJ hb.below).mono (by omega)⟩
theorem clUpd (hJ : Jr w S j [] L m) (hs : Sized L) (E : Fit w) (id raw : ByteArray) (hid : id.size ≤ 1000) (hraw : raw.size ≤ 60000) (hc : (cGet L id).2 = 0 → CFits (cGet L id).1) (hm : m + 100 ≤ 1000000000) :
  Calls qP 16 #[.pointer (some ⟨j, 0, none⟩), .string id, .string raw] w fun e w' => e = .returned (.int .i64 (cUpd L id raw).2) ∧ Jm w S j [] (cUpd L id raw).1 (m + 14) w' := by
 have stay : ∀ {w' : World}, Since w w' → Jm w S j [] L (m + 14) w' := fun h => (Jm.of_below hJ h.below).mono (by omega)
 have A := qH (fun W (hW : Since w W) => activeC (hJ.below hW.below) hs (E.since hW).play id (by omega))
 unfold cUpd
 unfold cAct at A
 by_cases h1 : (cGet L id).2 ≠ 0
 ·rw [if_pos h1]
  rw [if_pos h1] at A
  exact (cup_e1 j id raw _ _ _ _ _ h1 w A).mono fun _ _ ⟨he, hb⟩ => ⟨he, stay hb⟩
 ·rw [if_neg h1]
  rw [if_neg h1] at A
  have h1' : (cGet L id).2 = 0 := Classical.not_not.1 h1
  have hC := hc h1'
  by_cases h2 : (cGet L id).1.frozen = true
  ·rw [if_pos h2] at A
   have hh : (cHead (cGet L id).1 raw) = (Hdr.zero, 12) := by unfold cHead; rw [if_pos h2]
   rw [hh, if_pos (by decide)]
   exact (cup_e1 j id raw _ _ _ _ _ (by decide) w A).mono fun _ _ ⟨he, hb⟩ => ⟨he, stay hb⟩
  ·rw [if_neg h2] at A
   rw [head_exam (by simpa using h2)]
   have X := qH (fun W (hW : Since w W) => examineC (cGet L id).1 raw W (E.since hW).roots (by omega) (by have := hC.key; omega))
   obtain ⟨⟨h, e⟩, hx⟩ : ∃ x, cExam (cGet L id).1 raw = x := ⟨_, rfl⟩
   have hb : e = 0 → 1 ≤ h.height ∧ h.height ≤ 1099511627776 ∧ 0 ≤ h.time ∧ h.time ≤ 9007199254740992 ∧ h.root.size ≤ 60000 := by
    intro he
    have hz := rdHd_size raw
    unfold cExam at hx
    split at hx
    ·rename_i hn
     injection hx with _ hx
     exact absurd (hx.trans he) hn
    ·split at hx
     ·injection hx with _ hx
      rw [← hx] at he
      exact absurd he (by decide)
     ·split at hx
      ·injection hx with _ hx
       rw [← hx] at he
       exact absurd he (by decide)
      ·injection hx with hx _
       rw [← hx]
       omega
   rw [hx] at X ⊢
   simp only
   unfold retXE exV at X
   simp only at X
   by_cases he : e = 0
   ·subst he
    rw [if_neg (by simp)]
    rw [if_pos rfl] at X
    obtain ⟨b1, b2, b3, b4, b5⟩ := hb rfl
    have SE := qH (fun W (hW : Since w W) => seeC (hJ.below hW.below) hs (E.since hW).play id (by omega) h.height)
    unfold cTake
    obtain ⟨⟨⟨x1, x2⟩, f⟩, hsee⟩ : ∃ x, cSee L id h.height = x := ⟨_, rfl⟩
    rw [hsee] at SE ⊢
    simp only
    by_cases hf : f = 0
    ·subst hf
     rw [if_pos rfl]
     by_cases hq : x1 = h.time ∧ x2 = h.root
     ·rw [if_pos hq]
      obtain ⟨rfl, rfl⟩ := hq
      exact (cup_same j id raw _ _ _ _ h.chain h.height h.time h.root h.mac w A X SE).mono fun _ _ ⟨he, hb⟩ => ⟨he, stay hb⟩
     ·rw [if_neg hq]
      exact cup_frz j id raw _ _ _ _ h.chain h.height h.time h.root h.mac x1 x2 hq _ w A X SE (qH fun W hW => (clSto hJ hW E.play id hid ⟨(cGet L id).1.chain, (cGet L id).1.key, (cGet L id).1.height, true⟩ ⟨hC.chain, hC.key, hC.low, hC.high⟩ (.slice none 0 0) [] (World.ownsRow_nil _ _ _ _) (by simp) (fun p hp => by cases hp) hm).mono fun _ _ ⟨he, h, _⟩ => ⟨he, h⟩)
    ·rw [if_neg hf]
     exact cup_acc j id raw _ _ _ _ h.chain h.height h.time h.root h.mac x1 x2 f hf _ w A X SE (qH fun W hW => clAcc hJ hW E.play id hid h1' hC h b1 b2 b3 b4 b5 hm)
   ·rw [if_pos he]
    rw [if_neg he] at X
    exact (cup_e2 j id raw _ _ _ _ h.chain h.height h.time h.root h.mac e w A X (qH fun W hW => reasonC e W (E.since hW).err)).mono fun _ _ ⟨he, hb⟩ => ⟨he, stay hb⟩
end
end Go.Proofs.YtkejaepmoabikaaGreatDoor.W
namespace Go.Proofs.YtkejaepmoabikaaGreatDoor.W
open Go.ChangeShapes Go.WideShapes Go.RowKit
open _root_.Go.Proofs.Tryz renaming prog → qP
theorem gPowType : (qP.globals[5]?).map (·.type) = some 309 := by kernel_rfl
theorem cellsPow : qP.cellsOf 309 = 20 := by kernel_rfl
theorem cellsU64 : qP.cellsOf 224 = 1 := by kernel_rfl
theorem gSyn : qP.globalNamed "strconv.ErrSyntax" = some 3 := by kernel_rfl
theorem gSynType : (qP.globals[3]?).map (·.type) = some 103 := by kernel_rfl
theorem gRng : qP.globalNamed "strconv.ErrRange" = some 4 := by kernel_rfl
theorem gRngType : (qP.globals[4]?).map (·.type) = some 103 := by kernel_rfl
theorem cellsErr : qP.cellsOf 316 = 1 := by kernel_rfl
theorem cellsStr : qP.cellsOf 9 = 1 := by kernel_rfl
theorem star : "*" ++ "errors.errorString" = "*errors.errorString" := by decide
theorem rowErr (u : TypeId) (h : qP.typeName? 3 u = some "*errors.errorString") : u = 314 :=
 typeName_ptr_named (nm := "errors.errorString") (by rw [star]; kernel_rfl) (by kernel_rfl) (by decide) u (by rw [star]; exact h)
theorem powData : (Rows.laid_internal_strconv_uint64pow10 : DataW Unit) = Lib.tabData .u64 Lib.pow10Tab := by kernel_rfl
theorem rootsData : (Rows.laid_footbridge_sha_roots : DataW Unit) = Lib.tabData .u32 (kk.map fun x : Nat => (x : Int)) := by kernel_rfl
theorem hType : qP.globalNamed "errors.errorType" = some 0 := by kernel_rfl
theorem hRt : (qP.cutTypes.find? (·.1 == "internal/reflectlite.rtype")).map (·.2) = some 246 := by kernel_rfl
theorem hRow : ((List.range (449 - 100)).filter fun t => qP.rowNamed t [101, 114, 114, 111, 114]) = [103] := by kernel_rfl
theorem hSize : qP.types.size = 449 - 100 := by kernel_rfl
theorem fit_of {W : World} (h : laidMetH qP Rows.clientNoneRow.laid W) (hS : W.ShapedOpen qP) : Fit W := by
 have h' : laidMet qP [("math/bits.deBruijn32tab", Rows.laid_math_bits_deBruijn32tab), ("math/bits.deBruijn64tab", Rows.laid_math_bits_deBruijn64tab), ("footbridge/sha.roots", Rows.laid_footbridge_sha_roots), ("internal/strconv.uint64pow10", Rows.laid_internal_strconv_uint64pow10), ("unicode/utf8.acceptRanges", Rows.laid_unicode_utf8_acceptRanges), ("strconv.ErrRange", Rows.laid_strconv_ErrRange), ("strconv.ErrSyntax", Rows.laid_strconv_ErrSyntax), ("unicode/utf8.first", Rows.laid_unicode_utf8_first)] W ∧ handlesMet qP [("errors.errorType", Rows.laid_errors_errorType)] W := h
 obtain ⟨h1, hh⟩ := h'
 have h2 := h1.tail.tail
 have h3 := h2.tail
 rw [rootsData] at h2
 have hr : Lib.TabIs qP W "footbridge/sha.roots" .u32 (kk.map fun x : Nat => (x : Int)) := Lib.tabIs_of_head gRoots gRootsType Tryz.underlying226 Tryz.underlying188 cells32 cellsRoots h2
 obtain ⟨a0, s0, hv0, -, -, -⟩ := laid_sentinel h3.tail.tail gRng gRngType Tryz.underlying103 rowErr Tryz.underlying314 Tryz.underlying316 rfl rfl Tryz.underlying9 cellsErr cellsStr
 obtain ⟨a1, s1, hv1, -, -, -⟩ := laid_sentinel h3.tail.tail.tail gSyn gSynType Tryz.underlying103 rowErr Tryz.underlying314 Tryz.underlying316 rfl rfl Tryz.underlying9 cellsErr cellsStr
 rw [powData] at h3
 have hp := Lib.tabIs_of_head gPow gPowType Tryz.underlying309 Tryz.underlying224 cellsU64 cellsPow h3
 refine ⟨fun i hi => ?_, ⟨hp, cell_of_shapedOpen_int (g := 1) (t := 3) (zero := #[.int .i64 0]) (k := .i64) hS (by rw [show qP.globals.size = 10 by kernel_rfl]; decide) (by kernel_rfl) (by kernel_rfl) (by kernel_rfl) (by kernel_rfl) (by kernel_rfl)⟩, ⟨hp, ⟨_, _, by have h0 := World.var?_cell gSyn hv1 0; simpa using h0⟩, ⟨_, _, by have h0 := World.var?_cell gRng hv0 0; simpa using h0⟩⟩, ?_⟩
 ·have hc := hr.cell gRoots i hi
  rw [hc, getD_cast]
 ·obtain ⟨name, u, ty, e1, e2, e3, e4, e5⟩ := hh _ (List.mem_singleton.2 rfl)
  have en : name = [101, 114, 114, 111, 114] := (Option.some.inj e1).symm
  subst en
  obtain rfl := Option.some.inj (hRt.symm.trans e2)
  have hm : ty ∈ (List.range (449 - 100)).filter fun t => qP.rowNamed t [101, 114, 114, 111, 114] := List.mem_filter.2 ⟨List.mem_range.2 (by rw [← hSize]; exact e3), e4⟩
  rw [hRow] at hm
  obtain rfl := List.mem_singleton.1 hm
  have ht : typeHandle qP 103 = .pointer (some ⟨10, 103, none⟩) := by kernel_rfl
  rw [ht] at e5
  simpa using World.var?_cell hType e5 0
end Go.Proofs.YtkejaepmoabikaaGreatDoor.W
