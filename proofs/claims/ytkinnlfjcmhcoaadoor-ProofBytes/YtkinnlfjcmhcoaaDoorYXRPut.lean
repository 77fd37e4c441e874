/-
  The reference's num, text and Put.
-/
import Derived.Test.YtkinnlfjcmhcoaaDoorZ0e
import Derived.Test.YtkinnlfjcmhcoaaDoorYWRefEnc
import Derived.Test.YtkinnlfjcmhcoaaDoorYKRef
namespace Go.Proofs.YtkinnlfjcmhcoaaDoor.W
open Go.RowKit

theorem radd_len (s p : List UInt8 × Int) : (radd s p).1.length ≤ s.1.length + p.1.length := by
  unfold radd
  split
  · simp
  · split
    · simp
    · simp
theorem fold_len (l : List (List UInt8 × Int)) (m : Nat) (h : ∀ p ∈ l, p.1.length ≤ m) : ∀ s : List UInt8 × Int, (l.foldl radd s).1.length ≤ s.1.length + l.length * m := by
  induction l with
  | nil => intro s; simp
  | cons p l ih =>
    intro s
    rw [List.foldl_cons]
    have h1 := ih (fun q hq => h q (by simp [hq])) (radd s p)
    have h2 := radd_len s p
    have h3 := h p (by simp)
    rw [List.length_cons, Nat.add_mul]
    omega
set_option maxHeartbeats 1000000 in
set_option maxRecDepth 100000 in
theorem raddNum_this (s t : List UInt8) (e f : Int) (x : Int) (w : World) (hs : s.length ≤ 1000000000) (ht : t.length ≤ 100000)
    (K : Hid (∀ W, Calls Tryd.prog 71 #[.int .i64 x] W fun e w' => e = .returned (.tuple #[.string (bs t), .int .i64 f]) ∧ Below W.heap.size W w')) :
    Calls Tryd.prog 47 #[.string (bs s), .int .i64 e, .int .i64 x] w fun en w' => en = .returned (retSE (radd (s, e) (t, f))) ∧ Below w.heap.size w w' := by
  by_cases he : e = 0
  · subst he
    by_cases hf : f = 0
    · subst hf
      have hr : radd (s, 0) (t, 0) = (s ++ t, 0) := by simp [radd]
      have a1 : ∀ W, (Op.stringOp .add (bs s) (bs t)).run Tryd.prog W = .ok (.string (bs (s ++ t))) W := fun W => run_add W s t (by omega)
      rw [hr]
      unfold retSE
      clear hr hs ht
      go_enter Tryd.func47, Tryd.ntmps47
      go_wp2_with fail
      refine (K.out _).mono ?_
      rintro en w1 ⟨rfl, b1⟩
      go_wp2
      go_ret2
      exact ⟨rfl, b1⟩
    · have hr : radd (s, 0) (t, f) = ([], f) := by simp [radd, hf]
      have hfn : (f != 0) = true := by rw [bne_iff_ne]; exact hf
      rw [hr]
      unfold retSE
      clear hr hs ht hf
      go_enter Tryd.func47, Tryd.ntmps47
      go_wp2_with fail
      refine (K.out _).mono ?_
      rintro en w1 ⟨rfl, b1⟩
      go_wp2
      go_ret2
      exact ⟨rfl, b1⟩
  · have hr : radd (s, e) (t, f) = ([], e) := by simp [radd, he]
    have hen : (e != 0) = true := by rw [bne_iff_ne]; exact he
    rw [hr]
    unfold retSE
    clear hr hs ht he
    go_enter Tryd.func47, Tryd.ntmps47
    go_wp2
    go_ret2
    exact ⟨rfl, Below.refl _ _⟩
theorem raddNum (st : List UInt8 × Int) (x : Int) (w : World) (hs : st.1.length ≤ 1000000000) :
    Calls Tryd.prog 47 #[.string (bs st.1), .int .i64 st.2, .int .i64 x] w fun en w' => en = .returned (retSE (radd st (encNum x))) ∧ Since w w' :=
  (raddNum_this st.1 (encNum x).1 st.2 (encNum x).2 x w hs (by have := encNum_len x; omega) (Lib.hid fun W => rNumC x _ _ rfl W)).mono fun e w' ⟨he, hb⟩ => ⟨he, since_of hb⟩
set_option maxHeartbeats 1000000 in
set_option maxRecDepth 100000 in
theorem raddText_this (s t : List UInt8) (e f : Int) (x : ByteArray) (w : World) (hs : s.length ≤ 1000000000) (ht : t.length ≤ 100000)
    (K : Hid (∀ W, Calls Tryd.prog 81 #[.string x] W fun e w' => e = .returned (.tuple #[.string (bs t), .int .i64 f]) ∧ Below W.heap.size W w')) :
    Calls Tryd.prog 48 #[.string (bs s), .int .i64 e, .string x] w fun en w' => en = .returned (retSE (radd (s, e) (t, f))) ∧ Below w.heap.size w w' := by
  by_cases he : e = 0
  · subst he
    by_cases hf : f = 0
    · subst hf
      have hr : radd (s, 0) (t, 0) = (s ++ t, 0) := by simp [radd]
      have a1 : ∀ W, (Op.stringOp .add (bs s) (bs t)).run Tryd.prog W = .ok (.string (bs (s ++ t))) W := fun W => run_add W s t (by omega)
      rw [hr]
      unfold retSE
      clear hr hs ht
      go_enter Tryd.func48, Tryd.ntmps48
      go_wp2_with fail
      refine (K.out _).mono ?_
      rintro en w1 ⟨rfl, b1⟩
      go_wp2
      go_ret2
      exact ⟨rfl, b1⟩
    · have hr : radd (s, 0) (t, f) = ([], f) := by simp [radd, hf]
      have hfn : (f != 0) = true := by rw [bne_iff_ne]; exact hf
      rw [hr]
      unfold retSE
      clear hr hs ht hf
      go_enter Tryd.func48, Tryd.ntmps48
      go_wp2_with fail
      refine (K.out _).mono ?_
      rintro en w1 ⟨rfl, b1⟩
      go_wp2
      go_ret2
      exact ⟨rfl, b1⟩
  · have hr : radd (s, e) (t, f) = ([], e) := by simp [radd, he]
    have hen : (e != 0) = true := by rw [bne_iff_ne]; exact he
    rw [hr]
    unfold retSE
    clear hr hs ht he
    go_enter Tryd.func48, Tryd.ntmps48
    go_wp2
    go_ret2
    exact ⟨rfl, Below.refl _ _⟩
theorem raddText (st : List UInt8 × Int) (x : ByteArray) (w : World) (hs : st.1.length ≤ 1000000000) :
    Calls Tryd.prog 48 #[.string (bs st.1), .int .i64 st.2, .string x] w fun en w' => en = .returned (retSE (radd st (encText x))) ∧ Since w w' :=
  (raddText_this st.1 (encText x).1 st.2 (encText x).2 x w hs (by have := encText_len x; omega) (Lib.hid fun W => rTextC x _ _ rfl W)).mono fun e w' ⟨he, hb⟩ => ⟨he, since_of hb⟩

/-! ### Put -/
theorem ritems_fold (n pos : Int) (t : Bool) (near : List KV) (paths : List (List (List UInt8))) (tn : Int) (ht : tn = if t then 1 else 0) :
    (items ⟨n, pos, t, near, paths⟩).foldl radd ([], 0) = (pathItems paths).foldl radd (radd ((nearItems near).foldl radd (radd (radd (radd (radd ([], 0) (encNum n)) (encNum pos)) (encNum tn)) (encNum near.length))) (encNum paths.length)) := by
  subst ht
  simp only [items, headItems, List.foldl_append, List.foldl_cons, List.foldl_nil, List.append_assoc]
theorem put_of {x : Pf} (h : ¬ (x.there = true ∧ x.near ≠ [])) : encPf x = (items x).foldl radd ([], 0) := by unfold encPf; rw [if_neg h]
set_option maxHeartbeats 1000000 in
set_option maxRecDepth 100000 in
theorem rPutNo (n pos : Int) (A1 A2 : Option Addr) (m1 c1 m2 c2 : Nat) (w : World) (h : 0 < m1) :
    Calls Tryd.prog 19 #[.agg #[.int .i64 n, .int .i64 pos, .bool true, .slice A1 m1 c1, .slice A2 m2 c2]] w fun e w' => e = .returned (.tuple #[.string (bs []), .int .i64 6]) ∧ Since w w' := by
  have HR := Lib.hid (show Since w (w.alloc (.cells #[.int .i64 n, .int .i64 pos, .bool true, .slice A1 m1 c1, .slice A2 m2 c2] 28)) from since_of (by go_grown))
  have h1 : (0 : Int) < (m1 : Int) := by omega
  go_enter Tryd.func19, Tryd.ntmps19
  go_wp2
  go_ret2
  exact ⟨rfl, HR.out⟩
set_option maxHeartbeats 4000000 in
set_option maxRecDepth 100000 in
theorem rPut_false (n pos : Int) (A1 : Option Addr) (c1 : Nat) (A2 : Option Addr) (c2 : Nat) (near : List KV) (paths : List (List (List UInt8))) (w : World) (hz1 : near.length ≤ 4) (hz2 : paths.length ≤ 4)
    (hc : ∀ k (h : k < near.length), ∃ b off, A1 = some ⟨b, off, none⟩ ∧ w.cell? ⟨b, off + k * 2, none⟩ = some (.string near[k].1) ∧ w.cell? ⟨b, off + k * 2 + 1, none⟩ = some (.string near[k].2))
    (hq : ∀ (k : Nat) q, paths[k]? = some q → ∃ b off u, A2 = some ⟨b, off, none⟩ ∧ w.cell? ⟨b, off + k, none⟩ = some u ∧ ∀ W, Since w W → Calls Tryd.prog 49 #[u] W fun e w' => e = .returned (retSE (encJoin (bss q))) ∧ Since W w')
    (HN : Hid (∀ (st : List UInt8 × Int) (x : Int) W, Since w W → st.1.length ≤ 1000000000 → Calls Tryd.prog 47 #[.string (bs st.1), .int .i64 st.2, .int .i64 x] W fun e w' => e = .returned (retSE (radd st (encNum x))) ∧ Since W w'))
    (HT : Hid (∀ (st : List UInt8 × Int) (x : ByteArray) W, Since w W → st.1.length ≤ 1000000000 → Calls Tryd.prog 48 #[.string (bs st.1), .int .i64 st.2, .string x] W fun e w' => e = .returned (retSE (radd st (encText x))) ∧ Since W w')) :
    Calls Tryd.prog 19 #[.agg #[.int .i64 n, .int .i64 pos, .bool false, .slice A1 near.length c1, .slice A2 paths.length c2]] w fun e w' => e = .returned (retSE ((pathItems paths).foldl radd (radd ((nearItems near).foldl radd (radd (radd (radd (radd ([], 0) (encNum n)) (encNum pos)) (encNum 0)) (encNum near.length))) (encNum paths.length)))) ∧ Since w w' := by
  have HC := Lib.hid hc
  have HQ := Lib.hid hq
  have HZ := Lib.hid (And.intro hz1 hz2)
  have S0 := Lib.hid (show Since w (w.alloc (.cells #[.int .i64 n, .int .i64 pos, .bool false, .slice A1 near.length c1, .slice A2 paths.length c2] 28)) from since_of (by go_grown))
  have X0 := Lib.hid (Blk.new w 28 #[.int .i64 n, .int .i64 pos, .bool false, .slice A1 near.length c1, .slice A2 paths.length c2])
  have L0 := Lib.hid (show (([] : List UInt8), (0 : Int)).1.length ≤ 0 by simp)
  obtain ⟨s0, hs0⟩ : ∃ s, s = (([] : List UInt8), (0 : Int)) := ⟨_, rfl⟩
  have e01 : bs s0.1 = ⟨#[]⟩ := by rw [hs0]; rfl
  have e02 : s0.2 = 0 := by rw [hs0]
  have HN0 := Lib.hid (fun x W (h : Since w W) => HN.out s0 x W h (by rw [hs0]; simp))
  rw [e01, e02] at HN0
  rw [← hs0] at L0
  have E0 := Lib.hid hs0
  obtain ⟨fin9, hfin⟩ : ∃ r, r = (pathItems paths).foldl radd (radd ((nearItems near).foldl radd (radd (radd (radd (radd ([], 0) (encNum n)) (encNum pos)) (encNum 0)) (encNum near.length))) (encNum paths.length)) := ⟨_, rfl⟩
  rw [← hfin]
  have HF := Lib.hid hfin
  clear hc hq hs0 e01 e02 hfin hz1 hz2
  go_enter Tryd.func19, Tryd.ntmps19
  go_wp2_with fail
  refine (HN0.out n _ S0.out).mono ?_
  rintro e w1 ⟨rfl, q1⟩
  have S1 := Lib.hid (show Since w w1 from since_of (step_below S0.out.below q1.below))
  have X1 := Lib.hid (X0.out.next q1.below)
  have L1 := Lib.hid (show (radd s0 (encNum n)).1.length ≤ 8 by have h1 := radd_len s0 (encNum n); have h2 := encNum_len n; have := L0.out; omega)
  obtain ⟨s1, hs1⟩ : ∃ s, s = radd s0 (encNum n) := ⟨_, rfl⟩
  rw [← hs1] at L1 ⊢
  have E1 := Lib.hid hs1
  unfold retSE
  clear hs1 q1 S0 X0 L0
  have y0 : w1.cell? ⟨w.heap.size, 0, none⟩ = some (.int .i64 n) := X1.out.cell 0
  have y1 : w1.cell? ⟨w.heap.size, 1, none⟩ = some (.int .i64 pos) := X1.out.cell 1
  have y3 : w1.cell? ⟨w.heap.size, 3, none⟩ = some (.slice A1 near.length c1) := X1.out.cell 3
  have y4 : w1.cell? ⟨w.heap.size, 4, none⟩ = some (.slice A2 paths.length c2) := X1.out.cell 4
  go_wp2_with fail
  clear y0 y1 y3 y4
  refine (HN.out s1 pos _ S1.out (by have := L1.out; omega)).mono ?_
  rintro e w2 ⟨rfl, q2⟩
  have S2 := Lib.hid (show Since w w2 from since_of (step_below S1.out.below q2.below))
  have X2 := Lib.hid (X1.out.next q2.below)
  have L2 := Lib.hid (show (radd s1 (encNum pos)).1.length ≤ 16 by have h1 := radd_len s1 (encNum pos); have h2 := encNum_len pos; have := L1.out; omega)
  obtain ⟨s2, hs2⟩ : ∃ s, s = radd s1 (encNum pos) := ⟨_, rfl⟩
  rw [← hs2] at L2 ⊢
  have E2 := Lib.hid hs2
  unfold retSE
  clear hs2 q2 S1 X1 L1
  have y0 : w2.cell? ⟨w.heap.size, 0, none⟩ = some (.int .i64 n) := X2.out.cell 0
  have y1 : w2.cell? ⟨w.heap.size, 1, none⟩ = some (.int .i64 pos) := X2.out.cell 1
  have y3 : w2.cell? ⟨w.heap.size, 3, none⟩ = some (.slice A1 near.length c1) := X2.out.cell 3
  have y4 : w2.cell? ⟨w.heap.size, 4, none⟩ = some (.slice A2 paths.length c2) := X2.out.cell 4
  go_wp2_with fail
  clear y0 y1 y3 y4
  refine (HN.out s2 0 _ S2.out (by have := L2.out; omega)).mono ?_
  rintro e w3 ⟨rfl, q3⟩
  have S3 := Lib.hid (show Since w w3 from since_of (step_below S2.out.below q3.below))
  have X3 := Lib.hid (X2.out.next q3.below)
  have L3 := Lib.hid (show (radd s2 (encNum 0)).1.length ≤ 24 by have h1 := radd_len s2 (encNum 0); have h2 := encNum_len 0; have := L2.out; omega)
  obtain ⟨s3, hs3⟩ : ∃ s, s = radd s2 (encNum 0) := ⟨_, rfl⟩
  rw [← hs3] at L3 ⊢
  have E3 := Lib.hid hs3
  unfold retSE
  clear hs3 q3 S2 X2 L2
  have y0 : w3.cell? ⟨w.heap.size, 0, none⟩ = some (.int .i64 n) := X3.out.cell 0
  have y1 : w3.cell? ⟨w.heap.size, 1, none⟩ = some (.int .i64 pos) := X3.out.cell 1
  have y3 : w3.cell? ⟨w.heap.size, 3, none⟩ = some (.slice A1 near.length c1) := X3.out.cell 3
  have y4 : w3.cell? ⟨w.heap.size, 4, none⟩ = some (.slice A2 paths.length c2) := X3.out.cell 4
  go_wp2_with fail
  clear y0 y1 y3 y4
  refine (HN.out s3 near.length _ S3.out (by have := L3.out; omega)).mono ?_
  rintro e w4 ⟨rfl, q4⟩
  have S4 := Lib.hid (show Since w w4 from since_of (step_below S3.out.below q4.below))
  have X4 := Lib.hid (X3.out.next q4.below)
  have L4 := Lib.hid (show (radd s3 (encNum near.length)).1.length ≤ 32 by have h1 := radd_len s3 (encNum near.length); have h2 := encNum_len near.length; have := L3.out; omega)
  obtain ⟨s4, hs4⟩ : ∃ s, s = radd s3 (encNum near.length) := ⟨_, rfl⟩
  rw [← hs4] at L4 ⊢
  have E4 := Lib.hid hs4
  unfold retSE
  clear hs4 q4 S3 X3 L3
  have y0 : w4.cell? ⟨w.heap.size, 0, none⟩ = some (.int .i64 n) := X4.out.cell 0
  have y1 : w4.cell? ⟨w.heap.size, 1, none⟩ = some (.int .i64 pos) := X4.out.cell 1
  have y3 : w4.cell? ⟨w.heap.size, 3, none⟩ = some (.slice A1 near.length c1) := X4.out.cell 3
  have y4 : w4.cell? ⟨w.heap.size, 4, none⟩ = some (.slice A2 paths.length c2) := X4.out.cell 4
  clear y0 y1
  go_wp2
  go_loopw [5, 6, 7] (fun a b i wr => ∃ (k : Nat) (st : List UInt8 × Int), k ≤ near.length ∧ i = .int .i64 k ∧ a = .string (bs st.1) ∧ b = .int .i64 st.2 ∧ Hid (st = (nearItems (near.take k)).foldl radd s4 ∧ st.1.length ≤ 32 + k * 131088) ∧ Hid (Since w4 wr)) (fun _ _ i _ => near.length - (intOf i).toNat)
  case atStart => exact ⟨0, s4, Nat.zero_le _, rfl, rfl, rfl, Lib.hid ⟨rfl, by have := L4.out; omega⟩, Lib.hid (Since.refl w4)⟩
  case round =>
    obtain ⟨k, st, hk, rfl, rfl, rfl, HI, HW⟩ := hrel
    have x3 := HW.out.cell y3
    have x4 := HW.out.cell y4
    have HSW := Lib.hid (show Since w wr from since_of (step_below S4.out.below HW.out.below))
    by_cases hlt : k < near.length
    · obtain ⟨g1, o1, rfl, d1, d2⟩ := HC.out k hlt
      have z1 := HSW.out.cell d1
      have z2 := HSW.out.cell d2
      have i0 : (0 : Int) ≤ (k : Int) := by omega
      have i1 : (k : Int) < (near.length : Int) := by omega
      have HE := Lib.hid (nearItems_at hlt)
      have hz := HZ.out.1
      obtain ⟨p, hp⟩ : ∃ p, p = near[k] := ⟨_, rfl⟩
      rw [← hp] at z1 z2 HE
      obtain ⟨p1, p2⟩ := p
      simp only at z1 z2 HE
      clear d1 d2 hp
      go_wp2_with fail
      refine (HT.out st p1 _ HSW.out (by have := HI.out.2; omega)).mono ?_
      rintro e w5 ⟨rfl, q5⟩
      have HW5 := Lib.hid (show Since w4 w5 from since_of (step_below HW.out.below q5.below))
      have HSW5 := Lib.hid (show Since w w5 from since_of (step_below HSW.out.below q5.below))
      have x3' := q5.cell x3
      have z2' := q5.cell z2
      have L5 := Lib.hid (show (radd st (encText p1)).1.length ≤ 32 + k * 131088 + 65544 by have h1 := radd_len st (encText p1); have h2 := encText_len p1; have := HI.out.2; omega)
      obtain ⟨st1, hst1⟩ : ∃ s, s = radd st (encText p1) := ⟨_, rfl⟩
      rw [← hst1] at L5 ⊢
      have E5 := Lib.hid hst1
      unfold retSE
      clear hst1 q5 x3 x4 z1 z2 HW HSW
      go_wp2_with fail
      refine (HT.out st1 p2 _ HSW5.out (by have := L5.out; omega)).mono ?_
      rintro e w6 ⟨rfl, q6⟩
      have HW6 := Lib.hid (show Since w4 w6 from since_of (step_below HW5.out.below q6.below))
      have L6 := Lib.hid (show (radd st1 (encText p2)).1.length ≤ 32 + (k + 1) * 131088 by have h1 := radd_len st1 (encText p2); have h2 := encText_len p2; have := L5.out; omega)
      have E6 := Lib.hid (show radd st1 (encText p2) = (nearItems (near.take (k + 1))).foldl radd s4 by rw [HE.out, List.foldl_append, ← HI.out.1, E5.out]; rfl)
      obtain ⟨st2, hst2⟩ : ∃ s, s = radd st1 (encText p2) := ⟨_, rfl⟩
      rw [← hst2] at L6 E6 ⊢
      unfold retSE
      clear hst2 q6 x3' z2' HW5 HSW5 L5 E5 HE HI
      go_wp2
      go_roundw
      case rel => exact ⟨k + 1, st2, by omega, by go_num, rfl, rfl, Lib.hid ⟨E6.out, L6.out⟩, HW6⟩
      case measure => simp [intOf]; omega
    · obtain rfl : k = near.length := by omega
      have HI2 := Lib.hid (show st = (nearItems near).foldl radd s4 by have := HI.out.1; rwa [List.take_length] at this)
      have LI2 := HI.out.2
      have hz := HZ.out.1
      have LI := Lib.hid (show st.1.length ≤ 600000 by omega)
      clear HI LI2 hz
      go_wp2_with fail
      refine (HN.out st paths.length _ HSW.out (by have := LI.out; omega)).mono ?_
      rintro e w5 ⟨rfl, q5⟩
      have HW5 := Lib.hid (show Since w w5 from since_of (step_below HSW.out.below q5.below))
      have v4 := q5.cell x4
      have L5 := Lib.hid (show (radd st (encNum paths.length)).1.length ≤ 700000 by have h1 := radd_len st (encNum paths.length); have h2 := encNum_len paths.length; have := LI.out; omega)
      have NRM := Lib.hid (radd_norm (s := st) (p := encNum paths.length))
      obtain ⟨s5, hs5⟩ : ∃ s, s = radd st (encNum paths.length) := ⟨_, rfl⟩
      rw [← hs5] at L5 NRM ⊢
      have HF5 := Lib.hid (show fin9 = (pathItems paths).foldl radd s5 by rw [HF.out, hs5, HI2.out, E4.out, E3.out, E2.out, E1.out, E0.out])
      unfold retSE
      clear hs5 q5 x3 x4 y3 y4 HW HSW HF HI2 E0 E1 E2 E3 E4 LI HC HT
      rename World => w5
      go_wp2
      go_loopw [5, 6, 8, 9, 10] (fun a b i _ _ wr => ∃ (k : Nat) (su : List UInt8 × Int), k ≤ paths.length ∧ i = .int .i64 k ∧ a = .string (bs su.1) ∧ b = .int .i64 su.2 ∧ Hid (su = (pathItems (paths.take k)).foldl kadd s5 ∧ su.1.length ≤ 700000 + k * 17000000) ∧ Hid (Since w5 wr)) (fun _ _ i _ _ _ => paths.length - (intOf i).toNat)
      case atStart => exact ⟨0, s5, Nat.zero_le _, rfl, rfl, rfl, Lib.hid ⟨rfl, by have := L5.out; omega⟩, Lib.hid (Since.refl w5)⟩
      case round =>
        obtain ⟨k, su, hk, rfl, rfl, rfl, HJ, HV⟩ := hrel
        have u4 := HV.out.cell v4
        have HSV := Lib.hid (show Since w wr from since_of (step_below HW5.out.below HV.out.below))
        have hf5 : fin s5 = s5 := by
          unfold fin
          by_cases h : s5.2 = 0
          · rw [if_neg (by simp [h])]
          · rw [if_pos h, ← NRM.out h]
        by_cases hlt : k < paths.length
        · have hsplit : fin9 = ((pathItems paths).drop k).foldl radd (fin su) := by
            have e : pathItems paths = pathItems (paths.take k) ++ (pathItems paths).drop k := by
              conv => lhs; rw [← List.take_append_drop k (pathItems paths)]
              congr 1
              simp [pathItems, List.map_take]
            rw [HF5.out, HJ.out.1, fin_fold, hf5, ← List.foldl_append, ← e]
          have HSP := Lib.hid hsplit
          clear hsplit hf5
          by_cases he : su.2 = 0
          · obtain ⟨g2, o2, u, rfl, d3, J⟩ := HQ.out k _ (List.getElem?_eq_getElem hlt)
            have z3 := HSV.out.cell d3
            have HJN := Lib.hid (J _ HSV.out)
            have i0 : (0 : Int) ≤ (k : Int) := by omega
            have i1 : (k : Int) < (paths.length : Int) := by omega
            have hb : (su.2 != 0) = false := by rw [he]; rfl
            have LJ := encJoin_len (bss paths[k])
            have HE := Lib.hid (pathItems_at hlt)
            have hz := HZ.out.2
            obtain ⟨⟨t1, f1⟩, ht⟩ : ∃ t, t = encJoin (bss paths[k]) := ⟨_, rfl⟩
            rw [← ht] at HJN HE LJ
            have a1 : ∀ W, (Op.stringOp .add (bs su.1) (bs t1)).run Tryd.prog W = .ok (.string (bs (su.1 ++ t1))) W := fun W => run_add W su.1 t1 (by have := HJ.out.2; simp only at LJ; omega)
            have HK := Lib.hid (show kadd su (t1, f1) = (su.1 ++ t1, f1) by unfold kadd; rw [if_neg (by simp [he])])
            have L7 := Lib.hid (show (su.1 ++ t1).length ≤ 700000 + (k + 1) * 17000000 by rw [List.length_append]; have := HJ.out.2; simp only at LJ; omega)
            have E7 := Lib.hid (show (su.1 ++ t1, f1) = (pathItems (paths.take (k + 1))).foldl kadd s5 by rw [HE.out, List.foldl_append, ← HJ.out.1, List.foldl_cons, List.foldl_nil, HK.out])
            clear d3 J ht LJ HE HK HSP HJ
            obtain ⟨r1, r2⟩ := su
            simp only at he hb a1 L7 E7
            subst he
            go_wp2_with fail
            refine HJN.out.mono ?_
            rintro e w6 ⟨rfl, q6⟩
            have HV6 := Lib.hid (show Since w5 w6 from since_of (step_below HV.out.below q6.below))
            unfold retSE
            clear q6 HJN z3 u4 HV HSV
            go_wp2
            go_roundw
            case rel => exact ⟨k + 1, (r1 ++ t1, f1), by omega, by go_num, rfl, rfl, Lib.hid ⟨E7.out, L7.out⟩, HV6⟩
            case measure => simp [intOf]; omega
          · have hb : (su.2 != 0) = true := by rw [bne_iff_ne]; exact he
            have i1 : (k : Int) < (paths.length : Int) := by omega
            have HR := Lib.hid (show fin9 = ([], su.2) by
              rw [HSP.out]
              unfold fin
              rw [if_pos he]
              exact fold_bad _ he)
            clear he HSP HJ
            go_wp2
            go_ret2
            exact ⟨by rw [HR.out]; rfl, HSV.out⟩
        · obtain rfl : k = paths.length := by omega
          have HR := Lib.hid (show fin9 = fin su by
            have h1 := HJ.out.1
            rw [List.take_length] at h1
            rw [HF5.out, h1, fin_fold, hf5])
          have i1 : ¬ (paths.length : Int) < (paths.length : Int) := by omega
          clear hf5 HJ
          by_cases he : su.2 = 0
          · have hb : (su.2 != 0) = false := by rw [he]; rfl
            have HR2 := Lib.hid (show fin9 = (su.1, 0) by rw [HR.out]; unfold fin; rw [if_neg (by simp [he]), ← he])
            clear HR
            go_wp2
            go_ret2
            exact ⟨by rw [HR2.out]; rfl, HSV.out⟩
          · have hb : (su.2 != 0) = true := by rw [bne_iff_ne]; exact he
            have HR2 := Lib.hid (show fin9 = ([], su.2) by rw [HR.out]; unfold fin; rw [if_pos he])
            clear HR he
            go_wp2
            go_ret2
            exact ⟨by rw [HR2.out]; rfl, HSV.out⟩
set_option maxHeartbeats 4000000 in
set_option maxRecDepth 100000 in
theorem rPut_true (n pos : Int) (A1 : Option Addr) (c1 : Nat) (A2 : Option Addr) (c2 : Nat) (near : List KV) (paths : List (List (List UInt8))) (w : World) (hno : near = []) (hz1 : near.length ≤ 4) (hz2 : paths.length ≤ 4)
    (hc : ∀ k (h : k < near.length), ∃ b off, A1 = some ⟨b, off, none⟩ ∧ w.cell? ⟨b, off + k * 2, none⟩ = some (.string near[k].1) ∧ w.cell? ⟨b, off + k * 2 + 1, none⟩ = some (.string near[k].2))
    (hq : ∀ (k : Nat) q, paths[k]? = some q → ∃ b off u, A2 = some ⟨b, off, none⟩ ∧ w.cell? ⟨b, off + k, none⟩ = some u ∧ ∀ W, Since w W → Calls Tryd.prog 49 #[u] W fun e w' => e = .returned (retSE (encJoin (bss q))) ∧ Since W w')
    (HN : Hid (∀ (st : List UInt8 × Int) (x : Int) W, Since w W → st.1.length ≤ 1000000000 → Calls Tryd.prog 47 #[.string (bs st.1), .int .i64 st.2, .int .i64 x] W fun e w' => e = .returned (retSE (radd st (encNum x))) ∧ Since W w')) :
    Calls Tryd.prog 19 #[.agg #[.int .i64 n, .int .i64 pos, .bool true, .slice A1 near.length c1, .slice A2 paths.length c2]] w fun e w' => e = .returned (retSE ((pathItems paths).foldl radd (radd ((nearItems near).foldl radd (radd (radd (radd (radd ([], 0) (encNum n)) (encNum pos)) (encNum 1)) (encNum near.length))) (encNum paths.length)))) ∧ Since w w' := by
  have HC := Lib.hid hc
  have HQ := Lib.hid hq
  have HZ := Lib.hid (And.intro hz1 hz2)
  have S0 := Lib.hid (show Since w (w.alloc (.cells #[.int .i64 n, .int .i64 pos, .bool true, .slice A1 near.length c1, .slice A2 paths.length c2] 28)) from since_of (by go_grown))
  have X0 := Lib.hid (Blk.new w 28 #[.int .i64 n, .int .i64 pos, .bool true, .slice A1 near.length c1, .slice A2 paths.length c2])
  have L0 := Lib.hid (show (([] : List UInt8), (0 : Int)).1.length ≤ 0 by simp)
  obtain ⟨s0, hs0⟩ : ∃ s, s = (([] : List UInt8), (0 : Int)) := ⟨_, rfl⟩
  have e01 : bs s0.1 = ⟨#[]⟩ := by rw [hs0]; rfl
  have e02 : s0.2 = 0 := by rw [hs0]
  have HN0 := Lib.hid (fun x W (h : Since w W) => HN.out s0 x W h (by rw [hs0]; simp))
  rw [e01, e02] at HN0
  rw [← hs0] at L0
  have E0 := Lib.hid hs0
  obtain ⟨fin9, hfin⟩ : ∃ r, r = (pathItems paths).foldl radd (radd ((nearItems near).foldl radd (radd (radd (radd (radd ([], 0) (encNum n)) (encNum pos)) (encNum 1)) (encNum near.length))) (encNum paths.length)) := ⟨_, rfl⟩
  rw [← hfin]
  have HF := Lib.hid hfin
  have HNO := Lib.hid hno
  have hgt : ¬ (0 : Int) < (near.length : Int) := by rw [hno]; simp
  clear hc hq hs0 e01 e02 hfin hz1 hz2 hno
  go_enter Tryd.func19, Tryd.ntmps19
  go_wp2_with fail
  clear hgt
  refine (HN0.out n _ S0.out).mono ?_
  rintro e w1 ⟨rfl, q1⟩
  have S1 := Lib.hid (show Since w w1 from since_of (step_below S0.out.below q1.below))
  have X1 := Lib.hid (X0.out.next q1.below)
  have L1 := Lib.hid (show (radd s0 (encNum n)).1.length ≤ 8 by have h1 := radd_len s0 (encNum n); have h2 := encNum_len n; have := L0.out; omega)
  obtain ⟨s1, hs1⟩ : ∃ s, s = radd s0 (encNum n) := ⟨_, rfl⟩
  rw [← hs1] at L1 ⊢
  have E1 := Lib.hid hs1
  unfold retSE
  clear hs1 q1 S0 X0 L0
  have y0 : w1.cell? ⟨w.heap.size, 0, none⟩ = some (.int .i64 n) := X1.out.cell 0
  have y1 : w1.cell? ⟨w.heap.size, 1, none⟩ = some (.int .i64 pos) := X1.out.cell 1
  have y3 : w1.cell? ⟨w.heap.size, 3, none⟩ = some (.slice A1 near.length c1) := X1.out.cell 3
  have y4 : w1.cell? ⟨w.heap.size, 4, none⟩ = some (.slice A2 paths.length c2) := X1.out.cell 4
  go_wp2_with fail
  clear y0 y1 y3 y4
  refine (HN.out s1 pos _ S1.out (by have := L1.out; omega)).mono ?_
  rintro e w2 ⟨rfl, q2⟩
  have S2 := Lib.hid (show Since w w2 from since_of (step_below S1.out.below q2.below))
  have X2 := Lib.hid (X1.out.next q2.below)
  have L2 := Lib.hid (show (radd s1 (encNum pos)).1.length ≤ 16 by have h1 := radd_len s1 (encNum pos); have h2 := encNum_len pos; have := L1.out; omega)
  obtain ⟨s2, hs2⟩ : ∃ s, s = radd s1 (encNum pos) := ⟨_, rfl⟩
  rw [← hs2] at L2 ⊢
  have E2 := Lib.hid hs2
  unfold retSE
  clear hs2 q2 S1 X1 L1
  have y0 : w2.cell? ⟨w.heap.size, 0, none⟩ = some (.int .i64 n) := X2.out.cell 0
  have y1 : w2.cell? ⟨w.heap.size, 1, none⟩ = some (.int .i64 pos) := X2.out.cell 1
  have y3 : w2.cell? ⟨w.heap.size, 3, none⟩ = some (.slice A1 near.length c1) := X2.out.cell 3
  have y4 : w2.cell? ⟨w.heap.size, 4, none⟩ = some (.slice A2 paths.length c2) := X2.out.cell 4
  go_wp2_with fail
  clear y0 y1 y3 y4
  refine (HN.out s2 1 _ S2.out (by have := L2.out; omega)).mono ?_
  rintro e w3 ⟨rfl, q3⟩
  have S3 := Lib.hid (show Since w w3 from since_of (step_below S2.out.below q3.below))
  have X3 := Lib.hid (X2.out.next q3.below)
  have L3 := Lib.hid (show (radd s2 (encNum 1)).1.length ≤ 24 by have h1 := radd_len s2 (encNum 1); have h2 := encNum_len 1; have := L2.out; omega)
  obtain ⟨s3, hs3⟩ : ∃ s, s = radd s2 (encNum 1) := ⟨_, rfl⟩
  rw [← hs3] at L3 ⊢
  have E3 := Lib.hid hs3
  unfold retSE
  clear hs3 q3 S2 X2 L2
  have y0 : w3.cell? ⟨w.heap.size, 0, none⟩ = some (.int .i64 n) := X3.out.cell 0
  have y1 : w3.cell? ⟨w.heap.size, 1, none⟩ = some (.int .i64 pos) := X3.out.cell 1
  have y3 : w3.cell? ⟨w.heap.size, 3, none⟩ = some (.slice A1 near.length c1) := X3.out.cell 3
  have y4 : w3.cell? ⟨w.heap.size, 4, none⟩ = some (.slice A2 paths.length c2) := X3.out.cell 4
  go_wp2_with fail
  clear y0 y1 y3 y4
  refine (HN.out s3 near.length _ S3.out (by have := L3.out; omega)).mono ?_
  rintro e w4 ⟨rfl, q4⟩
  have S4 := Lib.hid (show Since w w4 from since_of (step_below S3.out.below q4.below))
  have X4 := Lib.hid (X3.out.next q4.below)
  have L4 := Lib.hid (show (radd s3 (encNum near.length)).1.length ≤ 32 by have h1 := radd_len s3 (encNum near.length); have h2 := encNum_len near.length; have := L3.out; omega)
  obtain ⟨s4, hs4⟩ : ∃ s, s = radd s3 (encNum near.length) := ⟨_, rfl⟩
  rw [← hs4] at L4 ⊢
  have E4 := Lib.hid hs4
  unfold retSE
  clear hs4 q4 S3 X3 L3
  have y0 : w4.cell? ⟨w.heap.size, 0, none⟩ = some (.int .i64 n) := X4.out.cell 0
  have y1 : w4.cell? ⟨w.heap.size, 1, none⟩ = some (.int .i64 pos) := X4.out.cell 1
  have y3 : w4.cell? ⟨w.heap.size, 3, none⟩ = some (.slice A1 near.length c1) := X4.out.cell 3
  have y4 : w4.cell? ⟨w.heap.size, 4, none⟩ = some (.slice A2 paths.length c2) := X4.out.cell 4
  clear y0 y1
  go_wp2
  go_loopw [5, 6, 7] (fun a b i wr => ∃ (k : Nat) (st : List UInt8 × Int), k ≤ near.length ∧ i = .int .i64 k ∧ a = .string (bs st.1) ∧ b = .int .i64 st.2 ∧ Hid (st = (nearItems (near.take k)).foldl radd s4 ∧ st.1.length ≤ 32 + k * 131088) ∧ Hid (Since w4 wr)) (fun _ _ i _ => near.length - (intOf i).toNat)
  case atStart => exact ⟨0, s4, Nat.zero_le _, rfl, rfl, rfl, Lib.hid ⟨rfl, by have := L4.out; omega⟩, Lib.hid (Since.refl w4)⟩
  case round =>
    obtain ⟨k, st, hk, rfl, rfl, rfl, HI, HW⟩ := hrel
    have x3 := HW.out.cell y3
    have x4 := HW.out.cell y4
    have HSW := Lib.hid (show Since w wr from since_of (step_below S4.out.below HW.out.below))
    by_cases hlt : k < near.length
    · exact absurd hlt (by rw [HNO.out]; simp)
    · obtain rfl : k = near.length := by omega
      have HI2 := Lib.hid (show st = (nearItems near).foldl radd s4 by have := HI.out.1; rwa [List.take_length] at this)
      have LI2 := HI.out.2
      have hz := HZ.out.1
      have LI := Lib.hid (show st.1.length ≤ 600000 by omega)
      clear HI LI2 hz
      go_wp2_with fail
      refine (HN.out st paths.length _ HSW.out (by have := LI.out; omega)).mono ?_
      rintro e w5 ⟨rfl, q5⟩
      have HW5 := Lib.hid (show Since w w5 from since_of (step_below HSW.out.below q5.below))
      have v4 := q5.cell x4
      have L5 := Lib.hid (show (radd st (encNum paths.length)).1.length ≤ 700000 by have h1 := radd_len st (encNum paths.length); have h2 := encNum_len paths.length; have := LI.out; omega)
      have NRM := Lib.hid (radd_norm (s := st) (p := encNum paths.length))
      obtain ⟨s5, hs5⟩ : ∃ s, s = radd st (encNum paths.length) := ⟨_, rfl⟩
      rw [← hs5] at L5 NRM ⊢
      have HF5 := Lib.hid (show fin9 = (pathItems paths).foldl radd s5 by rw [HF.out, hs5, HI2.out, E4.out, E3.out, E2.out, E1.out, E0.out])
      unfold retSE
      clear hs5 q5 x3 x4 y3 y4 HW HSW HF HI2 E0 E1 E2 E3 E4 LI HC
      rename World => w5
      go_wp2
      go_loopw [5, 6, 8, 9, 10] (fun a b i _ _ wr => ∃ (k : Nat) (su : List UInt8 × Int), k ≤ paths.length ∧ i = .int .i64 k ∧ a = .string (bs su.1) ∧ b = .int .i64 su.2 ∧ Hid (su = (pathItems (paths.take k)).foldl kadd s5 ∧ su.1.length ≤ 700000 + k * 17000000) ∧ Hid (Since w5 wr)) (fun _ _ i _ _ _ => paths.length - (intOf i).toNat)
      case atStart => exact ⟨0, s5, Nat.zero_le _, rfl, rfl, rfl, Lib.hid ⟨rfl, by have := L5.out; omega⟩, Lib.hid (Since.refl w5)⟩
      case round =>
        obtain ⟨k, su, hk, rfl, rfl, rfl, HJ, HV⟩ := hrel
        have u4 := HV.out.cell v4
        have HSV := Lib.hid (show Since w wr from since_of (step_below HW5.out.below HV.out.below))
        have hf5 : fin s5 = s5 := by
          unfold fin
          by_cases h : s5.2 = 0
          · rw [if_neg (by simp [h])]
          · rw [if_pos h, ← NRM.out h]
        by_cases hlt : k < paths.length
        · have hsplit : fin9 = ((pathItems paths).drop k).foldl radd (fin su) := by
            have e : pathItems paths = pathItems (paths.take k) ++ (pathItems paths).drop k := by
              conv => lhs; rw [← List.take_append_drop k (pathItems paths)]
              congr 1
              simp [pathItems, List.map_take]
            rw [HF5.out, HJ.out.1, fin_fold, hf5, ← List.foldl_append, ← e]
          have HSP := Lib.hid hsplit
          clear hsplit hf5
          by_cases he : su.2 = 0
          · obtain ⟨g2, o2, u, rfl, d3, J⟩ := HQ.out k _ (List.getElem?_eq_getElem hlt)
            have z3 := HSV.out.cell d3
            have HJN := Lib.hid (J _ HSV.out)
            have i0 : (0 : Int) ≤ (k : Int) := by omega
            have i1 : (k : Int) < (paths.length : Int) := by omega
            have hb : (su.2 != 0) = false := by rw [he]; rfl
            have LJ := encJoin_len (bss paths[k])
            have HE := Lib.hid (pathItems_at hlt)
            have hz := HZ.out.2
            obtain ⟨⟨t1, f1⟩, ht⟩ : ∃ t, t = encJoin (bss paths[k]) := ⟨_, rfl⟩
            rw [← ht] at HJN HE LJ
            have a1 : ∀ W, (Op.stringOp .add (bs su.1) (bs t1)).run Tryd.prog W = .ok (.string (bs (su.1 ++ t1))) W := fun W => run_add W su.1 t1 (by have := HJ.out.2; simp only at LJ; omega)
            have HK := Lib.hid (show kadd su (t1, f1) = (su.1 ++ t1, f1) by unfold kadd; rw [if_neg (by simp [he])])
            have L7 := Lib.hid (show (su.1 ++ t1).length ≤ 700000 + (k + 1) * 17000000 by rw [List.length_append]; have := HJ.out.2; simp only at LJ; omega)
            have E7 := Lib.hid (show (su.1 ++ t1, f1) = (pathItems (paths.take (k + 1))).foldl kadd s5 by rw [HE.out, List.foldl_append, ← HJ.out.1, List.foldl_cons, List.foldl_nil, HK.out])
            clear d3 J ht LJ HE HK HSP HJ
            obtain ⟨r1, r2⟩ := su
            simp only at he hb a1 L7 E7
            subst he
            go_wp2_with fail
            refine HJN.out.mono ?_
            rintro e w6 ⟨rfl, q6⟩
            have HV6 := Lib.hid (show Since w5 w6 from since_of (step_below HV.out.below q6.below))
            unfold retSE
            clear q6 HJN z3 u4 HV HSV
            go_wp2
            go_roundw
            case rel => exact ⟨k + 1, (r1 ++ t1, f1), by omega, by go_num, rfl, rfl, Lib.hid ⟨E7.out, L7.out⟩, HV6⟩
            case measure => simp [intOf]; omega
          · have hb : (su.2 != 0) = true := by rw [bne_iff_ne]; exact he
            have i1 : (k : Int) < (paths.length : Int) := by omega
            have HR := Lib.hid (show fin9 = ([], su.2) by
              rw [HSP.out]
              unfold fin
              rw [if_pos he]
              exact fold_bad _ he)
            clear he HSP HJ
            go_wp2
            go_ret2
            exact ⟨by rw [HR.out]; rfl, HSV.out⟩
        · obtain rfl : k = paths.length := by omega
          have HR := Lib.hid (show fin9 = fin su by
            have h1 := HJ.out.1
            rw [List.take_length] at h1
            rw [HF5.out, h1, fin_fold, hf5])
          have i1 : ¬ (paths.length : Int) < (paths.length : Int) := by omega
          clear hf5 HJ
          by_cases he : su.2 = 0
          · have hb : (su.2 != 0) = false := by rw [he]; rfl
            have HR2 := Lib.hid (show fin9 = (su.1, 0) by rw [HR.out]; unfold fin; rw [if_neg (by simp [he]), ← he])
            clear HR
            go_wp2
            go_ret2
            exact ⟨by rw [HR2.out]; rfl, HSV.out⟩
          · have hb : (su.2 != 0) = true := by rw [bne_iff_ne]; exact he
            have HR2 := Lib.hid (show fin9 = ([], su.2) by rw [HR.out]; unfold fin; rw [if_pos he])
            clear HR he
            go_wp2
            go_ret2
            exact ⟨by rw [HR2.out]; rfl, HSV.out⟩
theorem rPutC (x : Pf) (v : Value) (w : World) (hP : Prf w v x) (hl1 : x.near.length ≤ 4) (hl2 : x.paths.length ≤ 4) (hq : ∀ q ∈ x.paths, q.length ≤ 1000000) :
    Calls Tryd.prog 19 #[v] w fun e w' => e = .returned (retSE (encPf x)) ∧ Since w w' := by
  obtain ⟨n, pos, there, near, paths⟩ := x
  obtain ⟨nv, pv, rfl, ⟨A1, c1, rfl, _, hc1⟩, ⟨A2, c2, rfl, _, hc⟩⟩ := hP
  simp only at hl1 hl2 hq hc hc1 ⊢
  have hj : ∀ (k : Nat) q, paths[k]? = some q → ∃ b off u, A2 = some ⟨b, off, none⟩ ∧ w.cell? ⟨b, off + k, none⟩ = some u ∧ ∀ W, Since w W → Calls Tryd.prog 49 #[u] W fun e w' => e = .returned (retSE (encJoin (bss q))) ∧ Since W w' := fun k q hk => by
    obtain ⟨b, off, u, rfl, d, hT, _⟩ := hc k q hk
    exact ⟨b, off, u, rfl, d, fun W hW => (rJoin u (bss q) W ((hT.below hW.below).more hW.2.2.2.1) (by rw [bss_len]; have := hq q (List.mem_of_getElem? hk); omega)).mono fun e w' ⟨he, hb⟩ => ⟨he, since_of hb⟩⟩
  have HN : Hid (∀ (st : List UInt8 × Int) (x : Int) W, Since w W → st.1.length ≤ 1000000000 → Calls Tryd.prog 47 #[.string (bs st.1), .int .i64 st.2, .int .i64 x] W fun e w' => e = .returned (retSE (radd st (encNum x))) ∧ Since W w') := Lib.hid fun st x W _ hs => raddNum st x W hs
  have HT : Hid (∀ (st : List UInt8 × Int) (x : ByteArray) W, Since w W → st.1.length ≤ 1000000000 → Calls Tryd.prog 48 #[.string (bs st.1), .int .i64 st.2, .string x] W fun e w' => e = .returned (retSE (radd st (encText x))) ∧ Since W w') := Lib.hid fun st x W _ hs => raddText st x W hs
  by_cases h : there = true ∧ near ≠ []
  · obtain ⟨rfl, hne⟩ := h
    have e : encPf ⟨n, pos, true, near, paths⟩ = ([], 6) := by unfold encPf; rw [if_pos ⟨rfl, hne⟩]
    rw [e]
    exact rPutNo n pos A1 A2 _ c1 _ c2 w (List.length_pos_iff.2 hne)
  · rw [put_of h]
    cases there with
    | false =>
      rw [ritems_fold n pos false near paths 0 rfl]
      exact rPut_false n pos A1 c1 A2 c2 near paths w hl1 hl2 hc1 hj HN HT
    | true =>
      rw [ritems_fold n pos true near paths 1 rfl]
      have h0 : near = [] := by
        by_cases h1 : near = []
        · exact h1
        · exact absurd ⟨rfl, h1⟩ h
      exact rPut_true n pos A1 c1 A2 c2 near paths w h0 hl1 hl2 hc1 hj HN
end Go.Proofs.YtkinnlfjcmhcoaaDoor.W
