/-
  The reference's Lacks.
-/
import Derived.Test.YtkinnlfjcmhcoaaDoorYXRHas
import Derived.Test.YtkinnlfjcmhcoaaDoorZ0f
namespace Go.Proofs.YtkinnlfjcmhcoaaDoor.W
open Go.RowKit

set_option maxHeartbeats 1000000 in
set_option maxRecDepth 100000 in
theorem rLacksNo1 (root key : ByteArray) (n pos : Int) (t : Bool) (nv pv : Value) (L : List (List UInt8)) (w : World) (h : t = true ∨ pos < 0 ∨ n < pos) :
    Calls Tryd.prog 15 #[.string root, .string key, .agg #[.int .i64 n, .int .i64 pos, .bool t, nv, pv]] w (TellPost w false L) := by
  have HR := Lib.hid (tell_no (L := L) (show Below w.heap.size w (w.alloc (.cells #[.int .i64 n, .int .i64 pos, .bool t, nv, pv] 28)) by go_grown))
  cases t with
  | true =>
    clear h
    go_enter Tryd.func15, Tryd.ntmps15
    go_wp2
    go_ret2
    exact HR.out
  | false =>
    by_cases h1 : pos < 0
    · clear h
      go_enter Tryd.func15, Tryd.ntmps15
      go_wp2
      go_ret2
      exact HR.out
    · have h2 : n < pos := by rcases h with h | h | h <;> first | cases h | omega
      clear h
      go_enter Tryd.func15, Tryd.ntmps15
      go_wp2
      go_ret2
      exact HR.out
/-- what places answers, as Lacks uses it -/
def PlacesAns (V : World) (P : List Int) (e : Ending) (w' : World) : Prop := ∃ A c, e = .returned (.slice A P.length c) ∧ Since V w' ∧ ∀ i (h : i < P.length), ∃ b off, A = some ⟨b, off, none⟩ ∧ w'.cell? ⟨b, off + i, none⟩ = some (.int .i64 P[i])
set_option maxHeartbeats 1000000 in
set_option maxRecDepth 100000 in
theorem rLacksNo2 (root key : ByteArray) (n pos : Int) (P : List Int) (A1 A2 : Option Addr) (m1 c1 m2 c2 : Nat) (L : List (List UInt8)) (w : World) (h0 : 0 ≤ pos) (h1 : pos ≤ n) (h : m1 ≠ P.length ∨ m2 ≠ P.length)
    (HP : Hid (∀ W, Since w W → Calls Tryd.prog 37 #[.agg #[.int .i64 n, .int .i64 pos, .bool false, .slice A1 m1 c1, .slice A2 m2 c2]] W (PlacesAns W P))) :
    Calls Tryd.prog 15 #[.string root, .string key, .agg #[.int .i64 n, .int .i64 pos, .bool false, .slice A1 m1 c1, .slice A2 m2 c2]] w (TellPost w false L) := by
  have k0 := Blk.new w 28 #[.int .i64 n, .int .i64 pos, .bool false, .slice A1 m1 c1, .slice A2 m2 c2]
  have HV := Lib.hid (show Since w (w.alloc (.cells #[.int .i64 n, .int .i64 pos, .bool false, .slice A1 m1 c1, .slice A2 m2 c2] 28)) from since_of (by go_grown))
  have q3 := (k0.cell 3).trans (by rfl : _ = some (Value.slice A1 m1 c1))
  have q4 := (k0.cell 4).trans (by rfl : _ = some (Value.slice A2 m2 c2))
  have b1 : ¬ pos < 0 := by omega
  have b2 : ¬ n < pos := by omega
  clear k0
  by_cases h3 : m1 = P.length
  · have h4 : ((m2 : Int) != (P.length : Int)) = true := by rw [bne_iff_ne]; rcases h with h | h; exact absurd h3 h; omega
    have h5 : ((m1 : Int) != (P.length : Int)) = false := by rw [h3]; simp
    clear h h3
    go_enter Tryd.func15, Tryd.ntmps15
    go_wp2_with fail
    refine (HP.out _ HV.out).mono ?_
    rintro e w1 ⟨A, c, rfl, s1, _⟩
    have y3 := s1.cell q3
    have y4 := s1.cell q4
    have R := Lib.hid (tell_no (L := L) (step_below HV.out.below s1.below))
    clear q3 q4 HV HP s1
    go_wp2
    go_ret2
    exact R.out
  · have h5 : ((m1 : Int) != (P.length : Int)) = true := by rw [bne_iff_ne]; omega
    clear h h3
    go_enter Tryd.func15, Tryd.ntmps15
    go_wp2_with fail
    refine (HP.out _ HV.out).mono ?_
    rintro e w1 ⟨A, c, rfl, s1, _⟩
    have y3 := s1.cell q3
    have y4 := s1.cell q4
    have R := Lib.hid (tell_no (L := L) (step_below HV.out.below s1.below))
    clear q3 q4 HV HP s1
    go_wp2
    go_ret2
    exact R.out
set_option maxHeartbeats 4000000 in
set_option maxRecDepth 100000 in
theorem rLacksYes (root : List UInt8) (key : ByteArray) (n pos lo : Int) (P : List Int) (A1 A2 : Option Addr) (c1 c2 : Nat) (near : List KV) (paths : List (List (List UInt8))) (w : World) (h0 : 0 ≤ pos) (h1 : pos ≤ n)
    (hl1 : near.length = P.length) (hl2 : paths.length = P.length) (hP2 : P.length ≤ 2) (hPat : ∀ k (h : k < P.length), P[k] = lo + (k : Int)) (hbd : (nearTexts n lo near paths).length ≤ 10000000)
    (hc : ∀ k (h : k < near.length), ∃ b off, A1 = some ⟨b, off, none⟩ ∧ w.cell? ⟨b, off + k * 2, none⟩ = some (.string near[k].1) ∧ w.cell? ⟨b, off + k * 2 + 1, none⟩ = some (.string near[k].2))
    (hq : ∀ (k : Nat) q, paths[k]? = some q → ∃ b off u, A2 = some ⟨b, off, none⟩ ∧ w.cell? ⟨b, off + k, none⟩ = some u ∧
      ∀ (p : KV) (i : Int) W, Since w W → Calls Tryd.prog 36 #[.string (bs root), .agg #[.string p.1, .string p.2], .int .i64 n, .int .i64 i, u] W fun e w' => ∃ A m c, e = .returned (.tuple #[.bool (reach root p q i n), .slice A m c]) ∧ OwnStrs W.heap.size (.slice A m c) (bss (reachTexts p q i n)) W w')
    (HP : Hid (∀ W, Since w W → Calls Tryd.prog 37 #[.agg #[.int .i64 n, .int .i64 pos, .bool false, .slice A1 near.length c1, .slice A2 paths.length c2]] W (PlacesAns W P)))
    (HT : Hid (∀ W, Since w W → Calls Tryd.prog 38 #[.int .i64 0, .string ⟨#[]⟩] W fun e w' => e = .returned (.string (bs (topOf 0 []))) ∧ Since w w'))
    (HS : Hid (∀ W, Since w W → Calls Tryd.prog 39 #[.string (bs (topOf 0 []))] W fun e w' => e = .returned (.string (bs (shaOf (topOf 0 [])))) ∧ Since w w')) :
    Calls Tryd.prog 15 #[.string (bs root), .string key, .agg #[.int .i64 n, .int .i64 pos, .bool false, .slice A1 near.length c1, .slice A2 paths.length c2]] w (TellPost w (nearOk root key pos n lo near paths && (decide (0 < n) || decide (root = shaOf (topOf 0 [])))) (if n = 0 then [topOf 0 []] else nearTexts n lo near paths)) := by
  obtain ⟨r, hr⟩ : ∃ r, r = (nearOk root key pos n lo near paths && (decide (0 < n) || decide (root = shaOf (topOf 0 [])))) := ⟨_, rfl⟩
  obtain ⟨LL, hLL⟩ : ∃ LL, LL = (if n = 0 then [topOf 0 []] else nearTexts n lo near paths) := ⟨_, rfl⟩
  rw [← hr, ← hLL]
  have HR := Lib.hid hr
  have HLL := Lib.hid hLL
  have HC := Lib.hid hc
  have HQ := Lib.hid hq
  have HV := Lib.hid (show Since w (w.alloc (.cells #[.int .i64 n, .int .i64 pos, .bool false, .slice A1 near.length c1, .slice A2 paths.length c2] 28)) from since_of (by go_grown))
  have k0 := Blk.new w 28 #[.int .i64 n, .int .i64 pos, .bool false, .slice A1 near.length c1, .slice A2 paths.length c2]
  have q0 := (k0.cell 0).trans (by rfl : _ = some (Value.int .i64 n))
  have q1 := (k0.cell 1).trans (by rfl : _ = some (Value.int .i64 pos))
  have q3 := (k0.cell 3).trans (by rfl : _ = some (Value.slice A1 near.length c1))
  have q4 := (k0.cell 4).trans (by rfl : _ = some (Value.slice A2 paths.length c2))
  have b1 : ¬ pos < 0 := by omega
  have b2 : ¬ n < pos := by omega
  have h4 : ((paths.length : Int) != (P.length : Int)) = false := by rw [hl2]; simp
  have h5 : ((near.length : Int) != (P.length : Int)) = false := by rw [hl1]; simp
  have HL := Lib.hid (show near.length = P.length ∧ paths.length = P.length ∧ P.length ≤ 2 from ⟨hl1, hl2, hP2⟩)
  have HPA := Lib.hid hPat
  have HBD := Lib.hid hbd
  clear hr hLL hc hq k0 hl1 hl2 hPat hbd hP2
  go_enter Tryd.func15, Tryd.ntmps15
  go_wp2_with fail
  refine (HP.out _ HV.out).mono ?_
  rintro e V ⟨Ap, cp, rfl, sV, hpc⟩
  have y0 := sV.cell q0
  have y1 := sV.cell q1
  have y3 := sV.cell q3
  have y4 := sV.cell q4
  have HW := Lib.hid (show Since w V from since_of (step_below HV.out.below sV.below))
  have HPC := Lib.hid hpc
  clear q0 q1 q3 q4 HV HP sV hpc
  go_wp2
  go_loopw [9, 10, 11, 12, 13] (fun s i _ _ _ wr => ∃ (k : Nat) (A : Option Addr) (m c : Nat) (L : List (List UInt8)), k ≤ P.length ∧ i = .int .i64 k ∧ s = .slice A m c ∧ Hid (nearOk root key pos n lo near paths = nearOk root key pos n (lo + k) (near.drop k) (paths.drop k) ∧ nearTexts n lo near paths = L ++ nearTexts n (lo + k) (near.drop k) (paths.drop k)) ∧ Hid (OwnStrs V.heap.size (.slice A m c) (bss L) V wr)) (fun _ i _ _ _ _ => P.length - (intOf i).toNat)
  case atStart => exact ⟨0, none, 0, 0, [], Nat.zero_le _, rfl, rfl, Lib.hid ⟨by rw [Int.natCast_zero, Int.add_zero, List.drop_zero, List.drop_zero], by rw [Int.natCast_zero, Int.add_zero, List.drop_zero, List.drop_zero]; rfl⟩, Lib.hid (OwnStrs_nil V)⟩
  case round =>
    obtain ⟨k, A, m, c, L, hk, rfl, rfl, HI, HO⟩ := hrel
    have hS : Since V wr := since_of HO.out.below
    by_cases hlt : k < P.length
    · have hlt1 : k < near.length := by have := HL.out; omega
      have hlt2 : k < paths.length := by have := HL.out; omega
      obtain ⟨g0, o0, rfl, d0⟩ := HPC.out k hlt
      obtain ⟨g1, o1, rfl, d1, d2⟩ := HC.out k hlt1
      obtain ⟨g2, o2, u, rfl, d3, H⟩ := HQ.out k _ (List.getElem?_eq_getElem hlt2)
      rw [HPA.out k hlt] at d0
      have HSS := Lib.hid (show Since w wr from since_of (step_below HW.out.below hS.below))
      have z0 := hS.cell d0
      have z1 := HSS.out.cell d1
      have z2 := HSS.out.cell d2
      have z3 := HSS.out.cell d3
      have x0 := hS.cell y0
      have x1 := hS.cell y1
      have x3 := hS.cell y3
      have x4 := hS.cell y4
      have HE := Lib.hid (HI.out.1.trans (nearOk_cons (root := root) (key := key) (pos := pos) (n := n) (i := lo) hlt1 hlt2))
      have HE2 := Lib.hid (HI.out.2.trans (by rw [nearTexts_cons hlt1 hlt2]))
      have HSD := Lib.hid (side_cases key pos (lo + k) near[k])
      have HRE := Lib.hid (H near[k] (lo + k))
      have i0 : (0 : Int) ≤ (k : Int) := by omega
      have i1 : (k : Int) < (near.length : Int) := by omega
      have i2 : (k : Int) < (paths.length : Int) := by omega
      have i3 : (k : Int) < (P.length : Int) := by omega
      have HI2 := Lib.hid (show (k : Int) ≤ 1 by have := HL.out; omega)
      have hless := less_str near[k].1 key
      have heq := eq_str near[k].1 key
      generalize reach root near[k] paths[k] (lo + k) n = re at *
      generalize reachTexts near[k] paths[k] (lo + k) n = more at *
      obtain ⟨p, hp⟩ : ∃ p, p = near[k] := ⟨_, rfl⟩
      rw [← hp] at z1 z2 HE HSD HRE hless heq
      obtain ⟨p1, p2⟩ := p
      simp only at z1 z2 HSD HRE hless heq
      generalize hci : lo + (k : Int) = ci at *
      clear d0 d1 d2 d3 H hp HI
      rcases HSD.out with ⟨s1, s2, s3⟩ | ⟨s1, s2, s3⟩ | ⟨s1, s2, s3⟩ | ⟨s1, s2, s3⟩
      · rw [decide_eq_true s2] at hless
        clear heq
        rw [s3] at HE
        clear s2
        have rr := HSS.out
        clear HSD
        cases re with
        | false =>
          have h3 : r = false := by rw [HR.out, HE.out]; simp
          subst h3
          clear HR HE HE2 HI2 HLL
          go_wp2
          go_region
          go_wp2
          go_region_held3 (fun W => W.cell? ⟨w.heap.size, 0, none⟩ = some (.int .i64 n) ∧ W.cell? ⟨w.heap.size, 3, none⟩ = some (.slice (some ⟨g1, o1, none⟩) near.length c1) ∧ W.cell? ⟨w.heap.size, 4, none⟩ = some (.slice (some ⟨g2, o2, none⟩) paths.length c2) ∧ W.cell? ⟨g0, o0 + k, none⟩ = some (.int .i64 ci) ∧ W.cell? ⟨g1, o1 + k * 2, none⟩ = some (.string p1) ∧ W.cell? ⟨g1, o1 + k * 2 + 1, none⟩ = some (.string p2) ∧ W.cell? ⟨g2, o2 + k, none⟩ = some u)
            (first | exact ⟨(since_of o5.below).cell x0, (since_of o5.below).cell x3, (since_of o5.below).cell x4, (since_of o5.below).cell z0, (since_of o5.below).cell z1, (since_of o5.below).cell z2, (since_of o5.below).cell z3⟩ | go_keep)
            (first | (go_at_call 36; refine (HRE.out _ (by exact rr)).mono ?_; clear HRE; rintro en w5 ⟨A5, m5, c5, rfl, o5⟩))
          all_goals go_wp2
          all_goals go_ret2
          all_goals exact tell_no (step_below (Below.drewN (Below.drewN HSS.out.below 1) 1) o5.below)
        | true =>
          have hk9 := HI2.out
          have HE3 := Lib.hid (show nearOk root key pos n lo near paths = nearOk root key pos n (lo + ((k + 1 : Nat) : Int)) (near.drop (k + 1)) (paths.drop (k + 1)) by rw [HE.out]; simp)
          have HE4 := Lib.hid (show nearTexts n lo near paths = (L ++ more) ++ nearTexts n (lo + ((k + 1 : Nat) : Int)) (near.drop (k + 1)) (paths.drop (k + 1)) by rw [HE2.out, List.append_assoc])
          have HLN := Lib.hid (show (bss L).length + (bss more).length ≤ 1000000000 by have h := congrArg List.length HE4.out; rw [List.length_append, List.length_append] at h; have := HBD.out; rw [bss_len, bss_len]; omega)
          clear HE HE2
          go_wp2
          go_region
          go_wp2
          go_region_held3 (fun W => W.cell? ⟨w.heap.size, 0, none⟩ = some (.int .i64 n) ∧ W.cell? ⟨w.heap.size, 3, none⟩ = some (.slice (some ⟨g1, o1, none⟩) near.length c1) ∧ W.cell? ⟨w.heap.size, 4, none⟩ = some (.slice (some ⟨g2, o2, none⟩) paths.length c2) ∧ W.cell? ⟨g0, o0 + k, none⟩ = some (.int .i64 ci) ∧ W.cell? ⟨g1, o1 + k * 2, none⟩ = some (.string p1) ∧ W.cell? ⟨g1, o1 + k * 2 + 1, none⟩ = some (.string p2) ∧ W.cell? ⟨g2, o2 + k, none⟩ = some u)
            (first | exact ⟨(since_of o5.below).cell x0, (since_of o5.below).cell x3, (since_of o5.below).cell x4, (since_of o5.below).cell z0, (since_of o5.below).cell z1, (since_of o5.below).cell z2, (since_of o5.below).cell z3⟩ | go_keep)
            (first | (go_at_call 36; refine (HRE.out _ (by exact rr)).mono ?_; clear HRE; rintro en w5 ⟨A5, m5, c5, rfl, o5⟩))
          all_goals have OA := Lib.hid ((HO.out.after (Below.drewN (Below.drewN (Below.refl _ _) 1) 1)).after o5.below)
          all_goals have OB := Lib.hid o5
          all_goals clear o5
          all_goals go_wp2_with (at_builtin; refine wpList_append_txs _ rfl _ _ rfl V.heap.size _ (.slice A m c) (.slice A5 m5 c5) (bss L) (bss more) rfl rfl V OA.out OB.out.txs HLN.out ?_; intro v7 w7 o7 g7; rw [← bss_append] at o7; obtain ⟨A7, c7, rfl⟩ := own_sl o7; have O7 := Lib.hid o7; clear o7 g7 OA OB)
          all_goals go_roundw
          case rel => exact ⟨k + 1, A7, _, c7, L ++ more, by omega, by go_num, rfl, Lib.hid ⟨HE3.out, HE4.out⟩, Lib.hid (by have h := O7.out; rwa [List.length_append] at h)⟩
          case measure => simp [intOf]; omega
      · rw [decide_eq_false s2] at hless
        clear heq
        rw [s3] at HE
        clear s2
        have h3 : r = false := by rw [HR.out, HE.out]; simp
        subst h3
        clear HR HE HE2 HSD HRE HI2 HLL
        have HF := Lib.hid (tell_no (L := LL) (Below.drewN HSS.out.below 1))
        go_wp2
        go_region
        go_wp2
        go_ret2
        exact HF.out
      · rw [decide_eq_false (by rw [s2]; decide)] at hless
        rw [decide_eq_false (by rw [s2]; decide)] at heq
        rw [s3] at HE
        clear s2
        have rr := HSS.out
        clear HSD
        cases re with
        | false =>
          have h3 : r = false := by rw [HR.out, HE.out]; simp
          subst h3
          clear HR HE HE2 HI2 HLL
          go_wp2
          go_region
          go_wp2
          go_region_held3 (fun W => W.cell? ⟨w.heap.size, 0, none⟩ = some (.int .i64 n) ∧ W.cell? ⟨w.heap.size, 3, none⟩ = some (.slice (some ⟨g1, o1, none⟩) near.length c1) ∧ W.cell? ⟨w.heap.size, 4, none⟩ = some (.slice (some ⟨g2, o2, none⟩) paths.length c2) ∧ W.cell? ⟨g0, o0 + k, none⟩ = some (.int .i64 ci) ∧ W.cell? ⟨g1, o1 + k * 2, none⟩ = some (.string p1) ∧ W.cell? ⟨g1, o1 + k * 2 + 1, none⟩ = some (.string p2) ∧ W.cell? ⟨g2, o2 + k, none⟩ = some u)
            (first | exact ⟨(since_of o5.below).cell x0, (since_of o5.below).cell x3, (since_of o5.below).cell x4, (since_of o5.below).cell z0, (since_of o5.below).cell z1, (since_of o5.below).cell z2, (since_of o5.below).cell z3⟩ | go_keep)
            (first | (go_at_call 36; refine (HRE.out _ (by exact rr)).mono ?_; clear HRE; rintro en w5 ⟨A5, m5, c5, rfl, o5⟩))
          all_goals go_wp2
          all_goals go_ret2
          all_goals exact tell_no (step_below (Below.drewN (Below.drewN HSS.out.below 1) 1) o5.below)
        | true =>
          have hk9 := HI2.out
          have HE3 := Lib.hid (show nearOk root key pos n lo near paths = nearOk root key pos n (lo + ((k + 1 : Nat) : Int)) (near.drop (k + 1)) (paths.drop (k + 1)) by rw [HE.out]; simp)
          have HE4 := Lib.hid (show nearTexts n lo near paths = (L ++ more) ++ nearTexts n (lo + ((k + 1 : Nat) : Int)) (near.drop (k + 1)) (paths.drop (k + 1)) by rw [HE2.out, List.append_assoc])
          have HLN := Lib.hid (show (bss L).length + (bss more).length ≤ 1000000000 by have h := congrArg List.length HE4.out; rw [List.length_append, List.length_append] at h; have := HBD.out; rw [bss_len, bss_len]; omega)
          clear HE HE2
          go_wp2
          go_region
          go_wp2
          go_region_held3 (fun W => W.cell? ⟨w.heap.size, 0, none⟩ = some (.int .i64 n) ∧ W.cell? ⟨w.heap.size, 3, none⟩ = some (.slice (some ⟨g1, o1, none⟩) near.length c1) ∧ W.cell? ⟨w.heap.size, 4, none⟩ = some (.slice (some ⟨g2, o2, none⟩) paths.length c2) ∧ W.cell? ⟨g0, o0 + k, none⟩ = some (.int .i64 ci) ∧ W.cell? ⟨g1, o1 + k * 2, none⟩ = some (.string p1) ∧ W.cell? ⟨g1, o1 + k * 2 + 1, none⟩ = some (.string p2) ∧ W.cell? ⟨g2, o2 + k, none⟩ = some u)
            (first | exact ⟨(since_of o5.below).cell x0, (since_of o5.below).cell x3, (since_of o5.below).cell x4, (since_of o5.below).cell z0, (since_of o5.below).cell z1, (since_of o5.below).cell z2, (since_of o5.below).cell z3⟩ | go_keep)
            (first | (go_at_call 36; refine (HRE.out _ (by exact rr)).mono ?_; clear HRE; rintro en w5 ⟨A5, m5, c5, rfl, o5⟩))
          all_goals have OA := Lib.hid ((HO.out.after (Below.drewN (Below.drewN (Below.refl _ _) 1) 1)).after o5.below)
          all_goals have OB := Lib.hid o5
          all_goals clear o5
          all_goals go_wp2_with (at_builtin; refine wpList_append_txs _ rfl _ _ rfl V.heap.size _ (.slice A m c) (.slice A5 m5 c5) (bss L) (bss more) rfl rfl V OA.out OB.out.txs HLN.out ?_; intro v7 w7 o7 g7; rw [← bss_append] at o7; obtain ⟨A7, c7, rfl⟩ := own_sl o7; have O7 := Lib.hid o7; clear o7 g7 OA OB)
          all_goals go_roundw
          case rel => exact ⟨k + 1, A7, _, c7, L ++ more, by omega, by go_num, rfl, Lib.hid ⟨HE3.out, HE4.out⟩, Lib.hid (by have h := O7.out; rwa [List.length_append] at h)⟩
          case measure => simp [intOf]; omega
      · rcases kc_cases p1 key with h6 | h6 | h6
        · rw [decide_eq_true h6] at hless
          clear heq
          rw [s3] at HE
          clear s2
          have h3 : r = false := by rw [HR.out, HE.out]; simp
          subst h3
          clear HR HE HE2 HSD HRE HI2 HLL
          have HF := Lib.hid (tell_no (L := LL) (Below.drewN HSS.out.below 1))
          go_wp2
          go_region
          go_wp2
          go_ret2
          exact HF.out
        · rw [decide_eq_false (by rw [h6]; decide)] at hless
          rw [decide_eq_true h6] at heq
          rw [s3] at HE
          clear s2
          have h3 : r = false := by rw [HR.out, HE.out]; simp
          subst h3
          clear HR HE HE2 HSD HRE HI2 HLL
          have HF := Lib.hid (tell_no (L := LL) (Below.drewN HSS.out.below 1))
          go_wp2
          go_region
          go_wp2
          go_ret2
          exact HF.out
        · exact absurd h6 s2
    · obtain rfl : k = P.length := by omega
      have hall : nearOk root key pos n lo near paths = true := by
        rw [HI.out.1, List.drop_eq_nil_of_le (by have := HL.out; omega)]
        cases paths.drop P.length <;> rfl
      have htx : nearTexts n lo near paths = L := by
        have h := HI.out.2
        rw [List.drop_eq_nil_of_le (by have := HL.out; omega)] at h
        have e : ∀ i qs, nearTexts n i [] qs = [] := by intro i qs; unfold nearTexts; rfl
        rw [e, List.append_nil] at h
        exact h
      have HSS := Lib.hid (show Since w wr from since_of (step_below HW.out.below hS.below))
      have x0 := hS.cell y0
      have HR2 := Lib.hid (HR.out.trans (show _ = (decide (0 < n) || decide (root = shaOf (topOf 0 []))) by rw [hall, Bool.true_and]))
      have HL2 := Lib.hid (HLL.out.trans (show _ = (if n = 0 then [topOf 0 []] else L) by rw [htx]))
      have HO2 := Lib.hid (OwnStrs.from HW.out.below HO.out)
      clear HI hall htx HR HLL HC HQ HL HPA HBD HPC HO HW
      by_cases h6 : 0 < n
      · have h3 : r = true := by rw [HR2.out, decide_eq_true h6]; rfl
        have h7 : LL = L := by rw [HL2.out, if_neg (by omega)]
        have hn0 : (n == 0) = false := beq_eq_false_iff_ne.2 (by omega)
        subst h3 h7
        clear HR2 HL2
        go_wp2
        go_ret2
        exact ⟨_, _, rfl, HO2.out, fun _ => rfl⟩
      · have h8 : decide (0 < n) = false := decide_eq_false h6
        have hr2 := HR2.out
        obtain rfl : n = 0 := by omega
        have h7 : LL = [topOf 0 []] := by rw [HL2.out, if_pos rfl]
        rw [h8, Bool.false_or] at hr2
        subst h7
        clear HR2 h8 HL2 HO2
        generalize shaOf (topOf 0 []) = y at *
        generalize topOf 0 [] = z at *
        go_wp2_with fail
        refine (HT.out _ HSS.out).mono ?_
        rintro en w5 ⟨rfl, s5⟩
        have S5 := Lib.hid s5
        clear HT s5
        go_wp2_with fail
        refine (HS.out _ S5.out).mono ?_
        rintro en w6 ⟨rfl, s6⟩
        have HF := Lib.hid (show ∀ b, TellPost w b [z] (.returned (.tuple #[.bool b, .slice (some ⟨w6.heap.size, 0, none⟩) 1 1])) (w6.alloc (.cells #[.string (bs z)] 9)) from fun b => ⟨_, [z], rfl, own_one s6.below (bs z), fun _ => rfl⟩)
        clear HS S5 s6
        by_cases h9 : root = y
        · have h3 : r = true := by rw [hr2, decide_eq_true h9]
          subst h3 h9
          clear hr2
          go_wp2
          go_ret2
          exact HF.out _
        · have h3 : r = false := by rw [hr2, decide_eq_false h9]
          subst h3
          have hne := str_ne (bs_ne (Ne.symm h9))
          clear hr2 h9
          go_wp2
          go_ret2
          exact HF.out _
theorem rLacksC (root : List UInt8) (key : ByteArray) (x : Pf) (v : Value) (w : World) (hP : Prf w v x) (hI : PfIn x) (hz : x.near.length ≤ 2 → x.paths.length ≤ 2 → ∀ q ∈ x.paths, q.length ≤ 1000000 ∧ ∀ y ∈ q, y.length ≤ 1000) :
    Calls Tryd.prog 15 #[.string (bs root), .string key, v] w (TellPost w (lacksP root key x) (lacksTexts x)) := by
  have hcount := plOf_count x
  have hlen := plOf_len x.pos x.n
  have hat := plOf_at (x := x)
  have hi := hI
  obtain ⟨n0, n1, p0, p1, _, _⟩ := hi
  clear hI
  obtain ⟨n, pos, there, near, paths⟩ := x
  obtain ⟨nv, pv, rfl, ⟨A1, c1, rfl, _, hc1⟩, ⟨A2, c2, rfl, _, hc⟩⟩ := hP
  simp only at hz hc hc1 hcount hlen hat n0 n1 p0 p1 ⊢
  have HPl : Hid (∀ W, Since w W → Calls Tryd.prog 37 #[.agg #[.int .i64 n, .int .i64 pos, .bool there, .slice A1 near.length c1, .slice A2 paths.length c2]] W (PlacesAns W (plOf pos n))) :=
    Lib.hid fun W _ => (placesC n pos there A1 A2 near.length c1 paths.length c2 W p0 p1).mono fun e w' ⟨v, he, ho⟩ => by
      obtain ⟨A, c, rfl, h⟩ := ho.ints
      exact ⟨A, c, he, since_of ho.below, h⟩
  by_cases h1 : there = true ∨ pos < 0 ∨ n < pos
  · have e : lacksP root key ⟨n, pos, there, near, paths⟩ = false := by
      unfold lacksP
      rw [decide_eq_false, Bool.false_and, Bool.false_and]
      rintro ⟨f1, f2, f3, _, _⟩
      simp only at f1 f2 f3
      rcases h1 with h | h | h
      · rw [f1] at h; cases h
      · omega
      · omega
    rw [e]
    exact rLacksNo1 _ _ n pos there _ _ _ w h1
  · have h2 : there = false := by cases there with
      | false => rfl
      | true => exact absurd (.inl rfl) h1
    subst h2
    have h3 : 0 ≤ pos := by by_cases h : pos < 0; exact absurd (.inr (.inl h)) h1; omega
    have h4 : pos ≤ n := by by_cases h : n < pos; exact absurd (.inr (.inr h)) h1; omega
    by_cases hF : near.length = (plOf pos n).length ∧ paths.length = (plOf pos n).length
    · have hfit : Fits ⟨n, pos, false, near, paths⟩ := ⟨rfl, h3, h4, by simp only; rw [← hcount]; omega, by simp only; rw [← hcount]; omega⟩
      have e : lacksP root key ⟨n, pos, false, near, paths⟩ = (nearOk root key pos n (loI ⟨n, pos, false, near, paths⟩) near paths && (decide (0 < n) || decide (root = shaOf (topOf 0 [])))) := by
        unfold lacksP
        rw [decide_eq_true hfit, Bool.true_and]
      rw [e]
      have hq := hz (by omega) (by omega)
      have hb := near_bound 1000000 n near paths (loI ⟨n, pos, false, near, paths⟩) hq
      exact rLacksYes root key n pos _ (plOf pos n) A1 A2 c1 c2 near paths w h3 h4 hF.1 hF.2 hlen (fun k h => hat h4 k h) (by have := hb.1; have : near.length * (1000000 + 2) ≤ 2 * (1000000 + 2) := Nat.mul_le_mul_right _ (by omega); omega) hc1
        (fun k q hk => by
          obtain ⟨b, off, u, rfl, d, hT, hR⟩ := hc k q hk
          have h5 := hq q (List.mem_of_getElem? hk)
          exact ⟨b, off, u, rfl, d, fun p i W hW => (leadsC root p q u i n W ((hT.below hW.below).more hW.2.2.2.1) hR n1 h5.1 h5.2).mono fun e w' ⟨v, he, ho⟩ => by
            obtain ⟨A, c, rfl⟩ := own_sl ho
            exact ⟨A, _, c, he, ho⟩⟩)
        HPl
        (Lib.hid fun W hW => (rTopC 0 [] W (by simp)).mono fun e w' ⟨he, hb⟩ => ⟨he, since_of (step_below hW.below hb)⟩)
        (Lib.hid fun W hW => (rShaC (topOf 0 []) _ (Lib.hid rfl) W (by have := topOf_len 0 []; simp at this; omega)).mono fun e w' ⟨he, hb⟩ => ⟨he, since_of (step_below hW.below hb)⟩)
    · have e : lacksP root key ⟨n, pos, false, near, paths⟩ = false := by
        unfold lacksP
        rw [decide_eq_false, Bool.false_and, Bool.false_and]
        rintro ⟨_, _, _, f4, f5⟩
        simp only at f4 f5
        rw [← hcount] at f4 f5
        exact hF ⟨by omega, by omega⟩
      rw [e]
      refine rLacksNo2 _ _ n pos (plOf pos n) A1 A2 _ c1 _ c2 _ w h3 h4 ?_ HPl
      by_cases h5 : near.length = (plOf pos n).length
      · exact .inr fun h6 => hF ⟨h5, h6⟩
      · exact .inl h5
end Go.Proofs.YtkinnlfjcmhcoaaDoor.W
