/-
  The reference's hidden, Join and Number.
-/
import Derived.Test.YtjmbbkjepgahgaaDoorPProg
namespace Go.Proofs.YtjmbbkjepgahgaaDoor.W
open Go.RowKit

theorem esc_app : ∀ (a b : List UInt8), esc (a ++ b) = esc a ++ esc b
  | [], b => rfl
  | c :: a, b => by
    simp only [List.cons_append, esc, esc_app a b]
    split
    · rfl
    · split <;> rfl
def HRel (s : ByteArray) (w : World) (k : Nat) (v : Value) (wr : World) : Prop :=
  Lib.OwnBuf w.heap.size 5 v (esc (s.data.toList.take k)).length (cells (esc (s.data.toList.take k))) w wr
theorem HRel.step {s : ByteArray} {w : World} {k : Nat} (hk : k < s.size) {v : Value} {wr : World} {l : List UInt8} (hl : esc [s[k]] = l) {n : Nat} (hn : n = l.length) {xs : List Value} (hx : xs = cells l)
    (h : Lib.OwnBuf w.heap.size 5 v ((esc (s.data.toList.take k)).length + n) (cells (esc (s.data.toList.take k)) ++ xs) w wr) : HRel s w (k + 1) v wr := by
  subst hn hx
  unfold HRel
  rw [take_snoc s k hk, esc_app, hl, List.length_append, cells_append]
  exact h
theorem esc_take_len (s : ByteArray) (k : Nat) : (esc (s.data.toList.take k)).length ≤ 2 * s.size := by
  have h1 := esc_len (s.data.toList.take k)
  have h2 : (s.data.toList.take k).length ≤ s.size := by rw [List.length_take, size_list]; omega
  omega
theorem u8_eq {b : UInt8} {n : Nat} (h : b.toNat = n) : b = UInt8.ofNat n := by rw [← h, ofNat_toNat]

set_option maxHeartbeats 2000000 in
set_option maxRecDepth 100000 in
theorem rHidden (s : ByteArray) (w : World) (hs : s.size ≤ 100000000) :
    Calls Tryd.prog 19 #[.string s] w fun e w' => e = .returned (.string (bs (esc s.data.toList))) ∧ Below w.heap.size w w' := by
  obtain ⟨i0, hi, hz0, hz1, hz2⟩ := info_parts infoU8
  go_enter Tryd.func19, Tryd.ntmps19
  go_wp2
  go_loopw [3, 4] (fun v i wr => ∃ k : Nat, k ≤ s.size ∧ i = .int .i64 k ∧ HRel s w k v wr) (fun _ i _ => s.size - (intOf i).toNat)
  case atStart => exact ⟨0, Nat.zero_le _, rfl, OwnBuf_nil w _⟩
  case round =>
    obtain ⟨k, hk, rfl, hown⟩ := hrel
    have hl := esc_take_len s k
    by_cases hlt : k < s.size
    · have HST := Lib.hid (fun v wr l (e : esc [s[k]] = l) n (hn : n = l.length) xs (hx : xs = cells l) h => @HRel.step s w k hlt v wr l e n hn xs hx h)
      unfold HRel at hown
      generalize cells (esc (s.data.toList.take k)) = xs at *
      generalize (esc (s.data.toList.take k)).length = n at *
      have hb := s[k].toNat_lt
      have hki : (k : Int) < (s.size : Int) := by omega
      by_cases h1 : s[k] = 37
      · have q1 : ((s[k].toNat : Int) == 37) = true := by rw [h1]; rfl
        have HE := Lib.hid (show esc [s[k]] = [37, 112] by rw [h1]; rfl)
        clear h1
        go_wp2_with (at_builtin; go_must (refine wpList_append_two rfl _ _ 43 rfl w.heap.size 5 i0 Tryd.underlying43 hi hz0 hz1 hz2 u3 n xs rfl w wr _ _ hown rfl (by omega) ?_))
        intro v1 w1 h1
        have R := HST.out v1 w1 [37, 112] HE.out 2 rfl _ rfl h1
        clear hown h1 HST
        go_wp2
        go_roundw
        case rel => exact ⟨k + 1, by omega, by go_num, R⟩
        case measure => simp [intOf]; omega
      · have n1 : ((s[k].toNat : Int) == 37) = false := by rw [beq_eq_false_iff_ne]; exact fun e => h1 (u8_eq (n := 37) (by omega))
        by_cases h2 : s[k] = 47
        · have q2 : ((s[k].toNat : Int) == 47) = true := by rw [h2]; rfl
          have HE := Lib.hid (show esc [s[k]] = [37, 115] by rw [h2]; rfl)
          clear h1 h2
          go_wp2_with (at_builtin; go_must (refine wpList_append_two rfl _ _ 43 rfl w.heap.size 5 i0 Tryd.underlying43 hi hz0 hz1 hz2 u3 n xs rfl w wr _ _ hown rfl (by omega) ?_))
          intro v1 w1 h1
          have R := HST.out v1 w1 [37, 115] HE.out 2 rfl _ rfl h1
          clear hown h1 HST
          go_wp2
          go_roundw
          case rel => exact ⟨k + 1, by omega, by go_num, R⟩
          case measure => simp [intOf]; omega
        · have n2 : ((s[k].toNat : Int) == 47) = false := by rw [beq_eq_false_iff_ne]; exact fun e => h2 (u8_eq (n := 47) (by omega))
          have HE := Lib.hid (show esc [s[k]] = [s[k]] by rw [esc, if_neg h1, if_neg h2]; rfl)
          clear h1 h2
          go_wp2_with (at_builtin; go_must (refine Lib.wpList_append_byte rfl _ _ 43 rfl w.heap.size 5 i0 Tryd.underlying43 hi hz0 hz1 hz2 u3 n xs rfl w wr _ hown rfl (by omega) ?_))
          intro v1 w1 h1
          have R := HST.out v1 w1 [s[k]] HE.out 1 rfl _ rfl h1
          clear hown h1 HST
          go_wp2
          go_roundw
          case rel => exact ⟨k + 1, by omega, by go_num, R⟩
          case measure => simp [intOf]; omega
    · obtain rfl : k = s.size := by omega
      unfold HRel at hown
      rw [← size_list, List.take_length] at hown
      have hcv := run_string _ _ _ _ _ hown
      have hbel := hown.2.1
      clear hown
      go_wp2
      go_ret
      exact ⟨rfl, hbel⟩

/-- the key of a word and the first k parts -/
def kpre (wd : ByteArray) (ps : List ByteArray) (k : Nat) : List UInt8 := keyOf wd (ps.take k)
theorem glue_snoc : ∀ (r : List (List UInt8)) (x y : List UInt8), glue x (r ++ [y]) = glue x r ++ 47 :: y
  | [], x, y => rfl
  | z :: r, x, y => by rw [List.cons_append, glue, glue_snoc r z y, glue]; simp
theorem kpre_succ (wd : ByteArray) (ps : List ByteArray) (k : Nat) (h : k < ps.length) : kpre wd ps k ++ [47] ++ esc ps[k].data.toList = kpre wd ps (k + 1) := by
  unfold kpre keyOf key
  rw [List.take_succ_eq_append_getElem h, List.map_append, List.map_append, List.map_cons, List.map_nil, List.map_cons, List.map_nil, glue_snoc]
  simp
theorem sum_take : ∀ (ps : List ByteArray) (k : Nat), ((ps.take k).map ByteArray.size).sum ≤ (ps.map ByteArray.size).sum
  | [], k => by simp
  | p :: ps, 0 => by simp
  | p :: ps, k + 1 => by have := sum_take ps k; simp only [List.take_succ_cons, List.map_cons, List.sum_cons]; omega
theorem kpre_len (wd : ByteArray) (ps : List ByteArray) (k : Nat) : (kpre wd ps k).length ≤ 2 * tot wd ps := by
  have h1 := keyOf_len wd (ps.take k)
  have h2 := sum_take ps k
  have h3 : (ps.take k).length ≤ ps.length := by rw [List.length_take]; omega
  unfold kpre
  unfold tot at h1 ⊢
  omega

set_option maxHeartbeats 2000000 in
set_option maxRecDepth 100000 in
theorem rJoin (wd : ByteArray) (v : Value) (ps : List ByteArray) (w : World) (hT : Txs w w.heap.size v ps) (ht : tot wd ps ≤ 10000000) :
    Calls Tryd.prog 10 #[.string wd, v] w fun e w' => e = .returned (.string (bs (keyOf wd ps))) ∧ Below w.heap.size w w' := by
  have hbig : ps.length ≤ 10000000 := by unfold tot at ht; omega
  have H1 := Lib.hid (fun w => rHidden wd w (by unfold tot at ht; omega))
  have H2 := Lib.hid (fun k (h : k < ps.length) w => rHidden ps[k] w (by have := le_sum (List.getElem_mem h); unfold tot at ht; omega))
  have HS := Lib.hid (fun k (h : k < ps.length) => show ps[k].size ≤ 10000000 by have := le_sum (List.getElem_mem h); unfold tot at ht; omega)
  have HT := Lib.hid ht
  clear ht
  obtain ⟨A, c, rfl, hc⟩ := hT
  have HC := Lib.hid hc
  clear hc
  go_enter Tryd.func10, Tryd.ntmps10
  go_wp2_with fail
  refine (H1.out w).mono ?_
  rintro e w1 ⟨rfl, b1⟩
  go_wp2
  go_loopw [5, 6] (fun v i wr => ∃ k : Nat, k ≤ ps.length ∧ i = .int .i64 k ∧ v = .string (bs (kpre wd ps k)) ∧ Below w.heap.size w wr) (fun _ i _ => ps.length - (intOf i).toNat)
  case atStart => exact ⟨0, Nat.zero_le _, rfl, rfl, b1⟩
  case round =>
    obtain ⟨k, hk, rfl, rfl, hbel⟩ := hrel
    by_cases hlt : k < ps.length
    · obtain ⟨b, off, rfl, hb, hcell⟩ := HC.out k hlt
      have c1 : wr.cell? ⟨b, off + k, none⟩ = some (.string ps[k]) := (hbel.cell (p := ⟨b, off + k, none⟩) hb).trans hcell
      have hi1 : (k : Int) < (ps.length : Int) := by omega
      have HX := Lib.hid (H2.out k hlt wr)
      have HF := Lib.hid (kpre_succ wd ps k hlt)
      have hl1 := kpre_len wd ps k
      have hl2 := esc_len ps[k].data.toList
      have hl3 := HS.out k hlt
      rw [size_list] at hl2
      have ht := HT.out
      have hadd1 : ∀ W, (Op.stringOp .add (bs (kpre wd ps k)) ⟨#[47]⟩).run Tryd.prog W = .ok (.string (bs (kpre wd ps k ++ [47]))) W := fun W => run_add W (kpre wd ps k) [47] (by simp; omega)
      have hadd2 := fun W => run_add W (kpre wd ps k ++ [47]) (esc ps[k].data.toList) (by simp; omega)
      generalize esc ps[k].data.toList = z at *
      generalize ps[k] = p at *
      clear hcell hl1 hl2 ht hl3
      go_wp2_with fail
      refine HX.out.mono ?_
      rintro e w2 ⟨rfl, b2⟩
      have b3 := step_below hbel b2
      go_wp2
      go_roundw
      case rel => exact ⟨k + 1, by omega, by go_num, by rw [← HF.out]; simp, b3⟩
      case measure => simp [intOf]; omega
    · obtain rfl : k = ps.length := by omega
      have HE := Lib.hid (show kpre wd ps ps.length = keyOf wd ps by rw [kpre, List.take_length])
      go_wp2
      go_ret
      exact ⟨by rw [HE.out]; rfl, hbel⟩
end Go.Proofs.YtjmbbkjepgahgaaDoor.W
