/-
  The reference of pairs: at, Get.
-/
import Derived.Test.YtpjndgcliegloaaTPrs
import Derived.Test.YtpjndgcliegloaaTIter
import Derived.Test.YtpjndgcliegloaaTGet
import Derived.Deep.LoopGhost
namespace Go.Proofs.Ytpjndgcliegloaa.W
open Go.RowKit

/-- where a key stands, or would -/
def latN (l : List KV) (k : ByteArray) : Nat := (l.takeWhile fun x => decide (kc x.1 k = -1)).length
theorem latN_le (l : List KV) (k : ByteArray) : latN l k ≤ l.length := (List.takeWhile_prefix _).length_le
theorem latN_cons (x : KV) (l : List KV) (k : ByteArray) : latN (x :: l) k = if kc x.1 k = -1 then latN l k + 1 else 0 := by
  unfold latN
  rw [List.takeWhile_cons]
  by_cases h : kc x.1 k = -1 <;> simp [h]
theorem latN_less : ∀ (l : List KV) (k : ByteArray) (i : Nat) (h : i < l.length), i < latN l k → kc l[i].1 k = -1
  | [], _, _, h, _ => by simp at h
  | x :: l, k, i, h, hi => by
    rw [latN_cons] at hi
    split at hi
    · rename_i hx
      cases i with
      | zero => exact hx
      | succ i => exact latN_less l k i (by simpa using h) (by omega)
    · omega
theorem latN_here : ∀ (l : List KV) (k : ByteArray) (h : latN l k < l.length), kc (l[latN l k]'h).1 k ≠ -1
  | [], _, h => by simp at h
  | x :: l, k, h => by
    have e := latN_cons x l k
    by_cases hx : kc x.1 k = -1
    · rw [if_pos hx] at e
      have := latN_here l k (by rw [e] at h; simpa using h)
      simp only [e, List.getElem_cons_succ]
      exact this
    · rw [if_neg hx] at e
      simp only [e, List.getElem_cons_zero]
      exact hx
/-- how a rising list stands about a key -/
theorem latN_parts {l : List KV} (hu : Up l) (k : ByteArray) :
    (latN l k = l.length ∧ lget l k = none ∧ (∀ v, lset l k v = l ++ [(k, v)])) ∨
    (∃ h : latN l k < l.length, (l[latN l k]'h).1 ≠ k ∧ lget l k = none ∧ (∀ v, lset l k v = l.take (latN l k) ++ [(k, v)] ++ l.drop (latN l k))) ∨
    (∃ h : latN l k < l.length, (l[latN l k]'h).1 = k ∧ lget l k = some (l[latN l k]'h).2 ∧ (∀ v, lset l k v = l.take (latN l k) ++ [(k, v)] ++ l.drop (latN l k + 1)) ∧ ldel l k = l.take (latN l k) ++ l.drop (latN l k + 1)) := by
  induction l with
  | nil => exact .inl ⟨rfl, rfl, fun _ => rfl⟩
  | cons x l ih =>
    have hu' := hu
    unfold Up at hu
    rw [List.pairwise_cons] at hu
    have e := latN_cons x l k
    rcases kc_cases x.1 k with h | h | h
    · rw [if_pos h] at e
      have hg := kc_gt h
      have s1 : ∀ v, lset (x :: l) k v = x :: lset l k v := fun v => by simp only [lset]; rw [if_neg (by rw [hg]; decide), if_neg (by rw [hg]; decide)]
      have s2 : lget (x :: l) k = lget l k := lget_cons_ne (kc_ne h) l
      have s3 : ldel (x :: l) k = x :: ldel l k := ldel_cons_ne (kc_ne h) l
      rcases ih hu.2 with ⟨h1, h2, h3⟩ | ⟨h1, h2, h3, h4⟩ | ⟨h1, h2, h3, h4, h5⟩
      · exact .inl ⟨by rw [e, h1]; rfl, by rw [s2, h2], fun v => by rw [s1, h3]; rfl⟩
      · refine .inr (.inl ⟨by rw [e]; simpa using h1, ?_, by rw [s2, h3], fun v => ?_⟩)
        · simpa only [e, List.getElem_cons_succ] using h2
        · rw [s1, h4, e]; rfl
      · refine .inr (.inr ⟨by rw [e]; simpa using h1, ?_, ?_, fun v => ?_, ?_⟩)
        · simpa only [e, List.getElem_cons_succ] using h2
        · simpa only [e, List.getElem_cons_succ, s2] using h3
        · rw [s1, h4, e]; rfl
        · rw [s3, h5, e]; rfl
    · rw [if_neg (by rw [h]; decide)] at e
      have ek := kc_zero h
      refine .inr (.inr ⟨by rw [e]; simp, ?_, ?_, fun v => ?_, ?_⟩)
      · simpa only [e, List.getElem_cons_zero] using ek
      · simpa only [e, List.getElem_cons_zero] using lget_cons_eq ek l
      · rw [e]; simp only [lset]; rw [if_neg (by rw [← ek, kc_self]; decide), if_pos (by rw [← ek, kc_self])]; rfl
      · rw [e, ldel_cons_eq ek, ldel_same (fun y hy => by rw [← ek]; exact (kc_ne (hu.1 y hy)).symm)]; rfl
    · rw [if_neg (by rw [h]; decide)] at e
      have hl := kc_lt h
      refine .inr (.inl ⟨by rw [e]; simp, ?_, lget_none (fun y hy => ?_), fun v => ?_⟩)
      · simpa only [e, List.getElem_cons_zero] using (kc_ne hl).symm
      · simp at hy
        rcases hy with rfl | hy
        · exact (kc_ne hl).symm
        · exact (kc_ne (kc_trans hl (hu.1 y hy))).symm
      · rw [e]; simp only [lset]; rw [if_pos hl]; rfl

set_option maxHeartbeats 2000000 in
theorem rAt (s : Value) (l : List KV) (k : ByteArray) (w : World) (hP : Prs w s l) (hz : l.length ≤ 1000000000) :
    Calls Try.prog 29 #[s, .string k] w fun e w' => e = .returned (.int .i64 (latN l k)) ∧ w' = w := by
  obtain ⟨A, cap, rfl, hcap, hc⟩ := hP
  obtain ⟨N, hN⟩ : ∃ N, N = latN l k := ⟨_, rfl⟩
  have HN := Lib.hid (And.intro (hN ▸ latN_le l k : N ≤ l.length) (And.intro (fun i (h : i < l.length) (hi : i < N) => latN_less l k i h (hN ▸ hi)) (fun (h : N < l.length) => (by subst hN; exact latN_here l k h : kc (l[N]'h).1 k ≠ -1))))
  rw [← hN]
  clear hN
  have HC := Lib.hid hc
  clear hc
  go_enter Try.func29, Try.ntmps29
  go_wp2
  go_loopg [5] N (fun g v wr => wr = w ∧ ∃ i : Nat, v = .int .i64 i ∧ Hid (g + i = N))
  case atStart => exact ⟨rfl, 0, rfl, Lib.hid rfl⟩
  case round =>
    obtain ⟨rfl, i, rfl, HI⟩ := hrel
    have hi := HI.out
    have hN := HN.out.1
    by_cases h1 : i < N
    · obtain ⟨b, off, rfl, c1, _⟩ := HC.out i (by omega)
      have hls : Op.bytesLess (l[i]'(by omega)).1.toList k.toList = true := by rw [less_str]; simpa using HN.out.2.1 i (by omega) h1
      have hl0 : (0 : Int) ≤ i := by omega
      have hl1 : (i : Int) < l.length := by omega
      have hw : IntKind.i64.wrap ((i : Int) + 1) = (i : Int) + 1 := IntWalk.i64_in _ (by omega)
      generalize (l[i]'(by omega)).1 = x at *
      go_wp2
      go_roundg (gk - 1)
      case measure => omega
      case rel => exact ⟨rfl, i + 1, by simp, Lib.hid (by omega)⟩
    · have e : i = N := by omega
      subst e
      by_cases h2 : i < l.length
      · obtain ⟨b, off, rfl, c1, _⟩ := HC.out i h2
        have hls : Op.bytesLess (l[i]'h2).1.toList k.toList = false := by rw [less_str]; simpa using HN.out.2.2 h2
        have hl0 : (0 : Int) ≤ i := by omega
        have hl1 : (i : Int) < l.length := by omega
        generalize (l[i]'h2).1 = x at *
        go_wp2
        go_ret
        exact ⟨rfl, rfl⟩
      · have hl1 : ¬ (i : Int) < l.length := by omega
        go_wp2
        go_ret
        exact ⟨rfl, rfl⟩
end Go.Proofs.Ytpjndgcliegloaa.W
