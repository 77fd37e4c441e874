/-
  The law's Fresh, and its example calls (chapter 10).
-/
import Derived.Test.YtpjndgcliegloaaJLev
namespace Go.Proofs.Ytpjndgcliegloaa.W
open Go.RowKit

theorem Prs.strings' {w w' : World} {v : Value} {l : List KV} (h : Prs w v l) (hb : ∀ p (s : ByteArray), w.cell? p = some (.string s) → w'.cell? p = some (.string s)) : Prs w' v l := by
  obtain ⟨A, cap, rfl, hl, hc⟩ := h
  refine ⟨A, cap, rfl, hl, fun i hi => ?_⟩
  obtain ⟨b, off, rfl, h1, h2⟩ := hc i hi
  exact ⟨b, off, rfl, hb _ _ h1, hb _ _ h2⟩
/-- pairs set one after the other -/
def puts (l : List KV) : List KV := l.foldl (fun acc x => lset acc x.1 x.2) []
theorem puts_step (l : List KV) (k : Nat) (h : k < l.length) : puts (l.take (k + 1)) = lset (puts (l.take k)) (l[k]).1 (l[k]).2 := by
  unfold puts
  rw [List.take_succ_eq_append_getElem h, List.foldl_append]
  rfl
theorem puts_len (l : List KV) : (puts l).length ≤ l.length := by
  have : ∀ (l acc : List KV), (l.foldl (fun acc x => lset acc x.1 x.2) acc).length ≤ acc.length + l.length := fun l => by
    induction l with
    | nil => intro acc; simp
    | cons x l ih =>
      intro acc
      have h1 := ih (lset acc x.1 x.2)
      have h2 := lset_len (k := x.1) (v := x.2) acc
      simp only [List.foldl_cons, List.length_cons]
      omega
  have := this l []
  simpa [puts] using this
/-- what Fresh owes: a journal without levels, and its pairs -/
def Frs (l : List KV) (w : World) (e : Ending) (w' : World) : Prop := ∃ j S x, e = .returned (.tuple #[.pointer (some ⟨j, 0, none⟩), x]) ∧ Jr w' S j [] (puts l) l.length ∧ Prs w' x (puts l) ∧ Off S w' x ∧ Below w.heap.size w w' ∧ ∀ i, S i → w.heap.size ≤ i
set_option maxHeartbeats 4000000 in
theorem freshC (v : Value) (l : List KV) (w : World) (hP : Prs w v l) (hz : l.length ≤ 1000000) : Calls Try.prog 7 #[v] w (Frs l w) := by
  obtain ⟨A, cap, rfl, hcap, hc⟩ := hP
  have HC := Lib.hid hc
  clear hc
  go_enter Try.func7, Try.ntmps7
  go_wp2_with fail
  refine (newC w).mono ?_
  rintro e w1 ⟨rfl, S1, B1⟩
  obtain ⟨b, hb⟩ : ∃ b, b = w.heap.size := ⟨_, rfl⟩
  rw [← hb] at S1 ⊢
  have HB := Lib.hid hb
  have R0 : ∃ k : Nat, k ≤ l.length ∧ Value.int .i64 0 = .int .i64 k ∧ Hid (∃ L, IsStore w1 b L ∧ OwnPrs w.heap.size (.slice none 0 0) L w w1 ∧ L.length ≤ k ∧ L = puts (l.take k)) := ⟨0, Nat.zero_le _, rfl, Lib.hid ⟨[], S1, ⟨World.ownsRow_nil _ _ _ _, B1, B1.size⟩, Nat.le_refl _, rfl⟩⟩
  clear S1 B1 hb
  go_wp2
  go_loopw [5, 6] (fun x i wr => ∃ k : Nat, k ≤ l.length ∧ i = .int .i64 k ∧ Hid (∃ L, IsStore wr b L ∧ OwnPrs w.heap.size x L w wr ∧ L.length ≤ k ∧ L = puts (l.take k))) (fun _ i _ => l.length - (intOf i).toNat)
  case atStart => exact R0
  case round =>
    clear R0
    obtain ⟨k, hk, rfl, HL⟩ := hrel
    by_cases hlt : k < l.length
    · obtain ⟨b0, off, rfl, d0, d1⟩ := HC.out k hlt
      obtain ⟨L, hS, hO, hLk, hLp⟩ := HL.out
      have hpt := puts_step l k hlt
      rw [← hLp] at hpt
      have c0 := (since_of hO.below).cell d0
      have c1 := (since_of hO.below).cell d1
      have hi0 : (0 : Int) ≤ k := by omega
      have hi1 : (k : Int) < (l.length : Int) := by omega
      have hw : IntKind.i64.wrap ((k : Int) + 1) = (k : Int) + 1 := IntWalk.i64_in _ (by omega)
      generalize (l[k]).1 = key at *
      generalize (l[k]).2 = val at *
      replace hpt := Lib.hid hpt
      clear hLp
      have D0 := Lib.hid d0
      have D1 := Lib.hid d1
      have HS1 := Lib.hid (fun W (h : Since wr W) => sSet b key val L W (hS.below h.below) (by omega))
      have HO := Lib.hid (And.intro hO (And.intro hLk hS.up))
      have HO9 := Lib.hid hS.a
      have hLz : L.length + 1 ≤ 1000000000 := by omega
      have hLn := Lib.hid (lset_len (k := key) (v := val) L)
      clear d0 d1 HL hS hO
      generalize (!(lget L key).isSome) = c at *
      have r0 := Since.refl wr
      go_wp2
      go_region_held3 (fun W => W.cell? ⟨b0, off + k * 2, none⟩ = some (.string key) ∧ W.cell? ⟨b0, off + k * 2 + 1, none⟩ = some (.string val))
        (first | go_keep | exact ⟨p0, p1⟩)
        (first | (go_at_call 23; refine (HS1.out _ (by exact r0)).mono ?_; clear HS1; rintro en w2 ⟨rfl, hS2, g2⟩; have B2 := Lib.hid (step_only (HO.out.1.below.drew) g2 (by have := HB.out; omega)); have p0 := (since_of B2.out).cell D0.out; have p1 := (since_of B2.out).cell D1.out))
      all_goals
        have ow2 : w2.ownsRow w.heap.size 51 2 u5 L.length (prVals L) := own_keep HO.out.1.1 (fun g e => g2.block g (HO.out.1.1.lt g e).2 (fun e2 => by
          cases e2
          obtain ⟨cs, hc⟩ := own_tag HO.out.1.1 e
          obtain ⟨es, he⟩ := HO9.out
          have := blk_type he hc
          revert this
          decide))
        have HS2 := Lib.hid hS2
        have HR := Lib.hid (fun W (h : Since w2 W) => rSet u5 L key val W ((Prs.of_own ow2).below h.below) HO.out.2.2 hLz)
        clear ow2 hS2 g2 c0 c1 r0
        have r2 := Since.refl w2
        go_wp2
        go_region_held3 (fun W => W.cell? ⟨b0, off + k * 2, none⟩ = some (.string key) ∧ W.cell? ⟨b0, off + k * 2 + 1, none⟩ = some (.string val))
          (first | go_keep | exact ⟨p3, p4⟩)
          (first | (go_at_call 24; refine (HR.out _ (by exact r2)).mono ?_; clear HR; rintro en w3 ⟨y, rfl, o3⟩; have B3 := Lib.hid (step_below B2.out (step_below ((Below.refl _ w2).drew) o3.below)); have p3 := (since_of B3.out).cell D0.out; have p4 := (since_of B3.out).cell D1.out))
        all_goals
          have HF := Lib.hid (show ∃ L, IsStore w3 b L ∧ OwnPrs w.heap.size y L w w3 ∧ L.length ≤ k + 1 ∧ L = puts (l.take (k + 1)) from ⟨_, HS2.out.below (step_below ((Below.refl _ w2).drew) o3.below), ⟨own_base o3.1 B2.out.size, B3.out, B3.out.size⟩, by have := hLn.out; have := HO.out.2.1; omega, hpt.out.symm⟩)
          clear o3
          go_wp2
          go_roundw
          case rel => exact ⟨k + 1, by omega, by simp, HF⟩
          case measure => simp [intOf]; omega
    · obtain rfl : k = l.length := by omega
      have hi1 : ¬ (l.length : Int) < (l.length : Int) := by omega
      obtain ⟨L, hS, hO, hLk, hLp⟩ := HL.out
      rw [List.take_length] at hLp
      subst hLp
      have HN := Lib.hid (jNew b hS)
      have HX := Lib.hid (And.intro hO hLk)
      obtain ⟨A2, c2, hx, _⟩ := own_slice hO.1
      subst hx
      clear HL hS hO hLk
      go_wp2_with fail
      refine HN.out.mono ?_
      rintro e w2 ⟨j, T, rfl, hJ, B2, hT⟩
      go_wp2
      go_returns
      have hb2 := step_below HX.out.1.below B2
      exact ⟨j, T, _, rfl, hJ.mono HX.out.2, HX.out.1.prs.below B2, fun g e => ⟨Nat.lt_of_lt_of_le (HX.out.1.1.lt g e).2 B2.size, fun h => by have := hT g h; have := (HX.out.1.1.lt g e).2; omega⟩, hb2, fun i h => Nat.le_trans HX.out.1.below.size (hT i h)⟩
theorem Jm.out {w w1 w2 : World} {S : Nat → Prop} {j m : Nat} {Lv : List (List KV)} {L : List KV} (h : Jm w1 S j Lv L m w2) (hB : Below w.heap.size w w1) (hT : ∀ i, S i → w.heap.size ≤ i) : ∃ S', Jr w2 S' j Lv L m ∧ Below w.heap.size w w2 ∧ ∀ i, S' i → w.heap.size ≤ i := by
  obtain ⟨k, S', g, hj⟩ := h
  exact ⟨S', hj, hB.trans (k.below hB.size hT), fun i hi => (g i hi).elim (hT i) (fun h2 => Nat.le_trans hB.size h2)⟩

abbrev xa : ByteArray := ⟨#[97]⟩
abbrev x1 : ByteArray := ⟨#[49]⟩
abbrev x2 : ByteArray := ⟨#[50]⟩
section
variable {S : Nat → Prop} {j : Nat} {W : World}
theorem ja0 (w : World) (v : Value) (hP : Prs w v [(xa, x1)]) : Calls Try.prog 7 #[v] w fun e w' => ∃ j S x, e = .returned (.tuple #[.pointer (some ⟨j, 0, none⟩), x]) ∧ Jr w' S j [] [(xa, x1)] 1 ∧ Below w.heap.size w w' ∧ ∀ i, S i → w.heap.size ≤ i :=
  (freshC v [(xa, x1)] w hP (by decide)).mono fun _ _ ⟨j, S, x, he, h1, _, _, h4, h5⟩ => ⟨j, S, x, he, h1, h4, h5⟩
theorem ja1 (h : Jr W S j [] [(xa, x1)] 1) : Calls Try.prog 20 #[.pointer (some ⟨j, 0, none⟩)] W fun e w' => e = .returned (.int .i64 1) ∧ Jm W S j [[(xa, x1)]] [(xa, x1)] 3 w' := jBegin h (by decide)
theorem ja2 (h : Jr W S j [[(xa, x1)]] [(xa, x1)] 3) : Calls Try.prog 18 #[.pointer (some ⟨j, 0, none⟩), .string xa, .string x2] W fun e w' => e = .returned (.int .i64 0) ∧ Jm W S j [[(xa, x1)]] [(xa, x2)] 5 w' := jSet xa x2 h (by decide) (by decide) (by decide)
theorem ja3 (h : Jr W S j [[(xa, x1)]] [(xa, x2)] 5) : Calls Try.prog 19 #[.pointer (some ⟨j, 0, none⟩), .string xa] W fun e w' => e = .returned (.int .i64 0) ∧ Jm W S j [[(xa, x1)]] [] 7 w' := jDel xa x2 h (by decide) (by decide)
theorem ja4 (h : Jr W S j [[(xa, x1)]] [] 7) : Calls Try.prog 19 #[.pointer (some ⟨j, 0, none⟩), .string xa] W fun e w' => e = .returned (.int .i64 8) ∧ w' = W := jDelNo xa h (by decide)
theorem ja5 (h : Jr W S j [[(xa, x1)]] [] 7) : Calls Try.prog 16 #[.pointer (some ⟨j, 0, none⟩)] W fun e w' => e = .returned (.int .i64 0) ∧ Jm W S j [] [(xa, x1)] 7 w' := jRoll (Lv := []) h (by decide)
theorem ja6 (h : Jr W S j [] [(xa, x1)] 7) : Calls Try.prog 13 #[.pointer (some ⟨j, 0, none⟩), .string xa] W fun e w' => e = .returned (.tuple #[.string x1, .bool true]) ∧ w' = W := jGet xa h
end
set_option maxHeartbeats 4000000 in
set_option maxRecDepth 100000 in
theorem awake10 (w : World) : Calls Try.prog 6 #[] w fun e w' => e = .returned (.bool true) ∧ Below w.heap.size w w' := by
  go_enter Try.func6, Try.ntmps6
  go_wp2_with fail
  have P0 := prs_built w (xa, x1)
  have B0 : Below w.heap.size w (w.alloc (.cells #[.string xa, .string x1] 51)) := (Below.refl _ _).alloc (Nat.le_refl _) _
  refine (ja0 _ _ P0).mono ?_
  rintro e w1 ⟨j, S1, x, rfl, J1, B1, T1⟩
  have C1 := step_below B0 B1
  have T1' : ∀ i, S1 i → w.heap.size ≤ i := fun i h => Nat.le_trans B0.size (T1 i h)
  clear B0 B1 T1 P0
  go_wp2_with fail
  refine (ja1 J1).mono ?_
  rintro e w2 ⟨rfl, M⟩
  obtain ⟨S2, J2, C2, T2⟩ := M.out C1 T1'
  clear J1 C1 T1' M
  go_wp2_with fail
  refine (ja2 J2).mono ?_
  rintro e w3 ⟨rfl, M⟩
  obtain ⟨S3, J3, C3, T3⟩ := M.out C2 T2
  clear J2 C2 T2 M
  go_wp2_with fail
  refine (ja3 J3).mono ?_
  rintro e w4 ⟨rfl, M⟩
  obtain ⟨S4, J4, C4, T4⟩ := M.out C3 T3
  clear J3 C3 T3 M
  go_wp2_with fail
  refine (ja4 J4).mono ?_
  rintro e w' ⟨rfl, rfl⟩
  go_wp2_with fail
  refine (ja5 J4).mono ?_
  rintro e w5 ⟨rfl, M⟩
  obtain ⟨S5, J5, C5, T5⟩ := M.out C4 T4
  clear J4 C4 T4 M
  go_wp2_with fail
  refine (ja6 J5).mono ?_
  rintro e w' ⟨rfl, rfl⟩
  go_wp2_with fail
  refine (jRollNo J5).mono ?_
  rintro e w6 ⟨rfl, B6⟩
  have J6 := J5.below B6
  have C6 := step_below C5 B6
  clear J5 C5 B6
  go_wp2_with fail
  refine (jCommitNo J6).mono ?_
  rintro e w' ⟨rfl, rfl⟩
  go_wp2_with fail
  refine (jDepth J6).mono ?_
  rintro e w' ⟨rfl, rfl⟩
  go_wp2
  go_ret
  exact ⟨rfl, C6⟩
end Go.Proofs.Ytpjndgcliegloaa.W
