/-
  The law's helpers: the levels' stores as a slice of slices; what a deed does to the levels; do.
-/
import Derived.Test.YtpjndgcliegloaaJApi
import Derived.Test.YtpjndgcliegloaaTRefE
namespace Go.Proofs.Ytpjndgcliegloaa.W
open Go.RowKit

/-- what a deed makes of the levels, and the error's number -/
def act (Lv : List (List KV)) (L : List KV) (kd : Int) (k v : ByteArray) : List (List KV) × List KV × Int :=
  if kd = 0 then (if 65536 < k.size ∨ 65536 < v.size then (Lv, L, 4) else (Lv, lset L k v, 0))
  else if kd = 1 then (if (lget L k).isSome then (Lv, ldel L k, 0) else (Lv, L, 8))
  else if kd = 2 then (Lv ++ [L], L, 0)
  else match Lv.getLast? with
    | none => (Lv, L, 10)
    | some x => (Lv.dropLast, if kd = 3 then L else x, 0)
/-- what 'do' owes -/
def Did (w : World) (S : Nat → Prop) (j m : Nat) (r : List (List KV) × List KV × Int) (e : Ending) (w' : World) : Prop := e = .returned (.int .i64 r.2.2) ∧ Jm w S j r.1 r.2.1 m w'
theorem snoc_of {α : Type} (l : List α) (h : l ≠ []) : ∃ a x, l = a ++ [x] := ⟨l.dropLast, l.getLast h, (List.dropLast_concat_getLast h).symm⟩
theorem act_none {L : List KV} {kd : Int} {k v : ByteArray} (h0 : kd ≠ 0) (h1 : kd ≠ 1) (h2 : kd ≠ 2) : act [] L kd k v = ([], L, 10) := by unfold act; rw [if_neg h0, if_neg h1, if_neg h2]; rfl
theorem act_back {Lv : List (List KV)} {x L : List KV} {kd : Int} {k v : ByteArray} (h0 : kd ≠ 0) (h1 : kd ≠ 1) (h2 : kd ≠ 2) : act (Lv ++ [x]) L kd k v = (Lv, if kd = 3 then L else x, 0) := by unfold act; rw [if_neg h0, if_neg h1, if_neg h2]; simp

theorem act_len (Lv : List (List KV)) (L : List KV) (kd : Int) (k v : ByteArray) : (act Lv L kd k v).1.length ≤ Lv.length + 1 := by
  unfold act
  repeat' split
  all_goals simp
  all_goals omega
section
variable {w : World} {S : Nat → Prop} {j m : Nat} {Lv : List (List KV)} {L : List KV} (k v : ByteArray)
theorem Jm.grown {w1 w2 : World} (h : Below w.heap.size w w1) (k : Jm w1 S j Lv L m w2) : Jm w S j Lv L m w2 := by
  obtain ⟨k1, S', g, hj⟩ := k
  exact ⟨(KeepS.of_below S h).step k1, S', fun i hi => (g i hi).imp_right (fun h2 => Nat.le_trans h.size h2), hj⟩
set_option maxHeartbeats 2000000 in
theorem doSet0 (h : Jr w S j Lv L m) (hm : m + 2 ≤ 1000000000) : Calls Try.prog 9 #[.pointer (some ⟨j, 0, none⟩), .agg #[.int .i64 0, .string k, .string v]] w (Did w S j (m + 2) (act Lv L 0 k v)) := by
  have H : Hid (∀ W, Since w W → Calls Try.prog 18 #[.pointer (some ⟨j, 0, none⟩), .string k, .string v] W (Did W S j (m + 2) (act Lv L 0 k v))) := fun W hW => by
    unfold act
    rw [if_pos rfl]
    by_cases hl : 65536 < k.size ∨ 65536 < v.size
    · rw [if_pos hl]
      refine (jSetLong k v hl W j).mono ?_
      rintro e w' ⟨he, rfl⟩
      exact ⟨he, (Jm.same (h.below hW.below)).mono (by omega)⟩
    · rw [if_neg hl]
      exact jSet k v (h.below hW.below) (by omega) (by omega) hm
  clear h
  generalize act Lv L 0 k v = r at *
  go_enter Try.func9, Try.ntmps9
  go_wp2_with fail
  have s1 : Since w (w.alloc (.cells #[.int .i64 0, .string k, .string v] 33)) := since_of ((Below.refl _ _).alloc (Nat.le_refl _) _)
  refine (H.out _ s1).mono ?_
  rintro e w' ⟨rfl, hd⟩
  go_wp2
  go_ret
  exact ⟨rfl, hd.grown s1.below⟩
set_option maxHeartbeats 2000000 in
theorem doDel1 (h : Jr w S j Lv L m) (hm : m + 2 ≤ 1000000000) : Calls Try.prog 9 #[.pointer (some ⟨j, 0, none⟩), .agg #[.int .i64 1, .string k, .string v]] w (Did w S j (m + 2) (act Lv L 1 k v)) := by
  have H : Hid (∀ W, Since w W → Calls Try.prog 19 #[.pointer (some ⟨j, 0, none⟩), .string k] W (Did W S j (m + 2) (act Lv L 1 k v))) := fun W hW => by
    unfold act
    rw [if_neg (by decide), if_pos rfl]
    cases hl : lget L k with
    | none =>
      refine (jDelNo k (h.below hW.below) hl).mono ?_
      rintro e w' ⟨he, rfl⟩
      exact ⟨he, (Jm.same (h.below hW.below)).mono (by omega)⟩
    | some o => exact jDel k o (h.below hW.below) hl hm
  clear h
  generalize act Lv L 1 k v = r at *
  go_enter Try.func9, Try.ntmps9
  go_wp2_with fail
  have s1 : Since w (w.alloc (.cells #[.int .i64 1, .string k, .string v] 33)) := since_of ((Below.refl _ _).alloc (Nat.le_refl _) _)
  refine (H.out _ s1).mono ?_
  rintro e w' ⟨rfl, hd⟩
  go_wp2
  go_ret
  exact ⟨rfl, hd.grown s1.below⟩
set_option maxHeartbeats 2000000 in
theorem doBegin2 (h : Jr w S j Lv L m) (hm : m + 2 ≤ 1000000000) : Calls Try.prog 9 #[.pointer (some ⟨j, 0, none⟩), .agg #[.int .i64 2, .string k, .string v]] w (Did w S j (m + 2) (act Lv L 2 k v)) := by
  have H := Lib.hid (fun W (hW : Since w W) => jBegin (h.below hW.below) hm)
  clear h
  unfold act
  rw [if_neg (by decide), if_neg (by decide), if_pos rfl]
  go_enter Try.func9, Try.ntmps9
  go_wp2_with fail
  have s1 : Since w (w.alloc (.cells #[.int .i64 2, .string k, .string v] 33)) := since_of ((Below.refl _ _).alloc (Nat.le_refl _) _)
  refine (H.out _ s1).mono ?_
  rintro e w' ⟨rfl, hd⟩
  go_wp2
  go_ret
  exact ⟨rfl, hd.grown s1.below⟩
set_option maxHeartbeats 2000000 in
theorem doCommit3 (h : Jr w S j Lv L m) (hm : m + 2 ≤ 1000000000) : Calls Try.prog 9 #[.pointer (some ⟨j, 0, none⟩), .agg #[.int .i64 3, .string k, .string v]] w (Did w S j (m + 2) (act Lv L 3 k v)) := by
  have H : Hid (∀ W, Since w W → Calls Try.prog 21 #[.pointer (some ⟨j, 0, none⟩)] W (Did W S j (m + 2) (act Lv L 3 k v))) := fun W hW => by
    have hW' := h.below hW.below
    by_cases hn : Lv = []
    · subst hn
      rw [act_none (by decide) (by decide) (by decide)]
      refine (jCommitNo hW').mono ?_
      rintro e w' ⟨he, rfl⟩
      exact ⟨he, (Jm.same hW').mono (by omega)⟩
    · obtain ⟨A, x, rfl⟩ := snoc_of Lv hn
      rw [act_back (by decide) (by decide) (by decide)]
      exact (jCommit hW' hm).mono fun e w' ⟨he, hd⟩ => ⟨he, hd.mono (by omega)⟩
  clear h
  generalize act Lv L 3 k v = r at *
  go_enter Try.func9, Try.ntmps9
  go_wp2_with fail
  have s1 : Since w (w.alloc (.cells #[.int .i64 3, .string k, .string v] 33)) := since_of ((Below.refl _ _).alloc (Nat.le_refl _) _)
  refine (H.out _ s1).mono ?_
  rintro e w' ⟨rfl, hd⟩
  go_wp2
  go_ret
  exact ⟨rfl, hd.grown s1.below⟩
set_option maxHeartbeats 2000000 in
theorem doRoll4 (kd : Int) (h0 : kd ≠ 0) (h1 : kd ≠ 1) (h2 : kd ≠ 2) (h3 : kd ≠ 3) (h : Jr w S j Lv L m) (hm : m + 2 ≤ 1000000000) : Calls Try.prog 9 #[.pointer (some ⟨j, 0, none⟩), .agg #[.int .i64 kd, .string k, .string v]] w (Did w S j (m + 2) (act Lv L kd k v)) := by
  have H : Hid (∀ W, Since w W → Calls Try.prog 16 #[.pointer (some ⟨j, 0, none⟩)] W (Did W S j (m + 2) (act Lv L kd k v))) := fun W hW => by
    have hW' := h.below hW.below
    by_cases hn : Lv = []
    · subst hn
      rw [act_none h0 h1 h2]
      refine (jRollNo hW').mono ?_
      rintro e w' ⟨he, hb⟩
      exact ⟨he, (Jm.of_below hW' hb).mono (by omega)⟩
    · obtain ⟨A, x, rfl⟩ := snoc_of Lv hn
      rw [act_back h0 h1 h2, if_neg h3]
      exact (jRoll hW' hm).mono fun e w' ⟨he, hd⟩ => ⟨he, hd.mono (by omega)⟩
  have e0 : (kd == 0) = false := by simpa using h0
  have e1 : (kd == 1) = false := by simpa using h1
  have e2 : (kd == 2) = false := by simpa using h2
  have e3 : (kd == 3) = false := by simpa using h3
  clear h h0 h1 h2 h3
  generalize act Lv L kd k v = r at *
  go_enter Try.func9, Try.ntmps9
  go_wp2_with fail
  have s1 : Since w (w.alloc (.cells #[.int .i64 kd, .string k, .string v] 33)) := since_of ((Below.refl _ _).alloc (Nat.le_refl _) _)
  refine (H.out _ s1).mono ?_
  rintro e w' ⟨rfl, hd⟩
  go_wp2
  go_ret
  exact ⟨rfl, hd.grown s1.below⟩
theorem doJ (kd : Int) (h : Jr w S j Lv L m) (hm : m + 2 ≤ 1000000000) : Calls Try.prog 9 #[.pointer (some ⟨j, 0, none⟩), .agg #[.int .i64 kd, .string k, .string v]] w (Did w S j (m + 2) (act Lv L kd k v)) := by
  by_cases h0 : kd = 0
  · subst h0; exact doSet0 k v h hm
  · by_cases h1 : kd = 1
    · subst h1; exact doDel1 k v h hm
    · by_cases h2 : kd = 2
      · subst h2; exact doBegin2 k v h hm
      · by_cases h3 : kd = 3
        · subst h3; exact doCommit3 k v h hm
        · exact doRoll4 k v kd h0 h1 h2 h3 h hm
end
end Go.Proofs.Ytpjndgcliegloaa.W
