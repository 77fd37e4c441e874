/-
  What a journal keeps: changes that are taken back in the order of the last first; the stores of the open levels. No program is named here.
-/
import Derived.Test.YtpjndgcliegloaaTMath
namespace Go.Proofs.Ytpjndgcliegloaa.W

theorem lset_cons (x : KV) (l : List KV) (k v : ByteArray) : lset (x :: l) k v = if kc k x.1 = -1 then (k, v) :: x :: l else if kc k x.1 = 0 then (k, v) :: l else x :: lset l k v := by
  simp only [lset]
/-- what was there is put back -/
theorem lset_back {l : List KV} (hu : Up l) {k v o : ByteArray} (h : lget l k = some o) : lset (lset l k v) k o = l := by
  induction l with
  | nil => cases h
  | cons x l ih =>
    have hu1 : Up l := (List.pairwise_cons.1 hu).2
    have hx : ∀ y ∈ l, kc x.1 y.1 = -1 := fun y hy => (List.pairwise_cons.1 hu).1 y hy
    rcases kc_cases k x.1 with c | c | c
    · have : lget (x :: l) k = none := lget_none (fun y hy => by
        rcases List.mem_cons.1 hy with rfl | hy
        · exact (kc_ne c).symm
        · exact (kc_ne (kc_trans c (hx y hy))).symm)
      rw [this] at h; cases h
    · have e := kc_zero c
      subst e
      rw [lget_cons_eq rfl] at h
      cases h
      rw [lset_cons, if_neg (by rw [c]; decide), if_pos c, lset_cons, if_neg (by rw [kc_self]; decide), if_pos (kc_self _)]
    · rw [lget_cons_ne (fun e => by rw [e, kc_self] at c; cases c)] at h
      rw [lset_cons, if_neg (by rw [c]; decide), if_neg (by rw [c]; decide), lset_cons, if_neg (by rw [c]; decide), if_neg (by rw [c]; decide), ih hu1 h]
/-- what was absent is taken away -/
theorem ldel_back {l : List KV} (hu : Up l) {k v : ByteArray} (h : lget l k = none) : ldel (lset l k v) k = l := by
  induction l with
  | nil => simp [lset, ldel]
  | cons x l ih =>
    have hu1 : Up l := (List.pairwise_cons.1 hu).2
    have hne : x.1 ≠ k := fun e => by rw [lget_cons_eq e] at h; cases h
    have h1 : lget l k = none := by rwa [lget_cons_ne hne] at h
    rcases kc_cases k x.1 with c | c | c
    · rw [lset_cons, if_pos c, ldel_cons_eq rfl, ldel_absent h]
    · exact absurd (kc_zero c).symm hne
    · rw [lset_cons, if_neg (by rw [c]; decide), if_neg (by rw [c]; decide), ldel_cons_ne hne, ih hu1 h1]
theorem lset_ldel {l : List KV} (hu : Up l) {k o : ByteArray} (h : lget l k = some o) : lset (ldel l k) k o = l := by
  induction l with
  | nil => cases h
  | cons x l ih =>
    have hu1 : Up l := (List.pairwise_cons.1 hu).2
    have hx : ∀ y ∈ l, kc x.1 y.1 = -1 := fun y hy => (List.pairwise_cons.1 hu).1 y hy
    by_cases e : x.1 = k
    · have hl : ldel l k = l := ldel_same (fun y hy => fun e2 => kc_ne (hx y hy) (e.trans e2.symm))
      rw [lget_cons_eq e] at h
      cases h
      rw [ldel_cons_eq e, hl]
      cases l with
      | nil => simp [lset, ← e]
      | cons y l => rw [lset_cons, if_pos (by rw [← e]; exact hx y (by simp)), ← e]
    · rw [lget_cons_ne e] at h
      have hk : kc k x.1 = 1 := by
        have : ∃ y ∈ l, y.1 = k := by
          apply Classical.byContradiction
          intro hn
          rw [lget_none (fun y hy e2 => hn ⟨y, hy, e2⟩)] at h
          cases h
        obtain ⟨y, hy, rfl⟩ := this
        exact kc_gt (hx y hy)
      rw [ldel_cons_ne e, lset_cons, if_neg (by rw [hk]; decide), if_neg (by rw [hk]; decide), ih hu1 h]

/-- what a store had of a key -/
structure Undo where
  k : ByteArray
  v : ByteArray
  p : Bool
def was (l : List KV) (k : ByteArray) : Undo := ⟨k, (lget l k).getD ⟨#[]⟩, (lget l k).isSome⟩
def rest (u : Undo) (l : List KV) : List KV := if u.p then lset l u.k u.v else ldel l u.k
/-- the last one first -/
def unwind (l : List KV) (us : List Undo) : List KV := us.foldr rest l
theorem rest_up {u : Undo} {l : List KV} (h : Up l) : Up (rest u l) := by
  unfold rest; split
  · exact lset_up h
  · exact ldel_up h
theorem rest_len (u : Undo) (l : List KV) : (rest u l).length ≤ l.length + 1 := by
  unfold rest; split
  · exact lset_len l
  · have := ldel_len (k := u.k) l; omega
theorem rest_set {l : List KV} (hu : Up l) (k v : ByteArray) : rest (was l k) (lset l k v) = l := by
  unfold rest was
  cases h : lget l k with
  | none => exact ldel_back hu h
  | some o => exact lset_back hu h
theorem rest_del {l : List KV} (hu : Up l) (k : ByteArray) : rest (was l k) (ldel l k) = l := by
  unfold rest was
  cases h : lget l k with
  | none => simp only [Option.isSome_none, Bool.false_eq_true, if_false]; rw [ldel_absent h, ldel_absent h]
  | some o => exact lset_ldel hu h
theorem unwind_append (l : List KV) (a b : List Undo) : unwind l (a ++ b) = unwind (unwind l b) a := List.foldr_append
theorem unwind_up : ∀ {us : List Undo} {l : List KV}, Up l → Up (unwind l us)
  | [], _, h => h
  | _ :: us, _, h => rest_up (unwind_up (us := us) h)
theorem unwind_len : ∀ (us : List Undo) (l : List KV), (unwind l us).length ≤ l.length + us.length
  | [], l => Nat.le_refl _
  | u :: us, l => by
    have h1 := rest_len u (unwind l us)
    have h2 := unwind_len us l
    simp only [List.length_cons]
    show (rest u (unwind l us)).length ≤ _
    omega

/-- the stores of the open levels, the outermost first -/
def levs (l : List KV) (us : List Undo) (ns : List Nat) : List (List KV) := ns.map fun n => unwind l (us.drop n)
/-- the beginnings of the levels rise and lie within the changes -/
def Steps (m : Nat) (ns : List Nat) : Prop := ns.Pairwise (· ≤ ·) ∧ ∀ n ∈ ns, n ≤ m
theorem levs_len (l : List KV) (us : List Undo) (ns : List Nat) : (levs l us ns).length = ns.length := by simp [levs]
theorem levs_change {l l' : List KV} {us : List Undo} {u : Undo} {ns : List Nat} (h : Steps us.length ns) (hr : rest u l' = l) : levs l' (us ++ [u]) ns = levs l us ns := by
  unfold levs
  refine List.map_congr_left fun n hn => ?_
  rw [List.drop_append_of_le_length (h.2 n hn), unwind_append]
  show unwind (rest u l') _ = _
  rw [hr]
theorem levs_begin (l : List KV) (us : List Undo) (ns : List Nat) : levs l us (ns ++ [us.length]) = levs l us ns ++ [l] := by simp [levs, unwind]
theorem steps_begin {us : List Undo} {ns : List Nat} (h : Steps us.length ns) : Steps us.length (ns ++ [us.length]) := by
  refine ⟨List.pairwise_append.2 ⟨h.1, by simp, fun a ha b hb => by simp at hb; subst hb; exact h.2 a ha⟩, fun n hn => ?_⟩
  simp at hn
  rcases hn with hn | rfl
  · exact h.2 n hn
  · exact Nat.le_refl _
theorem steps_more {m m' : Nat} {ns : List Nat} (h : Steps m ns) (hm : m ≤ m') : Steps m' ns := ⟨h.1, fun n hn => Nat.le_trans (h.2 n hn) hm⟩
theorem steps_init {m n : Nat} {ns : List Nat} (h : Steps m (ns ++ [n])) : Steps n ns ∧ n ≤ m :=
  ⟨⟨(List.pairwise_append.1 h.1).1, fun a ha => (List.pairwise_append.1 h.1).2.2 a ha n (by simp)⟩, h.2 n (by simp)⟩
theorem levs_last (l : List KV) (us : List Undo) (ns : List Nat) (n : Nat) : levs l us (ns ++ [n]) = levs l us ns ++ [unwind l (us.drop n)] := by simp [levs]
theorem levs_back {l : List KV} {us : List Undo} {ns : List Nat} {n : Nat} (h : Steps n ns) (hn : n ≤ us.length) : levs (unwind l (us.drop n)) (us.take n) ns = levs l us ns := by
  unfold levs
  refine List.map_congr_left fun m hm => ?_
  have hmn := h.2 m hm
  have : us.drop m = (us.take n).drop m ++ us.drop n := by
    conv => lhs; rw [← List.take_append_drop n us]
    rw [List.drop_append_of_le_length (by rw [List.length_take]; omega)]
  rw [this, unwind_append]
end Go.Proofs.Ytpjndgcliegloaa.W
