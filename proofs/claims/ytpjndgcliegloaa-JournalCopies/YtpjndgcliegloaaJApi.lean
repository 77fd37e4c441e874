/-
  Package journal: the contracts of its calls, by the stores of its levels. Jr: the journal at block j has the stores Lv of its open levels and the store L; S are its own blocks; m bounds all that it holds.
-/
import Derived.Test.YtpjndgcliegloaaJProg
import Derived.Test.YtpjndgcliegloaaJCopy
import Derived.Test.YtpjndgcliegloaaJRoll
namespace Go.Proofs.Ytpjndgcliegloaa.W
open Go.RowKit

def Jr (w : World) (S : Nat → Prop) (j : Nat) (Lv : List (List KV)) (L : List KV) (m : Nat) : Prop :=
  ∃ b u s us ns, JAt w j b u s L us ns ∧ S = jset j b u s ∧ levs L us ns = Lv ∧ Steps us.length ns ∧ L.length + us.length + ns.length ≤ m
/-- a step of a journal -/
def Jm (w : World) (S : Nat → Prop) (j : Nat) (Lv : List (List KV)) (L : List KV) (m : Nat) (w' : World) : Prop := KeepS S w w' ∧ ∃ S', Grows S S' w ∧ Jr w' S' j Lv L m
section
variable {w w' w2 : World} {S : Nat → Prop} {j m m' : Nat} {Lv : List (List KV)} {L : List KV}
theorem Jr.lt (h : Jr w S j Lv L m) : j < w.heap.size := by obtain ⟨b, u, s, us, ns, h1, _⟩ := h; exact h1.blk.lt
theorem Jr.up (h : Jr w S j Lv L m) : Up L := by obtain ⟨b, u, s, us, ns, h1, _⟩ := h; exact h1.store.up
theorem Jr.len (h : Jr w S j Lv L m) : L.length ≤ m ∧ Lv.length ≤ m := by
  obtain ⟨b, u, s, us, ns, h1, _, rfl, _, h5⟩ := h
  rw [levs_len]
  omega
theorem Jr.bound (h : Jr w S j Lv L m) : ∀ i, S i → i < w.heap.size := by obtain ⟨b, u, s, us, ns, h1, rfl, _⟩ := h; exact fun i hi => h1.bound hi
theorem Jr.mono (h : Jr w S j Lv L m) (hm : m ≤ m') : Jr w S j Lv L m' := by obtain ⟨b, u, s, us, ns, h1, h2, h3, h4, h5⟩ := h; exact ⟨b, u, s, us, ns, h1, h2, h3, h4, by omega⟩
theorem Jr.below (h : Jr w S j Lv L m) (hb : Below w.heap.size w w') : Jr w' S j Lv L m := by obtain ⟨b, u, s, us, ns, h1, h2⟩ := h; exact ⟨b, u, s, us, ns, h1.below hb, h2⟩
theorem Jr.kept (h : Jr w S j Lv L m) (k : KeepS S w w') : Kept w w' := by obtain ⟨b, u, s, us, ns, h1, rfl, _⟩ := h; exact h1.kept k
/-- another journal's step -/
theorem Jr.other {T : Nat → Prop} {k : Nat} {Mv : List (List KV)} {M : List KV} {q : Nat} (h : Jr w S j Lv L m) (h2 : Jr w T k Mv M q) (hk : KeepS T w w') (hd : ∀ i, S i → ¬ T i) : Jr w' S j Lv L m := by
  have hkept := h2.kept hk
  obtain ⟨b, u, s, us, ns, h1, rfl, h3⟩ := h
  exact ⟨b, u, s, us, ns, h1.moved hkept (fun i hi => hk.block i (h1.bound hi) (hd i hi)), rfl, h3⟩
theorem Jm.mono (h : Jm w S j Lv L m w') (hm : m ≤ m') : Jm w S j Lv L m' w' := by obtain ⟨k, S', g, h⟩ := h; exact ⟨k, S', g, h.mono hm⟩
theorem Jm.same (h : Jr w S j Lv L m) : Jm w S j Lv L m w := ⟨KeepS.refl _ _, S, Grows.refl _ _, h⟩
theorem Jm.of_below (h : Jr w S j Lv L m) (hb : Below w.heap.size w w') : Jm w S j Lv L m w' := ⟨KeepS.of_below _ hb, S, Grows.refl _ _, h.below hb⟩
end
theorem jm_of {w w' : World} {j b : Nat} {u s : Value} {L : List KV} {us : List Undo} {ns : List Nat} {Lv : List (List KV)} {m : Nat} (h : JStep w j b u s L us ns w') (h3 : levs L us ns = Lv) (h4 : Steps us.length ns) (h5 : L.length + us.length + ns.length ≤ m) : Jm w (jset j b u s) j Lv L m w' := by
  obtain ⟨u', s', a, k, g⟩ := h
  exact ⟨k, _, g, b, u', s', us, ns, a, rfl, h3, h4, h5⟩
theorem kept1_len (L : List KV) (us : List Undo) (ns : List Nat) (k : ByteArray) : us.length ≤ (kept1 L us ns k).length ∧ (kept1 L us ns k).length ≤ us.length + 1 := by
  unfold kept1; split <;> simp
theorem kept1_levs {L L' : List KV} {us : List Undo} {ns : List Nat} {k : ByteArray} (h : Steps us.length ns) (hr : rest (was L k) L' = L) : levs L' (kept1 L us ns k) ns = levs L us ns := by
  unfold kept1
  split
  · rename_i hn; subst hn; rfl
  · exact levs_change h hr

section
variable {w : World} {S : Nat → Prop} {j m : Nat} {Lv : List (List KV)} {L : List KV}
theorem jSetLong (k v : ByteArray) (h : 65536 < k.size ∨ 65536 < v.size) (w : World) (j : Nat) : Calls Try.prog 18 #[.pointer (some ⟨j, 0, none⟩), .string k, .string v] w fun e w' => e = .returned (.int .i64 4) ∧ w' = w := setLong j k v w h
theorem jSet (k v : ByteArray) (h : Jr w S j Lv L m) (hk : k.size ≤ 65536) (hv : v.size ≤ 65536) (hm : m + 2 ≤ 1000000000) :
    Calls Try.prog 18 #[.pointer (some ⟨j, 0, none⟩), .string k, .string v] w fun e w' => e = .returned (.int .i64 0) ∧ Jm w S j Lv (lset L k v) (m + 2) w' := by
  obtain ⟨b, u, s, us, ns, h1, rfl, rfl, h4, h5⟩ := h
  refine (setC j b u s L us ns k v w h1 hk hv (by omega) (by omega)).mono ?_
  rintro e w' ⟨he, hs⟩
  have hl := kept1_len L us ns k
  have hl2 := lset_len (k := k) (v := v) L
  exact ⟨he, jm_of hs (kept1_levs h4 (rest_set h1.store.up k v)) (steps_more h4 hl.1) (by omega)⟩
theorem jDelNo (k : ByteArray) (h : Jr w S j Lv L m) (hg : lget L k = none) :
    Calls Try.prog 19 #[.pointer (some ⟨j, 0, none⟩), .string k] w fun e w' => e = .returned (.int .i64 8) ∧ w' = w := by
  obtain ⟨b, u, s, us, ns, h1, rfl, rfl, h4, h5⟩ := h
  exact delAbsent j b u s L us ns k w h1 hg
theorem jDel (k o : ByteArray) (h : Jr w S j Lv L m) (hg : lget L k = some o) (hm : m + 2 ≤ 1000000000) :
    Calls Try.prog 19 #[.pointer (some ⟨j, 0, none⟩), .string k] w fun e w' => e = .returned (.int .i64 0) ∧ Jm w S j Lv (ldel L k) (m + 2) w' := by
  obtain ⟨b, u, s, us, ns, h1, rfl, rfl, h4, h5⟩ := h
  refine (delC1 j b u s L us ns k o w h1 hg (by omega) (by omega)).mono ?_
  rintro e w' ⟨he, hs⟩
  have hl := kept1_len L us ns k
  have hl2 := ldel_len (k := k) L
  exact ⟨he, jm_of hs (kept1_levs h4 (rest_del h1.store.up k)) (steps_more h4 hl.1) (by omega)⟩
theorem jBegin (h : Jr w S j Lv L m) (hm : m + 2 ≤ 1000000000) :
    Calls Try.prog 20 #[.pointer (some ⟨j, 0, none⟩)] w fun e w' => e = .returned (.int .i64 ((Lv.length + 1 : Nat) : Int)) ∧ Jm w S j (Lv ++ [L]) L (m + 2) w' := by
  obtain ⟨b, u, s, us, ns, h1, rfl, rfl, h4, h5⟩ := h
  refine (beginC j b u s L us ns w h1 (by omega)).mono ?_
  rintro e w' ⟨he, hs⟩
  exact ⟨by rw [he, levs_len], jm_of hs (levs_begin L us ns) (steps_begin h4) (by rw [List.length_append, List.length_cons, List.length_nil]; omega)⟩
theorem jCommitNo (h : Jr w S j [] L m) :
    Calls Try.prog 21 #[.pointer (some ⟨j, 0, none⟩)] w fun e w' => e = .returned (.int .i64 10) ∧ w' = w := by
  obtain ⟨b, u, s, us, ns, h1, rfl, h3, h4, h5⟩ := h
  obtain rfl : ns = [] := List.eq_nil_of_length_eq_zero (by rw [← levs_len L us ns, h3]; rfl)
  exact commitNo j b u s L us w h1
theorem steps_if {us : List Undo} {ns : List Nat} {vs : List Undo} (h : Steps us.length ns) : Steps (if ns = [] then vs else us).length ns := by
  split
  · rename_i hn; subst hn; exact ⟨List.Pairwise.nil, fun _ h => by cases h⟩
  · exact h
theorem levs_if {L : List KV} {us vs : List Undo} {ns : List Nat} : levs L (if ns = [] then vs else us) ns = levs L us ns := by
  split
  · rename_i hn; subst hn; rfl
  · rfl
theorem snoc_of_levs {Lv : List (List KV)} {x : List KV} {us : List Undo} {ns : List Nat} (h : levs L us ns = Lv ++ [x]) : ∃ ns' n, ns = ns' ++ [n] ∧ levs L us ns' = Lv ∧ unwind L (us.drop n) = x := by
  have hne : ns ≠ [] := fun e => by rw [e] at h; simp [levs] at h
  obtain ⟨ns', n, rfl⟩ : ∃ ns' n, ns = ns' ++ [n] := ⟨ns.dropLast, ns.getLast hne, (List.dropLast_concat_getLast hne).symm⟩
  rw [levs_last] at h
  have h1 := List.append_inj' h rfl
  refine ⟨ns', n, rfl, h1.1, ?_⟩
  have := h1.2
  injection this
theorem jCommit {x : List KV} (h : Jr w S j (Lv ++ [x]) L m) (hm : m + 2 ≤ 1000000000) :
    Calls Try.prog 21 #[.pointer (some ⟨j, 0, none⟩)] w fun e w' => e = .returned (.int .i64 0) ∧ Jm w S j Lv L m w' := by
  obtain ⟨b, u, s, us, ns, h1, rfl, h3, h4, h5⟩ := h
  obtain ⟨ns', n, rfl, h6, _⟩ := snoc_of_levs h3
  rw [List.length_append, List.length_cons, List.length_nil] at h5
  obtain ⟨h7, h8⟩ := steps_init h4
  refine (commitC j b u s L us ns' n w h1 (by omega)).mono ?_
  rintro e w' ⟨he, hs⟩
  refine ⟨he, jm_of hs (levs_if.trans h6) (steps_if (steps_more h7 h8)) ?_⟩
  split
  · simp only [List.length_nil]; omega
  · omega
theorem jRollNo (h : Jr w S j [] L m) :
    Calls Try.prog 16 #[.pointer (some ⟨j, 0, none⟩)] w fun e w' => e = .returned (.int .i64 10) ∧ Below w.heap.size w w' := by
  obtain ⟨b, u, s, us, ns, h1, rfl, h3, h4, h5⟩ := h
  obtain rfl : ns = [] := List.eq_nil_of_length_eq_zero (by rw [← levs_len L us ns, h3]; rfl)
  exact rollNo j b u s L us w h1
theorem jRoll {x : List KV} (h : Jr w S j (Lv ++ [x]) L m) (hm : m + 2 ≤ 1000000000) :
    Calls Try.prog 16 #[.pointer (some ⟨j, 0, none⟩)] w fun e w' => e = .returned (.int .i64 0) ∧ Jm w S j Lv x m w' := by
  obtain ⟨b, u, s, us, ns, h1, rfl, h3, h4, h5⟩ := h
  obtain ⟨ns', n, rfl, h6, rfl⟩ := snoc_of_levs h3
  rw [List.length_append, List.length_cons, List.length_nil] at h5
  obtain ⟨h7, h8⟩ := steps_init h4
  refine (rollC j b u s L us ns' n w h1 h8 (by omega)).mono ?_
  rintro e w' ⟨he, hs⟩
  have hl := unwind_len (us.drop n) L
  rw [List.length_drop] at hl
  have ht : (us.take n).length = n := by rw [List.length_take]; omega
  refine ⟨he, jm_of hs (levs_if.trans ((levs_back h7 h8).trans h6)) (steps_if (by rw [ht]; exact h7)) ?_⟩
  split
  · simp only [List.length_nil]; omega
  · rw [ht]; omega
theorem jDepth (h : Jr w S j Lv L m) : Calls Try.prog 10 #[.pointer (some ⟨j, 0, none⟩)] w fun e w' => e = .returned (.int .i64 Lv.length) ∧ w' = w := by
  obtain ⟨b, u, s, us, ns, h1, rfl, rfl, h4, h5⟩ := h
  rw [levs_len]
  exact depthC j b u s L us ns w h1
theorem jGet (k : ByteArray) (h : Jr w S j Lv L m) : Calls Try.prog 13 #[.pointer (some ⟨j, 0, none⟩), .string k] w fun e w' => e = .returned (retGet (lget L k)) ∧ w' = w := by
  obtain ⟨b, u, s, us, ns, h1, rfl, rfl, h4, h5⟩ := h
  exact getJ j b u s L us ns k w h1
theorem jList (h : Jr w S j Lv L m) (hm : m ≤ 1000000000) : Calls Try.prog 12 #[.pointer (some ⟨j, 0, none⟩)] w (Listed L w) := by
  obtain ⟨b, u, s, us, ns, h1, rfl, rfl, h4, h5⟩ := h
  exact listJ j b u s L us ns w h1 (by omega)
theorem jCopy (h : Jr w S j Lv L m) (hm : m ≤ 1000000000) : Calls Try.prog 15 #[.pointer (some ⟨j, 0, none⟩)] w fun e w' => ∃ k T, e = .returned (.pointer (some ⟨k, 0, none⟩)) ∧ Jr w' T k Lv L m ∧ Below w.heap.size w w' ∧ ∀ i, T i → w.heap.size ≤ i := by
  obtain ⟨b, u, s, us, ns, h1, rfl, rfl, h4, h5⟩ := h
  refine (copyJ j b u s L us ns w h1 (by omega) (by omega)).mono ?_
  rintro e w' ⟨k, b', u', s', he, hJ, hb, hi⟩
  exact ⟨k, _, he, ⟨b', u', s', us, ns, hJ, rfl, rfl, h4, h5⟩, hb, hi⟩
theorem jNew (b : Nat) (h : IsStore w b L) : Calls Try.prog 17 #[.pointer (some ⟨b, 0, none⟩)] w fun e w' => ∃ k T, e = .returned (.pointer (some ⟨k, 0, none⟩)) ∧ Jr w' T k [] L L.length ∧ Below w.heap.size w w' ∧ ∀ i, T i → w.heap.size ≤ i := by
  refine (newJ b L w h).mono ?_
  rintro e w' ⟨k, b', u', s', he, hJ, hb, hi⟩
  exact ⟨k, _, he, ⟨b', u', s', [], [], hJ, rfl, rfl, ⟨List.Pairwise.nil, fun _ h => by cases h⟩, by simp⟩, hb, hi⟩
theorem jNewNil (w : World) : Calls Try.prog 17 #[.pointer none] w fun e w' => ∃ k T, e = .returned (.pointer (some ⟨k, 0, none⟩)) ∧ Jr w' T k [] [] 0 ∧ Below w.heap.size w w' ∧ ∀ i, T i → w.heap.size ≤ i := by
  refine (newJNil w).mono ?_
  rintro e w' ⟨k, b', u', s', he, hJ, hb, hi⟩
  exact ⟨k, _, he, ⟨b', u', s', [], [], hJ, rfl, rfl, ⟨List.Pairwise.nil, fun _ h => by cases h⟩, by simp⟩, hb, hi⟩
end
end Go.Proofs.Ytpjndgcliegloaa.W
