/-
  Bounds of the texts that are hashed on the way to a root; where the neighbours stand.
-/
import Derived.Test.YtkinnlfjcmhcoaaDoorZ0b
namespace Go.Proofs.YtkinnlfjcmhcoaaDoor.W

/-- not too many texts, none too long -/
def Bounded (k : Nat) (L : List (List UInt8)) : Prop := L.length ≤ k ∧ ∀ y ∈ L, y.length ≤ 1000000
theorem Bounded.nil (k : Nat) : Bounded k [] := ⟨Nat.zero_le _, fun y hy => by cases hy⟩
theorem Bounded.append {k m : Nat} {L M : List (List UInt8)} (h : Bounded k L) (h2 : Bounded m M) : Bounded (k + m) (L ++ M) :=
  ⟨by rw [List.length_append]; have := h.1; have := h2.1; omega, fun y hy => by
    rcases List.mem_append.1 hy with h3 | h3
    · exact h.2 y h3
    · exact h2.2 y h3⟩
theorem Bounded.one {y : List UInt8} (h : y.length ≤ 1000000) : Bounded 1 [y] := ⟨by simp, fun z hz => by rw [List.mem_singleton] at hz; rw [hz]; exact h⟩
theorem lead_bound {leaf : List UInt8} (hl : leaf.length = 32) (p : List (List UInt8)) (hy : ∀ y ∈ p, y.length ≤ 1000) : ∀ (i n : Int) (t : List UInt8 × List (List UInt8)), lead leaf p i n = some t → Bounded p.length t.2 := by
  induction p using snocInd with
  | h0 =>
    intro i n t h
    rw [lead_nil] at h
    split at h
    · cases h; exact Bounded.nil _
    · cases h
  | h1 p x ih =>
    intro i n t h
    have hx := hy x (by simp)
    have ih' := ih fun y hy' => hy y (by simp [hy'])
    rw [lead_snoc] at h
    rw [List.length_append]
    split at h
    · split at h
      · rw [Option.map_eq_some_iff] at h
        obtain ⟨u, hu, rfl⟩ := h
        have := lead_len hl p _ _ u hu
        exact (ih' _ _ u hu).append (Bounded.one (by rw [nodeOf_len]; omega))
      · rw [Option.map_eq_some_iff] at h
        obtain ⟨u, hu, rfl⟩ := h
        have := lead_len hl p _ _ u hu
        exact (ih' _ _ u hu).append (Bounded.one (by rw [nodeOf_len]; omega))
    · cases h
theorem reach_bound (p : KV) (q : List (List UInt8)) (hy : ∀ y ∈ q, y.length ≤ 1000) (i n : Int) : Bounded (q.length + 2) (reachTexts p q i n) := by
  unfold reachTexts
  split
  · rename_i t h
    have h1 := lead_bound (shaOf_len _) q hy i n t h
    have h2 := lead_len (shaOf_len _) q _ _ t h
    have h3 := leafOf_len p
    have h4 := topOf_len n t.1
    have := ((Bounded.one (y := leafOf p) (by omega)).append h1).append (Bounded.one (y := topOf n t.1) (by omega))
    exact ⟨by have := this.1; omega, this.2⟩
  · exact Bounded.nil _
theorem near_bound (m : Nat) (n : Int) : ∀ (ps : List KV) (qs : List (List (List UInt8))) (i : Int), (∀ q ∈ qs, q.length ≤ m ∧ ∀ y ∈ q, y.length ≤ 1000) → Bounded (ps.length * (m + 2)) (nearTexts n i ps qs)
  | [], _, _, _ => by unfold nearTexts; exact Bounded.nil _
  | _ :: _, [], _, _ => by unfold nearTexts; exact Bounded.nil _
  | p :: ps, q :: qs, i, h => by
    unfold nearTexts
    have h1 := reach_bound p q (h q (by simp)).2 i n
    have h2 := near_bound m n ps qs (i + 1) fun q' hq => h q' (by simp [hq])
    have h3 := (h q (by simp)).1
    have := h1.append h2
    rw [List.length_cons, Nat.succ_mul]
    exact ⟨by have := this.1; omega, this.2⟩
theorem nearTexts_cons {n i : Int} {ps : List KV} {qs : List (List (List UInt8))} {k : Nat} (h1 : k < ps.length) (h2 : k < qs.length) :
    nearTexts n (i + k) (ps.drop k) (qs.drop k) = reachTexts ps[k] qs[k] (i + k) n ++ nearTexts n (i + (k + 1 : Nat)) (ps.drop (k + 1)) (qs.drop (k + 1)) := by
  rw [List.drop_eq_getElem_cons h1, List.drop_eq_getElem_cons h2]
  show reachTexts _ _ _ _ ++ nearTexts _ _ _ _ = _
  rw [show i + ((k + 1 : Nat) : Int) = i + (k : Int) + 1 by omega]
/-- where the neighbours stand -/
def plOf (pos n : Int) : List Int := (if 0 < pos then [pos - 1] else []) ++ (if pos < n then [pos] else [])
theorem plOf_len (pos n : Int) : (plOf pos n).length ≤ 2 := by unfold plOf; split <;> split <;> simp
theorem plOf_at {x : Pf} (h1 : x.pos ≤ x.n) (k : Nat) (h : k < (plOf x.pos x.n).length) : (plOf x.pos x.n)[k] = loI x + k := by
  obtain ⟨n, pos, t, near, paths⟩ := x
  simp only at h1 h ⊢
  unfold plOf at h ⊢
  unfold loI
  by_cases c1 : 0 < pos
  · by_cases c2 : pos < n
    · simp only [c1, c2, if_true, List.cons_append, List.nil_append, List.length_cons, List.length_nil] at h ⊢
      match k, h with
      | 0, _ => simp
      | 1, _ => simp
    · simp only [c1, c2, if_true, if_false, List.append_nil, List.length_cons, List.length_nil] at h ⊢
      match k, h with
      | 0, _ => simp
  · by_cases c2 : pos < n
    · simp only [c1, c2, if_true, if_false, List.nil_append, List.length_cons, List.length_nil] at h ⊢
      match k, h with
      | 0, _ => simp
    · simp [c1, c2] at h
theorem plOf_count (x : Pf) : ((plOf x.pos x.n).length : Int) = hiI x - loI x := by
  unfold plOf hiI loI
  split <;> split <;> simp <;> omega
end Go.Proofs.YtkinnlfjcmhcoaaDoor.W
