/-
  Keys and numbers of fourteen digits as plain functions: replacing, cutting at slashes, the two forms of a part.
-/
import Derived.Test.YtjmbbkjepgahgaaDoorCMath
import Derived.Lib.Replace
import Derived.Lib.SplitLaws
import Derived.Lib.Join
namespace Go.Proofs.YtjmbbkjepgahgaaDoor.W

/-- every instance of old replaced by new, from the left -/
def rp (old new : List UInt8) : Nat → List UInt8 → List UInt8
  | 0, s => s
  | _ + 1, [] => []
  | f + 1, x :: l => if old.isPrefixOf (x :: l) then new ++ rp old new f ((x :: l).drop old.length) else x :: rp old new f l
theorem replaceK_rp (old new : List UInt8) (ho : old ≠ []) : ∀ (f : Nat) (s : List UInt8), s.length ≤ f → Lib.replaceK old new (Lib.count s old) s = rp old new f s
  | 0, s, h => by
    have e : s = [] := List.eq_nil_of_length_eq_zero (by omega)
    subst e
    have hm : Lib.index [] old = -1 := by
      unfold Lib.index
      rw [if_neg (by simpa using ho)]
    rw [Lib.count_miss hm]
    rfl
  | f + 1, [], h => by
    have hm : Lib.index [] old = -1 := by
      unfold Lib.index
      rw [if_neg (by simpa using ho)]
    rw [Lib.count_miss hm]
    rfl
  | f + 1, x :: l, h => by
    have hl : 1 ≤ old.length := by cases old with | nil => exact absurd rfl ho | cons a r => simp
    rw [rp]
    by_cases hp : old.isPrefixOf (x :: l) = true
    · rw [if_pos hp]
      have hi : Lib.index (x :: l) old = ((0 : Nat) : Int) := by unfold Lib.index; rw [if_pos hp]; rfl
      rw [Lib.count_hit ho hi, Nat.add_comm 1, Lib.replaceK_hit old new _ _ 0 hi, List.take_zero, List.nil_append, Nat.zero_add]
      rw [replaceK_rp old new ho f _ (by simp only [List.length_drop, List.length_cons] at h ⊢; omega)]
    · rw [if_neg hp]
      have hp' : old.isPrefixOf (x :: l) = false := by cases e : old.isPrefixOf (x :: l) with | false => rfl | true => exact absurd e hp
      have ih := replaceK_rp old new ho f l (by simp only [List.length_cons] at h; omega)
      rw [← ih]
      by_cases hm : Lib.index l old = -1
      · have hi : Lib.index (x :: l) old = -1 := by unfold Lib.index; rw [hp', hm]; rfl
        rw [Lib.count_miss hi, Lib.count_miss hm]
        rfl
      · have hge := Lib.index_ge l old
        obtain ⟨i, hj⟩ : ∃ i : Nat, Lib.index l old = i := ⟨(Lib.index l old).toNat, by omega⟩
        have hi : Lib.index (x :: l) old = ((i + 1 : Nat) : Int) := by
          unfold Lib.index
          rw [hp', hj]
          have : ((i : Int) == -1) = false := by rw [beq_eq_false_iff_ne]; omega
          simp [this]
        rw [Lib.count_hit ho hi, Lib.count_hit ho hj, Nat.add_comm 1, Nat.add_comm 1, Lib.replaceK_hit old new _ _ (i + 1) hi, Lib.replaceK_hit old new _ _ i hj]
        rw [show i + 1 + old.length = (i + old.length) + 1 by omega, List.drop_succ_cons, List.take_succ_cons]
        simp
/-- with fuel to spare -/
def rpA (old new s : List UInt8) : List UInt8 := rp old new s.length s
theorem rp_fuel (old new : List UInt8) (ho : old ≠ []) (f : Nat) (s : List UInt8) (h : s.length ≤ f) : rp old new f s = rpA old new s := by
  rw [rpA, ← replaceK_rp old new ho f s h, ← replaceK_rp old new ho _ s (Nat.le_refl _)]
theorem replaceAll_rp (s old new : List UInt8) (ho : old ≠ []) (hn : old ≠ new) : Lib.replaceAll s old new = rpA old new s := by
  rw [Lib.replaceAll, Lib.replace, if_neg (by simpa using hn), Lib.replaceNum, if_pos (Or.inl (by decide))]
  exact replaceK_rp old new ho _ s (Nat.le_refl _)
theorem rpA_nil (old new : List UInt8) : rpA old new [] = [] := rfl
theorem rpA_hit (old new : List UInt8) (ho : old ≠ []) (r : List UInt8) : rpA old new (old ++ r) = new ++ rpA old new r := by
  cases old with
  | nil => exact absurd rfl ho
  | cons a o =>
    rw [rpA, List.cons_append, List.length_cons, rp, if_pos (by rw [← List.cons_append]; simp)]
    rw [← List.cons_append, List.drop_left]
    rw [rp_fuel _ _ ho _ _ (by simp)]
theorem rpA_miss (old new : List UInt8) (ho : old ≠ []) (x : UInt8) (l : List UInt8) (h : old.isPrefixOf (x :: l) = false) : rpA old new (x :: l) = x :: rpA old new l := by
  rw [rpA, List.length_cons, rp, if_neg (by simp [h]), rp_fuel _ _ ho _ _ (Nat.le_refl _)]

/-- a part, as it stands in a key -/
def e1 : List UInt8 → List UInt8
  | [] => []
  | b :: l => if b = 37 then 37 :: 112 :: e1 l else b :: e1 l
def esc : List UInt8 → List UInt8
  | [] => []
  | b :: l => if b = 37 then 37 :: 112 :: esc l else if b = 47 then 37 :: 115 :: esc l else b :: esc l
theorem e1_is : ∀ l, rpA [37] [37, 112] l = e1 l
  | [] => rfl
  | b :: l => by
    unfold e1
    by_cases h : b = 37
    · subst h
      rw [if_pos rfl, show (37 : UInt8) :: l = [37] ++ l from rfl, rpA_hit _ _ (by simp), e1_is l]
      rfl
    · rw [if_neg h, rpA_miss _ _ (by simp) _ _ (by simp [List.isPrefixOf, Ne.symm h]), e1_is l]
theorem esc_is : ∀ l, rpA [47] [37, 115] (e1 l) = esc l
  | [] => rfl
  | b :: l => by
    unfold e1 esc
    by_cases h : b = 37
    · rw [if_pos h, if_pos h, rpA_miss _ _ (by simp) _ _ (by simp [List.isPrefixOf]), rpA_miss _ _ (by simp) _ _ (by simp [List.isPrefixOf]), esc_is l]
    · rw [if_neg h, if_neg h]
      by_cases h2 : b = 47
      · subst h2
        rw [if_pos rfl, show (47 : UInt8) :: e1 l = [47] ++ e1 l from rfl, rpA_hit _ _ (by simp), esc_is l]
        rfl
      · rw [if_neg h2, rpA_miss _ _ (by simp) _ _ (by simp [List.isPrefixOf, Ne.symm h2]), esc_is l]
theorem escape_is (l : List UInt8) : Lib.replaceAll (Lib.replaceAll l [37] [37, 112]) [47] [37, 115] = esc l := by
  rw [replaceAll_rp _ _ _ (by simp) (by simp), replaceAll_rp _ _ _ (by simp) (by simp), e1_is, esc_is]
/-- what a form is read as (any string, where it is none) -/
def une (l : List UInt8) : List UInt8 := rpA [37, 112] [37] (rpA [37, 115] [47] l)
theorem unescape_is (l : List UInt8) : Lib.replaceAll (Lib.replaceAll l [37, 115] [47]) [37, 112] [37] = une l := by
  rw [replaceAll_rp _ _ _ (by simp) (by simp), replaceAll_rp _ _ _ (by simp) (by simp), une]
theorem une1 : ∀ l, rpA [37, 115] [47] (esc l) = e1 l
  | [] => rfl
  | b :: l => by
    unfold e1 esc
    by_cases h : b = 37
    · rw [if_pos h, if_pos h, rpA_miss _ _ (by simp) _ _ (by simp [List.isPrefixOf]), rpA_miss _ _ (by simp) _ _ (by simp [List.isPrefixOf]), une1 l]
    · rw [if_neg h, if_neg h]
      by_cases h2 : b = 47
      · subst h2
        rw [if_pos rfl, show (37 : UInt8) :: 115 :: esc l = [37, 115] ++ esc l from rfl, rpA_hit _ _ (by simp), une1 l]
        rfl
      · rw [if_neg h2, rpA_miss _ _ (by simp) _ _ (by simp [List.isPrefixOf, Ne.symm h]), une1 l]
theorem une2 : ∀ l, rpA [37, 112] [37] (e1 l) = l
  | [] => rfl
  | b :: l => by
    unfold e1
    by_cases h : b = 37
    · subst h
      rw [if_pos rfl, show (37 : UInt8) :: 112 :: e1 l = [37, 112] ++ e1 l from rfl, rpA_hit _ _ (by simp), une2 l]
      rfl
    · rw [if_neg h, rpA_miss _ _ (by simp) _ _ (by simp [List.isPrefixOf, Ne.symm h]), une2 l]
theorem une_esc (l : List UInt8) : une (esc l) = l := by rw [une, une1, une2]
theorem esc_inj {a b : List UInt8} (h : esc a = esc b) : a = b := by rw [← une_esc a, ← une_esc b, h]
/-- lengths -/
theorem e1_len : ∀ l, (e1 l).length ≤ 2 * l.length
  | [] => by simp [e1]
  | b :: l => by
    have := e1_len l
    unfold e1
    split <;> simp only [List.length_cons] <;> omega
theorem esc_len : ∀ l, (esc l).length ≤ 2 * l.length
  | [] => by simp [esc]
  | b :: l => by
    have := esc_len l
    unfold esc
    split
    · simp only [List.length_cons]; omega
    · split <;> simp only [List.length_cons] <;> omega
theorem rp_len (old new : List UInt8) (hn : new.length ≤ old.length) : ∀ (f : Nat) (s : List UInt8), (rp old new f s).length ≤ s.length
  | 0, s => Nat.le_refl _
  | f + 1, [] => Nat.le_refl _
  | f + 1, x :: l => by
    rw [rp]
    split
    · rename_i hp
      have h1 := rp_len old new hn f ((x :: l).drop old.length)
      have h2 : old.length ≤ (x :: l).length := (List.isPrefixOf_iff_prefix.mp hp).length_le
      simp only [List.length_append, List.length_drop] at h1 ⊢
      omega
    · have h1 := rp_len old new hn f l
      simp only [List.length_cons]
      omega
theorem une_len (l : List UInt8) : (une l).length ≤ l.length := Nat.le_trans (rp_len _ _ (by simp) _ _) (rp_len _ _ (by simp) _ _)
theorem une1_len (l : List UInt8) : (rpA [37, 115] [47] l).length ≤ l.length := rp_len _ _ (by simp) _ _

/-- no slash in it -/
def ns (l : List UInt8) : Prop := ∀ b ∈ l, b ≠ 47
theorem ns_nil : ns [] := by intro b hb; cases hb
theorem esc_ns : ∀ l, ns (esc l)
  | [] => by intro b hb; cases hb
  | c :: l => by
    have ih := esc_ns l
    unfold esc
    intro b hb
    split at hb
    · simp only [List.mem_cons] at hb
      rcases hb with rfl | rfl | hb
      · decide
      · decide
      · exact ih b hb
    · split at hb
      · simp only [List.mem_cons] at hb
        rcases hb with rfl | rfl | hb
        · decide
        · decide
        · exact ih b hb
      · rename_i h2
        simp only [List.mem_cons] at hb
        rcases hb with rfl | hb
        · exact h2
        · exact ih b hb

/-- cut at the slashes -/
def pcs : List UInt8 → List (List UInt8)
  | [] => [[]]
  | b :: l => if b = 47 then [] :: pcs l else ((b :: (pcs l).headD []) :: (pcs l).tail)
theorem pcs_ne (l : List UInt8) : pcs l ≠ [] := by
  cases l with
  | nil => simp [pcs]
  | cons b l => unfold pcs; split <;> simp
theorem pcs_form (l : List UInt8) : ∃ p r, pcs l = p :: r := by
  cases h : pcs l with
  | nil => exact absurd h (pcs_ne l)
  | cons p r => exact ⟨p, r, rfl⟩
/-- put together with slashes -/
def glue (x : List UInt8) : List (List UInt8) → List UInt8
  | [] => x
  | y :: r => x ++ 47 :: glue y r
theorem pcs_app (x : List UInt8) (hx : ns x) (s : List UInt8) : ∀ p r, pcs s = p :: r → pcs (x ++ s) = (x ++ p) :: r := by
  induction x with
  | nil => intro p r h; simpa using h
  | cons b x ih =>
    intro p r h
    have hb : b ≠ 47 := hx b (by simp)
    have ih' := ih (fun c hc => hx c (by simp [hc])) p r h
    rw [List.cons_append, pcs, if_neg hb, ih']
    rfl
theorem pcs_ns (x : List UInt8) (hx : ns x) : pcs x = [x] := by
  have := pcs_app x hx [] [] [] rfl
  simpa using this
theorem pcs_slash (x : List UInt8) (hx : ns x) (s : List UInt8) : pcs (x ++ 47 :: s) = x :: pcs s := by
  have := pcs_app x hx (47 :: s) [] (pcs s) (by rw [pcs, if_pos rfl])
  simpa using this
theorem pcs_glue : ∀ (r : List (List UInt8)) (x : List UInt8), ns x → (∀ y ∈ r, ns y) → pcs (glue x r) = x :: r
  | [], x, hx, _ => pcs_ns x hx
  | y :: r, x, hx, hr => by
    rw [glue, pcs_slash x hx, pcs_glue r y (hr y (by simp)) (fun z hz => hr z (by simp [hz]))]
theorem glue_pcs : ∀ (s : List UInt8) p r, pcs s = p :: r → glue p r = s ∧ ns p ∧ ∀ y ∈ r, ns y
  | [], p, r, h => by
    simp only [pcs, List.cons.injEq] at h
    obtain ⟨rfl, rfl⟩ := h
    exact ⟨rfl, ns_nil, fun y hy => by cases hy⟩
  | b :: s, p, r, h => by
    obtain ⟨q, t, hq⟩ := pcs_form s
    obtain ⟨i1, i2, i3⟩ := glue_pcs s q t hq
    rw [pcs] at h
    split at h
    · rename_i hb
      subst hb
      rw [hq, List.cons.injEq] at h
      obtain ⟨rfl, rfl⟩ := h
      refine ⟨?_, ns_nil, fun y hy => ?_⟩
      · rw [glue, i1]; rfl
      · rcases List.mem_cons.mp hy with rfl | hy
        · exact i2
        · exact i3 y hy
    · rename_i hb
      rw [hq, List.cons.injEq] at h
      obtain ⟨rfl, rfl⟩ := h
      refine ⟨?_, fun c hc => ?_, i3⟩
      · cases t with
        | nil => simp only [List.headD_cons, List.tail_cons, glue] at i1 ⊢; rw [i1]
        | cons y t => simp only [List.headD_cons, List.tail_cons, glue, List.cons_append] at i1 ⊢; rw [i1]
      · simp only [List.headD_cons, List.mem_cons] at hc
        rcases hc with rfl | hc
        · exact hb
        · exact i2 c hc
theorem glue_len : ∀ (r : List (List UInt8)) (x : List UInt8), (glue x r).length = x.length + ((r.map List.length).sum + r.length)
  | [], x => by simp [glue]
  | y :: r, x => by
    rw [glue, List.length_append, List.length_cons, glue_len r y]
    simp only [List.map_cons, List.sum_cons, List.length_cons]
    omega
theorem join_glue : ∀ (r : List (List UInt8)) (x : List UInt8), Lib.join (x :: r) [47] = glue x r
  | [], x => Lib.join_one x [47]
  | y :: r, x => by
    rw [Lib.join_cons, glue, ← join_glue r y, Lib.join_cons]
    simp [Lib.joinTail]
theorem splitK_pcs : ∀ (k : Nat) (s : List UInt8), Lib.count s [47] = k → Lib.splitK [47] 0 k s = pcs s := by
  intro k s
  induction s generalizing k with
  | nil =>
    intro h
    rw [Lib.count_one] at h
    simp at h
    subst h
    rfl
  | cons b s ih =>
    intro h
    by_cases hb : b = 47
    · subst hb
      rw [Lib.count_cons_eq] at h
      have hi : Lib.index (47 :: s) [47] = ((0 : Nat) : Int) := by unfold Lib.index; rw [if_pos (by simp [List.isPrefixOf])]; rfl
      obtain ⟨j, rfl⟩ : ∃ j, k = j + 1 := ⟨k - 1, by omega⟩
      rw [Lib.splitK, hi, if_neg (by decide), pcs, if_pos rfl]
      simp only [Int.toNat_natCast, Nat.zero_add, Nat.add_zero, List.take_zero, List.length_singleton, List.drop_succ_cons, List.drop_zero]
      rw [ih j (by omega)]
    · rw [Lib.count_cons_ne _ _ _ hb] at h
      have ih' := ih k h
      rw [pcs, if_neg hb, ← ih']
      have hp : List.isPrefixOf [47] (b :: s) = false := by simp [List.isPrefixOf, Ne.symm hb]
      cases k with
      | zero => simp [Lib.splitK]
      | succ k =>
        have h0 : 0 < Lib.count s [47] := by omega
        obtain ⟨i, hj⟩ := Lib.index_of_count h0
        have hi : Lib.index (b :: s) [47] = ((i + 1 : Nat) : Int) := by
          unfold Lib.index
          rw [hp, hj]
          have : ((i : Int) == -1) = false := by rw [beq_eq_false_iff_ne]; omega
          simp [this]
        rw [Lib.splitK, Lib.splitK, hi, hj, if_neg (by rw [beq_iff_eq]; omega), if_neg (by rw [beq_iff_eq]; omega)]
        simp only [Int.toNat_natCast, Nat.add_zero, List.headD_cons, List.tail_cons, List.length_singleton, List.take_succ_cons, List.drop_succ_cons]
theorem split_pcs (s : ByteArray) : (Lib.splitB (bs [47]) 0 (Lib.countB s (bs [47])) s).map (·.data.toList) = pcs s.data.toList := by
  rw [Lib.splitB_data]
  exact splitK_pcs _ _ rfl

/-- the key of a word and parts -/
def key (w : List UInt8) (ps : List (List UInt8)) : List UInt8 := glue (esc w) (ps.map esc)
/-- the texts that the key's pieces are read as -/
def txt (s : List UInt8) : List (List UInt8) := (pcs s).map une
/-- s is a key -/
def isKey (s : List UInt8) : Prop := ∃ w ps, key w ps = s
theorem pcs_key (w : List UInt8) (ps : List (List UInt8)) : pcs (key w ps) = esc w :: ps.map esc :=
  pcs_glue _ _ (esc_ns w) (by intro y hy; obtain ⟨z, _, rfl⟩ := List.mem_map.mp hy; exact esc_ns z)
theorem map_une_esc (ps : List (List UInt8)) : (ps.map esc).map une = ps := by
  rw [List.map_map]
  exact (List.map_congr_left (fun a _ => une_esc a)).trans (List.map_id ps)
theorem txt_key (w : List UInt8) (ps : List (List UInt8)) : txt (key w ps) = w :: ps := by
  rw [txt, pcs_key, List.map_cons, une_esc, map_une_esc]
theorem key_inj {w v : List UInt8} {ps qs : List (List UInt8)} (h : key w ps = key v qs) : w = v ∧ ps = qs := by
  have e := txt_key w ps
  rw [h, txt_key] at e
  injection e with e1 e2
  exact ⟨e1.symm, e2.symm⟩
theorem txt_form (s : List UInt8) : ∃ w ps, txt s = w :: ps := by
  obtain ⟨p, r, h⟩ := pcs_form s
  exact ⟨une p, r.map une, by rw [txt, h]; rfl⟩
/-- the key made anew is s just where s is a key -/
theorem isKey_iff (s w : List UInt8) (ps : List (List UInt8)) (h : txt s = w :: ps) : key w ps = s ↔ isKey s := by
  constructor
  · intro e; exact ⟨w, ps, e⟩
  · rintro ⟨v, qs, rfl⟩
    rw [txt_key] at h
    injection h with e1 e2
    rw [e1, e2]

/-- a form read letter by letter -/
def shw : List UInt8 → Option (List UInt8)
  | [] => some []
  | [b] => if b = 37 then none else some [b]
  | b :: c :: l => if b = 37 then (if c = 112 then (shw l).map (37 :: ·) else if c = 115 then (shw l).map (47 :: ·) else none) else (shw (c :: l)).map (b :: ·)
theorem shw_cons {b : UInt8} (h : b ≠ 37) (l : List UInt8) : shw (b :: l) = (shw l).map (b :: ·) := by
  cases l with
  | nil => show (if b = 37 then none else some [b]) = _; rw [if_neg h]; rfl
  | cons c l => rw [shw, if_neg h]
theorem shw_esc : ∀ t, shw (esc t) = some t
  | [] => rfl
  | b :: t => by
    have ih := shw_esc t
    unfold esc
    split
    · rename_i h; subst h; rw [shw, if_pos rfl, if_pos rfl, ih]; rfl
    · rename_i h1
      split
      · rename_i h; subst h; rw [shw, if_pos rfl, if_neg (by decide), if_pos rfl, ih]; rfl
      · rw [shw_cons h1, ih]; rfl
theorem shw_some : ∀ (n : Nat) (l t : List UInt8), l.length ≤ n → ns l → shw l = some t → esc t = l
  | 0, l, t, hn, _, h => by
    have e : l = [] := List.eq_nil_of_length_eq_zero (by omega)
    subst e
    simp only [shw, Option.some.injEq] at h
    subst h
    rfl
  | n + 1, [], t, _, _, h => by
    simp only [shw, Option.some.injEq] at h
    subst h
    rfl
  | n + 1, b :: l, t, hn, hns, h => by
    by_cases hb : b = 37
    · subst hb
      cases l with
      | nil => rw [shw, if_pos rfl] at h; cases h
      | cons c l =>
        have hns' : ns l := fun x hx => hns x (by simp [hx])
        rw [shw, if_pos rfl] at h
        split at h
        · rename_i hc
          subst hc
          obtain ⟨t', ht, rfl⟩ := Option.map_eq_some_iff.mp h
          have ih := shw_some n l t' (by simp only [List.length_cons] at hn; omega) hns' ht
          rw [esc, if_pos rfl, ih]
        · split at h
          · rename_i hc
            subst hc
            obtain ⟨t', ht, rfl⟩ := Option.map_eq_some_iff.mp h
            have ih := shw_some n l t' (by simp only [List.length_cons] at hn; omega) hns' ht
            rw [esc, if_neg (by decide), if_pos rfl, ih]
          · cases h
    · rw [shw_cons hb] at h
      obtain ⟨t', ht, rfl⟩ := Option.map_eq_some_iff.mp h
      have ih := shw_some n l t' (by simp only [List.length_cons] at hn; omega) (fun x hx => hns x (by simp [hx])) ht
      rw [esc, if_neg hb, if_neg (hns b (by simp)), ih]
theorem shw_iff {l t : List UInt8} (h : ns l) : shw l = some t ↔ esc t = l :=
  ⟨shw_some _ l t (Nat.le_refl _) h, fun e => by rw [← e, shw_esc]⟩
theorem shw_len : ∀ (n : Nat) (l t : List UInt8), l.length ≤ n → shw l = some t → t.length ≤ l.length
  | 0, l, t, hn, h => by
    have e : l = [] := List.eq_nil_of_length_eq_zero (by omega)
    subst e
    simp only [shw, Option.some.injEq] at h
    subst h
    simp
  | n + 1, [], t, _, h => by
    simp only [shw, Option.some.injEq] at h
    subst h
    simp
  | n + 1, b :: l, t, hn, h => by
    by_cases hb : b = 37
    · subst hb
      cases l with
      | nil => rw [shw, if_pos rfl] at h; cases h
      | cons c l =>
        rw [shw, if_pos rfl] at h
        split at h
        · obtain ⟨t', ht, rfl⟩ := Option.map_eq_some_iff.mp h
          have ih := shw_len n l t' (by simp only [List.length_cons] at hn; omega) ht
          simp only [List.length_cons]; omega
        · split at h
          · obtain ⟨t', ht, rfl⟩ := Option.map_eq_some_iff.mp h
            have ih := shw_len n l t' (by simp only [List.length_cons] at hn; omega) ht
            simp only [List.length_cons]; omega
          · cases h
    · rw [shw_cons hb] at h
      obtain ⟨t', ht, rfl⟩ := Option.map_eq_some_iff.mp h
      have ih := shw_len n l t' (by simp only [List.length_cons] at hn; omega) ht
      simp only [List.length_cons]; omega
/-- all pieces read, or none -/
def shs : List (List UInt8) → Option (List (List UInt8))
  | [] => some []
  | p :: r => (shw p).bind fun t => (shs r).map (t :: ·)
theorem shs_map : ∀ (r : List (List UInt8)) (ts : List (List UInt8)), (∀ p ∈ r, ns p) → (shs r = some ts ↔ ts.map esc = r)
  | [], ts, _ => by
    rw [shs, Option.some.injEq]
    constructor
    · rintro rfl; rfl
    · intro h; exact (List.map_eq_nil_iff.mp h).symm
  | p :: r, ts, hns => by
    have ih := fun us => shs_map r us (fun q hq => hns q (by simp [hq]))
    have hp := fun t => @shw_iff p t (hns p (by simp))
    constructor
    · intro h
      rw [shs] at h
      obtain ⟨t, ht, h⟩ := Option.bind_eq_some_iff.mp h
      obtain ⟨us, hu, rfl⟩ := Option.map_eq_some_iff.mp h
      rw [List.map_cons, (hp t).mp ht, (ih us).mp hu]
    · intro h
      cases ts with
      | nil => cases h
      | cons t us =>
        rw [List.map_cons, List.cons.injEq] at h
        rw [shs, (hp t).mpr h.1, Option.bind_some, (ih us).mpr h.2]
        rfl
theorem shs_snoc (a b : List (List UInt8)) : shs (a ++ b) = (shs a).bind fun x => (shs b).map (x ++ ·) := by
  induction a with
  | nil => simp [shs]
  | cons p a ih =>
    rw [List.cons_append, shs, shs, ih]
    cases shw p with
    | none => rfl
    | some t =>
      cases shs a with
      | none => rfl
      | some x => cases shs b <;> rfl
/-- reading all pieces, where s is a key, and where it is none -/
theorem shs_key {s : List UInt8} (h : isKey s) : shs (pcs s) = some (txt s) := by
  obtain ⟨w, ps, rfl⟩ := h
  rw [txt_key, pcs_key]
  rw [shs_map _ _ (by
    intro p hp
    rcases List.mem_cons.mp hp with rfl | hp
    · exact esc_ns w
    · obtain ⟨z, _, rfl⟩ := List.mem_map.mp hp; exact esc_ns z)]
  rfl
theorem shs_none {s : List UInt8} (h : ¬ isKey s) : shs (pcs s) = none := by
  cases e : shs (pcs s) with
  | none => rfl
  | some ts =>
    obtain ⟨p, r, hp⟩ := pcs_form s
    obtain ⟨h1, h2, h3⟩ := glue_pcs s p r hp
    rw [hp, shs_map _ _ (by
      intro q hq
      rcases List.mem_cons.mp hq with rfl | hq
      · exact h2
      · exact h3 q hq)] at e
    cases ts with
    | nil => cases e
    | cons w ps =>
      rw [List.map_cons, List.cons.injEq] at e
      exact absurd ⟨w, ps, by rw [key, e.1, e.2, h1]⟩ h
end Go.Proofs.YtjmbbkjepgahgaaDoor.W
