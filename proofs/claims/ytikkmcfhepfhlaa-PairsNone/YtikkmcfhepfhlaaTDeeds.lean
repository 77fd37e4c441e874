/-
  Deeds as arguments.
-/
import Derived.Test.YtikkmcfhepfhlaaCRecs
import Derived.Test.YtikkmcfhepfhlaaTAwake
namespace Go.Proofs.Ytikkmcfhepfhlaa.W
open Go.ChangeShapes Go.WideShapes Go.ChangeAt Go.RowKit Go.Deep

theorem sameYes (a b : Value) (l : List KV) (w : World) (hP : Prs w a l) (hQ : Prs w b l) (hz : l.length ≤ 1000000000) : Calls Try.prog 10 #[a, b] w fun e w' => e = .returned (.bool true) ∧ Below w.heap.size w w' :=
  (rSame a b l l w hP hQ hz).mono fun _ _ ⟨he, hb⟩ => ⟨by rw [he, decide_eq_true rfl], hb⟩
theorem deed_len (L : List KV) (kd : Int) (k v : ByteArray) : (deed L kd k v).length ≤ L.length + 1 := by
  unfold deed
  split
  · exact lset_len L
  · split
    · exact Nat.le_trans (ldel_len L) (by omega)
    · omega

structure Deed where
  kd : Int
  n : Int
  k : ByteArray
  v : ByteArray
def Deed.val (d : Deed) : Value := .agg #[.int .i64 d.kd, .int .i64 d.n, .string d.k, .string d.v]
/-- the slice value v reads as the deeds l -/
def Deeds (w : World) (v : Value) (l : List Deed) : Prop :=
  ∃ A cap, v = .slice A l.length cap ∧ ∀ i (h : i < l.length), ∃ b off, A = some ⟨b, off, none⟩ ∧ w.cell? ⟨b, off + i * 4, none⟩ = some (.int .i64 l[i].kd) ∧ w.cell? ⟨b, off + i * 4 + 1, none⟩ = some (.int .i64 l[i].n) ∧ w.cell? ⟨b, off + i * 4 + 2, none⟩ = some (.string l[i].k) ∧ w.cell? ⟨b, off + i * 4 + 3, none⟩ = some (.string l[i].v)
theorem list_of {α : Type} (n : Nat) (Q : Nat → α → Prop) (h : ∀ i, i < n → ∃ x, Q i x) : ∃ l : List α, l.length = n ∧ ∀ i (hi : i < l.length), Q i l[i] := by
  induction n with
  | zero => exact ⟨[], rfl, fun i hi => absurd hi (by simp)⟩
  | succ n ih =>
    obtain ⟨l, hl, hq⟩ := ih (fun i hi => h i (by omega))
    obtain ⟨x, hx⟩ := h n (by omega)
    refine ⟨l ++ [x], by simp [hl], fun i hi => ?_⟩
    by_cases e : i < l.length
    · rw [List.getElem_append_left e]; exact hq i e
    · have : i = l.length := by simp at hi; omega
      subst this
      rw [List.getElem_append_right (by omega)]
      simp only [Nat.sub_self, List.getElem_cons_zero]
      rw [hl]
      exact hx
noncomputable def deedFields : Array Field := match Try.prog.underlying 31 with
  | some (.struct fs) => fs
  | _ => #[]
theorem deed_und : Try.prog.underlying 31 = some (.struct deedFields) := by kernel_rfl
section
variable {H : Type} {enc : TypeId × Value → H} {w : World} {held : Bool}
theorem open_deeds {A : Option Addr} {len cap : Nat} {d : DataW H} {p : List MemPlace} (h : DataW.Trod enc Try.prog w 0 (fun _ => true) held 22 (.slice A len cap) d p) :
    ∃ l : List Deed, Deeds w (.slice A len cap) l ∧ l.length ≤ maxLen := by
  obtain ⟨hc, hm, hr⟩ := open_recs Try.underlying22 deed_und (by kernel_rfl) (by kernel_rfl) (by rw [show deedFields.size = 4 by kernel_rfl]; decide) h
  rw [show deedFields.size = 4 by kernel_rfl] at hr
  obtain ⟨l, hl, hq⟩ := list_of len (fun i (x : Deed) => ∃ b off, A = some ⟨b, off, none⟩ ∧ w.cell? ⟨b, off + i * 4, none⟩ = some (.int .i64 x.kd) ∧ w.cell? ⟨b, off + i * 4 + 1, none⟩ = some (.int .i64 x.n) ∧ w.cell? ⟨b, off + i * 4 + 2, none⟩ = some (.string x.k) ∧ w.cell? ⟨b, off + i * 4 + 3, none⟩ = some (.string x.v)) (fun i hi => by
    obtain ⟨b, off, rfl, hf⟩ := hr i hi
    obtain ⟨f0, e0, t0⟩ : ∃ f : Field, deedFields[0]? = some f ∧ Try.prog.underlying f.type = some (.int .i64) := ⟨(deedFields[0]?).getD default, by kernel_rfl, by kernel_rfl⟩
    obtain ⟨f1, e1, t1⟩ : ∃ f : Field, deedFields[1]? = some f ∧ Try.prog.underlying f.type = some (.int .i64) := ⟨(deedFields[1]?).getD default, by kernel_rfl, by kernel_rfl⟩
    obtain ⟨f2, e2, t2⟩ : ∃ f : Field, deedFields[2]? = some f ∧ Try.prog.underlying f.type = some .string := ⟨(deedFields[2]?).getD default, by kernel_rfl, by kernel_rfl⟩
    obtain ⟨f3, e3, t3⟩ : ∃ f : Field, deedFields[3]? = some f ∧ Try.prog.underlying f.type = some .string := ⟨(deedFields[3]?).getD default, by kernel_rfl, by kernel_rfl⟩
    obtain ⟨v0, n0, y0, c0, r0⟩ := hf 0 f0 e0
    obtain ⟨v1, n1, y1, c1, r1⟩ := hf 1 f1 e1
    obtain ⟨v2, n2, y2, c2, r2⟩ := hf 2 f2 e2
    obtain ⟨v3, n3, y3, c3, r3⟩ := hf 3 f3 e3
    obtain ⟨a0, q0, _, _⟩ := DataW.trod_int t0 r0
    obtain ⟨a1, q1, _, _⟩ := DataW.trod_int t1 r1
    obtain ⟨a2, q2, _, _⟩ := DataW.trod_string t2 r2
    obtain ⟨a3, q3, _, _⟩ := DataW.trod_string t3 r3
    cases q0
    cases q1
    cases q2
    cases q3
    exact ⟨⟨a0, a1, a2, a3⟩, b, off, rfl, c0, by rw [Nat.add_assoc]; exact c1, by rw [Nat.add_assoc]; exact c2, by rw [Nat.add_assoc]; exact c3⟩)
  subst hl
  exact ⟨l, ⟨A, cap, rfl, hq⟩, hm⟩
theorem open_deed {r : Reach} {b0 : Nat} {v : Value} {d : DataW H} {p : List MemPlace} (hv : Value.okWide Try.prog w r b0 31 v) (h : DataW.Trod enc Try.prog w 0 (fun _ => true) held 31 v d p) : ∃ a : Deed, v = a.val := by
  obtain ⟨f0, f1, f2, f3, e, t0, t1, t2, t3⟩ : ∃ f0 f1 f2 f3 : Field, Try.prog.underlying 31 = some (.struct #[f0, f1, f2, f3]) ∧ Try.prog.underlying f0.type = some (.int .i64) ∧ Try.prog.underlying f1.type = some (.int .i64) ∧ Try.prog.underlying f2.type = some .string ∧ Try.prog.underlying f3.type = some .string :=
    ⟨(deedFields[0]?).getD default, (deedFields[1]?).getD default, (deedFields[2]?).getD default, (deedFields[3]?).getD default, by kernel_rfl, by kernel_rfl, by kernel_rfl, by kernel_rfl, by kernel_rfl⟩
  have h1 : oneCellFields Try.prog deedFields = true := by kernel_rfl
  have h2 : #[f0, f1, f2, f3] = deedFields := by
    have h3 := e.symm.trans deed_und
    injection h3 with h3
    injection h3
  have hone : oneCellFields Try.prog #[f0, f1, f2, f3] = true := by rw [h2]; exact h1
  obtain ⟨v0, v1, v2, v3, y0, y1, y2, y3, n, rfl, _, _, r0, r1, r2, r3⟩ := Go.Joins.open_agg4 e hone (by kernel_rfl) hv h
  obtain ⟨a0, q0, _, _⟩ := DataW.trod_int t0 r0
  obtain ⟨a1, q1, _, _⟩ := DataW.trod_int t1 r1
  obtain ⟨a2, q2, _, _⟩ := DataW.trod_string t2 r2
  obtain ⟨a3, q3, _, _⟩ := DataW.trod_string t3 r3
  cases q0
  cases q1
  cases q2
  cases q3
  exact ⟨⟨a0, a1, a2, a3⟩, rfl⟩
end
end Go.Proofs.Ytikkmcfhepfhlaa.W
