/-
  Deeds of a journal, and pairs, as arguments.
-/
import Derived.Test.YtpjndgcliegloaaCRecs
import Derived.Test.YtpjndgcliegloaaCList
import Derived.Test.YtpjndgcliegloaaJMoved
import Derived.Test.YtpjndgcliegloaaJFresh
namespace Go.Proofs.Ytpjndgcliegloaa.W
open Go.ChangeShapes Go.WideShapes Go.ChangeAt Go.RowKit Go.Deep

theorem sameYes (a b : Value) (l : List KV) (w : World) (hP : Prs w a l) (hQ : Prs w b l) (hz : l.length ≤ 1000000000) : Calls Try.prog 11 #[a, b] w fun e w' => e = .returned (.bool true) ∧ Below w.heap.size w w' :=
  (rSame a b l l w hP hQ hz).mono fun _ _ ⟨he, hb⟩ => ⟨by rw [he, decide_eq_true rfl], hb⟩

structure Deed where
  kd : Int
  k : ByteArray
  v : ByteArray
def Deed.val (d : Deed) : Value := .agg #[.int .i64 d.kd, .string d.k, .string d.v]
/-- the slice value v reads as the deeds l -/
def Deeds (w : World) (v : Value) (l : List Deed) : Prop :=
  ∃ A cap, v = .slice A l.length cap ∧ ∀ i (h : i < l.length), ∃ b off, A = some ⟨b, off, none⟩ ∧ w.cell? ⟨b, off + i * 3, none⟩ = some (.int .i64 l[i].kd) ∧ w.cell? ⟨b, off + i * 3 + 1, none⟩ = some (.string l[i].k) ∧ w.cell? ⟨b, off + i * 3 + 2, none⟩ = some (.string l[i].v)
noncomputable def deedFields : Array Field := match Try.prog.underlying 33 with
  | some (.struct fs) => fs
  | _ => #[]
theorem deed_und : Try.prog.underlying 33 = some (.struct deedFields) := by kernel_rfl
noncomputable def pairFields : Array Field := match Try.prog.underlying 51 with
  | some (.struct fs) => fs
  | _ => #[]
theorem pair_und : Try.prog.underlying 51 = some (.struct pairFields) := by kernel_rfl
section
variable {H : Type} {enc : TypeId × Value → H} {w : World} {held : Bool}
theorem open_deeds {A : Option Addr} {len cap : Nat} {d : DataW H} {p : List MemPlace} (h : DataW.Trod enc Try.prog w 0 (fun _ => true) held 23 (.slice A len cap) d p) :
    ∃ l : List Deed, Deeds w (.slice A len cap) l ∧ l.length ≤ maxLen := by
  obtain ⟨hc, hm, hr⟩ := open_recs Try.underlying23 deed_und (by kernel_rfl) (by kernel_rfl) (by rw [show deedFields.size = 3 by kernel_rfl]; decide) h
  rw [show deedFields.size = 3 by kernel_rfl] at hr
  obtain ⟨l, hl, hq⟩ := list_of len (fun i (x : Deed) => ∃ b off, A = some ⟨b, off, none⟩ ∧ w.cell? ⟨b, off + i * 3, none⟩ = some (.int .i64 x.kd) ∧ w.cell? ⟨b, off + i * 3 + 1, none⟩ = some (.string x.k) ∧ w.cell? ⟨b, off + i * 3 + 2, none⟩ = some (.string x.v)) (fun i hi => by
    obtain ⟨b, off, rfl, hf⟩ := hr i hi
    obtain ⟨f0, e0, t0⟩ : ∃ f : Field, deedFields[0]? = some f ∧ Try.prog.underlying f.type = some (.int .i64) := ⟨(deedFields[0]?).getD default, by kernel_rfl, by kernel_rfl⟩
    obtain ⟨f1, e1, t1⟩ : ∃ f : Field, deedFields[1]? = some f ∧ Try.prog.underlying f.type = some .string := ⟨(deedFields[1]?).getD default, by kernel_rfl, by kernel_rfl⟩
    obtain ⟨f2, e2, t2⟩ : ∃ f : Field, deedFields[2]? = some f ∧ Try.prog.underlying f.type = some .string := ⟨(deedFields[2]?).getD default, by kernel_rfl, by kernel_rfl⟩
    obtain ⟨v0, n0, y0, c0, r0⟩ := hf 0 f0 e0
    obtain ⟨v1, n1, y1, c1, r1⟩ := hf 1 f1 e1
    obtain ⟨v2, n2, y2, c2, r2⟩ := hf 2 f2 e2
    obtain ⟨a0, q0, _, _⟩ := DataW.trod_int t0 r0
    obtain ⟨a1, q1, _, _⟩ := DataW.trod_string t1 r1
    obtain ⟨a2, q2, _, _⟩ := DataW.trod_string t2 r2
    cases q0
    cases q1
    cases q2
    exact ⟨⟨a0, a1, a2⟩, b, off, rfl, c0, by rw [Nat.add_assoc]; exact c1, by rw [Nat.add_assoc]; exact c2⟩)
  subst hl
  exact ⟨l, ⟨A, cap, rfl, hq⟩, hm⟩
theorem open_prs {A : Option Addr} {len cap : Nat} {d : DataW H} {p : List MemPlace} (h : DataW.Trod enc Try.prog w 0 (fun _ => true) held 22 (.slice A len cap) d p) :
    ∃ l : List KV, Prs w (.slice A len cap) l ∧ l.length ≤ maxLen := by
  obtain ⟨hc, hm, hr⟩ := open_recs Try.underlying22 pair_und (by kernel_rfl) (by kernel_rfl) (by rw [show pairFields.size = 2 by kernel_rfl]; decide) h
  rw [show pairFields.size = 2 by kernel_rfl] at hr
  obtain ⟨l, hl, hq⟩ := list_of len (fun i (x : KV) => ∃ b off, A = some ⟨b, off, none⟩ ∧ w.cell? ⟨b, off + i * 2, none⟩ = some (.string x.1) ∧ w.cell? ⟨b, off + i * 2 + 1, none⟩ = some (.string x.2)) (fun i hi => by
    obtain ⟨b, off, rfl, hf⟩ := hr i hi
    obtain ⟨f0, e0, t0⟩ : ∃ f : Field, pairFields[0]? = some f ∧ Try.prog.underlying f.type = some .string := ⟨(pairFields[0]?).getD default, by kernel_rfl, by kernel_rfl⟩
    obtain ⟨f1, e1, t1⟩ : ∃ f : Field, pairFields[1]? = some f ∧ Try.prog.underlying f.type = some .string := ⟨(pairFields[1]?).getD default, by kernel_rfl, by kernel_rfl⟩
    obtain ⟨v0, n0, y0, c0, r0⟩ := hf 0 f0 e0
    obtain ⟨v1, n1, y1, c1, r1⟩ := hf 1 f1 e1
    obtain ⟨a0, q0, _, _⟩ := DataW.trod_string t0 r0
    obtain ⟨a1, q1, _, _⟩ := DataW.trod_string t1 r1
    cases q0
    cases q1
    exact ⟨(a0, a1), b, off, rfl, c0, by rw [Nat.add_assoc]; exact c1⟩)
  subst hl
  exact ⟨l, ⟨A, cap, rfl, hc, hq⟩, hm⟩
theorem open_deed {r : Reach} {b0 : Nat} {v : Value} {d : DataW H} {p : List MemPlace} (hv : Value.okWide Try.prog w r b0 33 v) (h : DataW.Trod enc Try.prog w 0 (fun _ => true) held 33 v d p) : ∃ a : Deed, v = a.val := by
  obtain ⟨f0, f1, f2, e, t0, t1, t2⟩ : ∃ f0 f1 f2 : Field, Try.prog.underlying 33 = some (.struct #[f0, f1, f2]) ∧ Try.prog.underlying f0.type = some (.int .i64) ∧ Try.prog.underlying f1.type = some .string ∧ Try.prog.underlying f2.type = some .string :=
    ⟨(deedFields[0]?).getD default, (deedFields[1]?).getD default, (deedFields[2]?).getD default, by kernel_rfl, by kernel_rfl, by kernel_rfl, by kernel_rfl⟩
  have h1 : oneCellFields Try.prog deedFields = true := by kernel_rfl
  have h2 : #[f0, f1, f2] = deedFields := by
    have h3 := e.symm.trans deed_und
    injection h3 with h3
    injection h3
  have hone : oneCellFields Try.prog #[f0, f1, f2] = true := by rw [h2]; exact h1
  obtain ⟨v0, v1, v2, y0, y1, y2, n, rfl, _, _, r0, r1, r2⟩ := Go.Joins.open_agg3 e hone (by kernel_rfl) hv h
  obtain ⟨a0, q0, _, _⟩ := DataW.trod_int t0 r0
  obtain ⟨a1, q1, _, _⟩ := DataW.trod_string t1 r1
  obtain ⟨a2, q2, _, _⟩ := DataW.trod_string t2 r2
  cases q0
  cases q1
  cases q2
  exact ⟨⟨a0, a1, a2⟩, rfl⟩
end
end Go.Proofs.Ytpjndgcliegloaa.W
