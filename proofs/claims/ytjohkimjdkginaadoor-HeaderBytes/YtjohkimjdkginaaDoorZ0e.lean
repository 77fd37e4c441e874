/-
  Texts of one level, merged: CLift, EHdr.
-/
import Derived.SliceStrings
import Derived.Test.YtjohkimjdkginaaDoorZ0d
import Derived.Test.YtjohkimjdkginaaDoorZ0a
/-
  Slices of strings and of bytes that came in as arguments.
-/
namespace Go.Proofs.YtjohkimjdkginaaDoor.W
open Go.ChangeShapes Go.WideShapes Go.ChangeAt Go.RowKit

section
variable {H : Type} {enc : TypeId × Value → H} {P : Program} {w : World} {held : Bool}
/-- a slice of strings that came in -/
theorem open_txs {t e : TypeId} {A : Option Addr} {len cap : Nat} {d : DataW H} {p : List MemPlace} (ht : P.underlying t = some (.slice e)) (he : P.underlying e = some .string) (hc : P.cellsOf e = 1)
    (h : DataW.Trod enc P w 0 (fun _ => true) held t (.slice A len cap) d p) : ∃ ss : List ByteArray, Txs w w.heap.size (.slice A len cap) ss ∧ ss.length ≤ maxLen := by
  obtain ⟨fuel, hf⟩ := h
  rcases open_strings ht he hc hf with ⟨hcs, _⟩ | ⟨a, l, c, ss, hcs, _, hl, hm, hz, _, hcell, _⟩
  · simp [Value.cells] at hcs
    obtain ⟨rfl, rfl, rfl⟩ := hcs
    exact ⟨[], Txs.nil _ _ _ _, by simp⟩
  · simp [Value.cells] at hcs
    obtain ⟨rfl, rfl, rfl⟩ := hcs
    have hz' : ss.length = cap := by simpa using hz
    have e : (ss.take len).length = len := by rw [List.length_take]; omega
    refine ⟨ss.take len, ⟨some a, cap, by rw [e], fun i hi => ?_⟩, by rw [e]; omega⟩
    have hi' : i < ss.length := by rw [List.length_take] at hi; omega
    obtain ⟨b, off, rfl⟩ := plain_addr (hcell 0 (by omega))
    have h1 := hcell i hi'
    rw [add_plain] at h1
    refine ⟨b, off, rfl, ?_, ?_⟩
    · have := World.block_lt_of_cell? w _ h1
      exact this
    · rw [h1, List.getElem_take]
      simp [List.getD, hi']
/-- a slice of bytes that came in -/
def Bytes (w : World) (B : Nat) (v : Value) (l : List UInt8) : Prop :=
  ∃ A cap, v = .slice A l.length cap ∧ ∀ i (h : i < l.length), ∃ b off, A = some ⟨b, off, none⟩ ∧ b < B ∧ w.cell? ⟨b, off + i, none⟩ = some (.int .u8 l[i].toNat)
theorem open_u8s {t e : TypeId} {A : Option Addr} {len cap : Nat} {d : DataW H} {p : List MemPlace} (ht : P.underlying t = some (.slice e)) (he : P.underlying e = some (.int .u8)) (hc : P.cellsOf e = 1)
    (h : DataW.Trod enc P w 0 (fun _ => true) held t (.slice A len cap) d p) : ∃ l : List UInt8, Bytes w w.heap.size (.slice A len cap) l ∧ l.length ≤ maxLen := by
  obtain ⟨fuel, hf⟩ := h
  rcases open_ints ht he hc hf with ⟨hcs, _⟩ | ⟨a, l, c, zs, hcs, _, hl, hm, hz, _, hcell, hwz⟩
  · simp [Value.cells] at hcs
    obtain ⟨rfl, rfl, rfl⟩ := hcs
    exact ⟨[], ⟨none, 0, rfl, fun i h => absurd h (by simp)⟩, by simp⟩
  · simp [Value.cells] at hcs
    obtain ⟨rfl, rfl, rfl⟩ := hcs
    have hz' : zs.length = cap := by simpa using hz
    have e : ((zs.take len).map fun n => UInt8.ofNat n.toNat).length = len := by rw [List.length_map, List.length_take]; omega
    refine ⟨(zs.take len).map fun n => UInt8.ofNat n.toNat, ⟨some a, cap, by rw [e], fun i hi => ?_⟩, by rw [e]; omega⟩
    have hi' : i < zs.length := by rw [List.length_map, List.length_take] at hi; omega
    obtain ⟨b, off, rfl⟩ := plain_addr (hcell 0 (by omega))
    have h1 := hcell i hi'
    rw [add_plain] at h1
    refine ⟨b, off, rfl, ?_, ?_⟩
    · have := World.block_lt_of_cell? w _ h1
      exact this
    · have hw := bounds_u8 (hwz zs[i] (List.getElem_mem hi'))
      rw [h1, List.getElem_map, List.getElem_take, toNat_ofNat (by omega)]
      simp [List.getD, hi']
      omega
end
end Go.Proofs.YtjohkimjdkginaaDoor.W
/-
  A header that came in as an argument.
-/
namespace Go.Proofs.YtjohkimjdkginaaDoor.W
open Go.ChangeShapes Go.WideShapes Go.ChangeAt Go.RowKit Go.Deep

noncomputable def hdFields : Array Field := match Tryd.prog.underlying 23 with
  | some (.struct fs) => fs
  | _ => #[]
theorem hd_und : Tryd.prog.underlying 23 = some (.struct hdFields) := by kernel_rfl
theorem five_of {α : Type} {cs : Array α} (h : cs.size = 5) : ∃ c0 c1 c2 c3 c4, cs = #[c0, c1, c2, c3, c4] := by
  obtain ⟨l⟩ := cs
  match l, h with
  | [c0, c1, c2, c3, c4], _ => exact ⟨c0, c1, c2, c3, c4, rfl⟩
section
variable {H : Type} {enc : TypeId × Value → H} {w : World} {held : Bool}
set_option maxRecDepth 100000 in
theorem open_hd {r : Reach} {b0 : Nat} {v : Value} {d : DataW H} {p : List MemPlace} (hv : Value.okWide Tryd.prog w r b0 23 v) (h : DataW.Trod enc Tryd.prog w 0 (fun _ => true) held 23 v d p) : ∃ x : Hdr, v = hdV x := by
  obtain ⟨cs, rfl, hsz⟩ := okWide_struct hd_und hv
  obtain ⟨c0, c1, c2, c3, c4, rfl⟩ := five_of (hsz.trans (by kernel_rfl))
  obtain ⟨fuel, hf⟩ := h
  obtain ⟨xs, n, _, _, _, hlen, hat⟩ := DataW.trod_struct hd_und hf
  have hone : oneCellFields Tryd.prog hdFields = true := by kernel_rfl
  have hfive : hdFields.size = 5 := by kernel_rfl
  have get : ∀ j, j < 5 → ∃ y, DataW.trod enc Tryd.prog w 0 (fun _ => true) held n ((hdFields[j]?).getD default).type [[c0, c1, c2, c3, c4].getD j c0] = some y := by
    intro j hj
    have e : hdFields[j]? = some ((hdFields[j]?).getD default) := by
      rw [Array.getElem?_eq_getElem (by omega)]
      rfl
    obtain ⟨ho, hk⟩ := hone_of hone j _ e
    have h1 := hat j _ e
    rw [ho, hk, List.getElem?_eq_getElem (by omega)] at h1
    refine ⟨xs[j]'(by omega), ?_⟩
    rw [← h1]
    congr 1
    match j, hj with
    | 0, _ => rfl
    | 1, _ => rfl
    | 2, _ => rfl
    | 3, _ => rfl
    | 4, _ => rfl
  obtain ⟨y0, r0⟩ := get 0 (by omega)
  obtain ⟨y1, r1⟩ := get 1 (by omega)
  obtain ⟨y2, r2⟩ := get 2 (by omega)
  obtain ⟨y3, r3⟩ := get 3 (by omega)
  obtain ⟨y4, r4⟩ := get 4 (by omega)
  clear get hat
  obtain ⟨a0, q0, _, _⟩ := DataW.trod_string (by kernel_rfl) r0
  obtain ⟨a1, q1, _, w1⟩ := DataW.trod_int (k := .i64) (by kernel_rfl) r1
  obtain ⟨a2, q2, _, w2⟩ := DataW.trod_int (k := .i64) (by kernel_rfl) r2
  obtain ⟨a3, q3, _, _⟩ := DataW.trod_string (by kernel_rfl) r3
  obtain ⟨a4, q4, _, _⟩ := DataW.trod_string (by kernel_rfl) r4
  simp only [List.getD_cons_zero, List.getD_cons_succ, List.cons.injEq, and_true] at q0 q1 q2 q3 q4
  subst q0 q1 q2 q3 q4
  exact ⟨⟨a0, a1, a2, a3, a4⟩, rfl⟩
end
end Go.Proofs.YtjohkimjdkginaaDoor.W
