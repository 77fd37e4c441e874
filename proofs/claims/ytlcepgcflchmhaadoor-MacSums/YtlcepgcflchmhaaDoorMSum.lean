/-
  mac.Sum, mac.Same.
-/
import Derived.Test.YtlcepgcflchmhaaDoorMMask
namespace Go.Proofs.YtlcepgcflchmhaaDoor.W
open Go.RowKit

/-- the block lies where Sum has laid it -/
def MsAt (f : List UInt8) (G : Nat) (w wr : World) : Prop := Blk wr G 27 (bv f) ∧ Below w.heap.size w wr ∧ Roots wr
theorem MsAt.next {f : List UInt8} {G : Nat} {w wr w' : World} (h : MsAt f G w wr) (hb : Below wr.heap.size wr w') : MsAt f G w w' := ⟨h.1.next hb, h.2.1.trans (hb.mono h.2.1.size), h.2.2.next hb⟩

set_option maxHeartbeats 1000000 in
set_option maxRecDepth 100000 in
theorem macSum_this (k s : ByteArray) (w : World) (hr : Roots w) (hk : k.size ≤ 1099511627776) (hs : s.size ≤ 1000000) (f m1 m2 q1 q2 : List UInt8) (h1 : mix 92 f = m1) (h2 : mix 54 f = m2)
    (h3 : shaOf (m2 ++ s.data.toList) = q1) (h4 : shaOf (m1 ++ q1) = q2) (hf : fill (keyOf k.data.toList) = f) :
    Calls Tryd.prog 6 #[.string k, .string s] w fun e w' => e = .returned (.string (bs q2)) ∧ Below w.heap.size w w' := by
  have fl : f.length = 64 := by rw [← hf, fill_len _ (keyOf_len _)]
  have hs64 : (bv f).size = 64 := by rw [bv_size, fl]
  have R0 := Lib.hid (filled k w hr hk)
  rw [hf] at R0
  have l1 : m1.length = 64 := by rw [← h1, mix_len, fl]
  have l2 : m2.length = 64 := by rw [← h2, mix_len, fl]
  have l3 : q1.length = 32 := by rw [← h3, shaOf_len]
  have a1 : ∀ W : World, (Op.stringOp .add (bs m2) s).run Tryd.prog W = .ok (.string (bs (m2 ++ s.data.toList))) W := fun W => by
    have h := run_add W m2 s.data.toList (by rw [size_list, l2]; omega)
    rwa [bs_of] at h
  have a2 : ∀ W : World, (Op.stringOp .add (bs m1) (bs q1)).run Tryd.prog W = .ok (.string (bs (m1 ++ q1))) W := fun W => run_add W m1 q1 (by omega)
  have S1 := Lib.hid (fun (W : World) (hW : Roots W) => sum (bs (m2 ++ s.data.toList)) W hW (by rw [bs_size, List.length_append, l2, size_list]; omega))
  have S2 := Lib.hid (fun (W : World) (hW : Roots W) => sum (bs (m1 ++ q1)) W hW (by rw [bs_size, List.length_append, l1, l3]; omega))
  rw [bs_data, h3] at S1
  rw [bs_data, h4] at S2
  have st := store_new64 f fl
  rw [← zero64b] at st
  have HR := Lib.hid hr
  have FL := Lib.hid fl
  have H1 := Lib.hid h1
  have H2 := Lib.hid h2
  clear h1 h2 h3 h4 hf fl hr l1 l2 l3
  go_enter Tryd.func6, Tryd.ntmps6
  go_wp2_with fail
  refine R0.out.mono ?_
  rintro e w1 ⟨rfl, b1⟩
  have HM := Lib.hid (show MsAt f w1.heap.size w (w1.alloc (.cells (bv f) 27)) from ⟨Blk.new _ _ _, b1.alloc b1.size _, (HR.out.next b1).alloc _⟩)
  clear R0 HR b1
  have st1 := st w1
  clear st
  go_wp2_with fail
  clear st1 hs64
  generalize w1.alloc (.cells (bv f) 27) = w2 at *
  generalize w1.heap.size = G at *
  clear w1
  refine (masked f 92 G w2 FL.out HM.out.1 m1 H1).mono ?_
  rintro e w3 ⟨rfl, b3⟩
  replace HM := Lib.hid (HM.out.next b3)
  clear b3 H1
  go_wp2_with fail
  refine (masked f 54 G w3 FL.out HM.out.1 m2 H2).mono ?_
  rintro e w4 ⟨rfl, b4⟩
  replace HM := Lib.hid (HM.out.next b4)
  clear b4 H2
  go_wp2_with fail
  refine (S1.out w4 HM.out.2.2).mono ?_
  rintro e w5 ⟨rfl, b5⟩
  replace HM := Lib.hid (HM.out.next b5)
  clear b5 S1 a1
  go_wp2_with fail
  refine (S2.out w5 HM.out.2.2).mono ?_
  rintro e w6 ⟨rfl, b6⟩
  replace HM := Lib.hid (HM.out.next b6)
  clear b6 S2 a2
  go_wp2
  go_ret
  exact ⟨rfl, HM.out.2.1⟩

theorem macSum (k s : ByteArray) (w : World) (hr : Roots w) (hk : k.size ≤ 1099511627776) (hs : s.size ≤ 1000000) :
    Calls Tryd.prog 6 #[.string k, .string s] w fun e w' => e = .returned (.string (bs (macOf k.data.toList s.data.toList))) ∧ Below w.heap.size w w' :=
  macSum_this k s w hr hk hs _ _ _ _ _ rfl rfl rfl rfl rfl

theorem same (a b : ByteArray) (w : World) : Calls Tryd.prog 8 #[.string a, .string b] w fun e w' => e = .returned (.bool (a.toList == b.toList)) ∧ w = w' := by
  go_enter Tryd.func8, Tryd.ntmps8
  go_wp2
  go_ret
  exact ⟨rfl, rfl⟩
end Go.Proofs.YtlcepgcflchmhaaDoor.W
