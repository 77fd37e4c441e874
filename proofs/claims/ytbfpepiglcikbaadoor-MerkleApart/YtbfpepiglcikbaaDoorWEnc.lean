/-
  wire.Num, wire.Text and wire.Join: what each answers, for every argument; nothing that was there has turned.
-/
import Derived.Test.YtbfpepiglcikbaaDoorWAppend
import Derived.WalkLawsBesides
namespace Go.Proofs.YtbfpepiglcikbaaDoor.W
open Go.RowKit

/-- a text and an error, as Go returns them -/
def retSE (p : List UInt8 × Int) : Value := .tuple #[.string (bs p.1), .int .i64 p.2]
def encNum (n : Int) : List UInt8 × Int := if 0 ≤ n ∧ n ≤ 9007199254740992 then (num n.toNat, 0) else ([], 3)
def encText (s : ByteArray) : List UInt8 × Int := if s.size ≤ 65536 then (text s.data.toList, 0) else ([], 4)
def encJoin (l : List ByteArray) : List UInt8 × Int := if l.length ≤ 256 ∧ ∀ s ∈ l, s.size ≤ 65536 then (join (l.map fun s => s.data.toList), 0) else ([], 4)

set_option maxHeartbeats 1000000 in
theorem wNum (n : Int) (w : World) :
    Calls Tryd.prog 29 #[.int .i64 n] w fun e w' => e = .returned (retSE (encNum n)) ∧ Below w.heap.size w w' := by
  by_cases h0 : 0 ≤ n
  · by_cases h1 : n ≤ 9007199254740992
    · obtain ⟨m, rfl⟩ := Int.eq_ofNat_of_zero_le h0
      have HE := Lib.hid (show encNum m = (num m, 0) by simp [encNum, h1])
      have HA := Lib.hid (appendNum w.heap.size (.slice none 0 0) 0 [] m w w (OwnBuf_nil w _) (by omega) (by omega))
      go_enter Tryd.func29, Tryd.ntmps29
      go_wp2_with fail
      refine HA.out.mono ?_
      rintro e w1 ⟨v1, rfl, h2⟩
      have hs := run_string w.heap.size v1 (num m) w w1 (by simpa using h2)
      go_wp2
      go_ret2
      exact ⟨by rw [HE.out]; rfl, h2.2.1⟩
    · have HE := Lib.hid (show encNum n = ([], 3) by simp [encNum, h1])
      go_enter Tryd.func29, Tryd.ntmps29
      go_wp2
      go_ret2
      exact ⟨by rw [HE.out]; rfl, Below.refl _ _⟩
  · have HE := Lib.hid (show encNum n = ([], 3) by simp [encNum, h0])
    go_enter Tryd.func29, Tryd.ntmps29
    go_wp2
    go_ret2
    exact ⟨by rw [HE.out]; rfl, Below.refl _ _⟩

set_option maxHeartbeats 1000000 in
theorem wText (s : ByteArray) (w : World) :
    Calls Tryd.prog 22 #[.string s] w fun e w' => e = .returned (retSE (encText s)) ∧ Below w.heap.size w w' := by
  by_cases h1 : s.size ≤ 65536
  · have HE := Lib.hid (show encText s = (text s.data.toList, 0) by simp [encText, h1])
    have HA := Lib.hid (appendText w.heap.size (.slice none 0 0) 0 [] s w w (OwnBuf_nil w _) (by omega) (by omega))
    go_enter Tryd.func22, Tryd.ntmps22
    go_wp2_with fail
    refine HA.out.mono ?_
    rintro e w1 ⟨v1, rfl, h2⟩
    have hs := run_string w.heap.size v1 (text s.data.toList) w w1 (by simpa using h2)
    go_wp2
    go_ret2
    exact ⟨by rw [HE.out]; rfl, h2.2.1⟩
  · have HE := Lib.hid (show encText s = ([], 4) by simp [encText, h1])
    go_enter Tryd.func22, Tryd.ntmps22
    go_wp2
    go_ret2
    exact ⟨by rw [HE.out]; rfl, Below.refl _ _⟩
end Go.Proofs.YtbfpepiglcikbaaDoor.W
