/-
  Package pairs: the value of a key in a tree.
-/
import Derived.Test.YtpjndgcliegloaaTWith
import Derived.Deep.LoopGhost
namespace Go.Proofs.Ytpjndgcliegloaa.W
open Go.RowKit

/-- what Get answers -/
def retGet (o : Option ByteArray) : Value := .tuple #[.string (o.getD ⟨#[]⟩), .bool o.isSome]
set_option maxHeartbeats 2000000 in
theorem getC (k : ByteArray) (t : BT) (p : Option Addr) (w : World) (hT : IsTree w p t) (hu : Up t.list) :
    Calls Try.prog 38 #[.pointer p, .string k] w fun e w' => e = .returned (retGet (lget t.list k)) ∧ w' = w := by
  have HC := Lib.hid (fun x n (h : kc k x = n) W => compareAs h W)
  obtain ⟨n0, hn0⟩ : ∃ n0, n0 = t.list.length := ⟨_, rfl⟩
  obtain ⟨r, hr⟩ : ∃ r, r = lget t.list k := ⟨_, rfl⟩
  rw [← hr]
  have H0 := Lib.hid (And.intro hT (And.intro hu (And.intro hn0 hr)))
  clear hT hu hn0 hr
  go_enter Try.func38, Try.ntmps38
  go_wp2
  go_loopg [0] n0 (fun g v wr => wr = w ∧ ∃ q s, v = .pointer q ∧ Hid (IsTree w q s ∧ Up s.list ∧ g = s.list.length ∧ r = lget s.list k))
  case atStart => exact ⟨rfl, _, _, rfl, H0⟩
  case round =>
    obtain ⟨rfl, q, s, rfl, HS⟩ := hrel
    cases s with
    | leaf =>
      obtain rfl : q = none := HS.out.1
      go_wp2
      go_returns
      obtain rfl : r = none := HS.out.2.2.2
      exact ⟨rfl, rfl⟩
    | node l y rr =>
      obtain ⟨hT, hu, hg, hr⟩ := HS.out
      clear HS
      obtain ⟨b, pl, pr, rfl, hb, hl, hr2⟩ := hT
      have hm := up_mid hu
      obtain ⟨c0, c1, c2, c3, _⟩ := node_cells hb
      obtain ⟨yk, yv⟩ := y
      simp only at *
      simp only [BT.list, List.length_append, List.length_cons] at hg
      rcases kc_cases k yk with h | h | h
      · have HQ := HC.out yk _ h
        have HS2 := Lib.hid (show IsTree wr pl l ∧ Up l.list ∧ l.list.length = l.list.length ∧ r = lget l.list k from ⟨hl, hm.1, rfl, by rw [hr, BT.list, lget_left hu h]⟩)
        have HG := Lib.hid (show l.list.length < gk by omega)
        clear hb hl hr2 hm hu h hr hg
        go_wp2_with fail
        refine (HQ _).mono ?_
        rintro e w' ⟨rfl, rfl⟩
        go_wp2
        go_roundg l.list.length
        case measure => exact HG.out
        case rel => exact ⟨rfl, _, _, rfl, Lib.hid ⟨HS2.out.1, HS2.out.2.1, rfl, HS2.out.2.2.2⟩⟩
      · have HQ := HC.out yk _ h
        have HS2 := Lib.hid (show r = some yv by rw [hr, BT.list, lget_here hu h])
        clear hb hl hr2 hm hu h hr hg
        go_wp2_with fail
        refine (HQ _).mono ?_
        rintro e w' ⟨rfl, rfl⟩
        go_wp2
        go_returns
        rw [HS2.out]
        exact ⟨rfl, rfl⟩
      · have HQ := HC.out yk _ h
        have HS2 := Lib.hid (show IsTree wr pr rr ∧ Up rr.list ∧ rr.list.length = rr.list.length ∧ r = lget rr.list k from ⟨hr2, hm.2.1, rfl, by rw [hr, BT.list, lget_right hu h]⟩)
        have HG := Lib.hid (show rr.list.length < gk by omega)
        clear hb hl hr2 hm hu h hr hg
        go_wp2_with fail
        refine (HQ _).mono ?_
        rintro e w' ⟨rfl, rfl⟩
        go_wp2
        go_roundg rr.list.length
        case measure => exact HG.out
        case rel => exact ⟨rfl, _, _, rfl, Lib.hid ⟨HS2.out.1, HS2.out.2.1, rfl, HS2.out.2.2.2⟩⟩
end Go.Proofs.Ytpjndgcliegloaa.W
