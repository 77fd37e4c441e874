import Derived.Deep.RegionHeld3
import Derived.IntWalk
import Derived.Test.YtkejaepmoabikaaGreatDoorZ1a
import Derived.Test.YtkejaepmoabikaaGreatDoorZXRRead
import Derived.Test.YtkejaepmoabikaaGreatDoorZ0f
import Derived.Test.YtkejaepmoabikaaGreatDoorZ1c
import Derived.Test.YtkejaepmoabikaaGreatDoorZXRLacks
import Derived.Test.YtkejaepmoabikaaGreatDoorZ0g
import Derived.Test.YtkejaepmoabikaaGreatDoorZ1b
import Derived.Test.YtkejaepmoabikaaGreatDoorZXRBuild
import Derived.Test.YtkejaepmoabikaaGreatDoorZ0d
import Derived.Test.YtkejaepmoabikaaGreatDoorZ1d
import Derived.Test.YtkejaepmoabikaaGreatDoorZ0b
namespace Go.Proofs.YtkejaepmoabikaaGreatDoor.W
open Go.RowKit
open List renaming getElem_toArray → qA, getElem_cons_succ → qB, getElem_cons_zero → qC, setIfInBounds_toArray → qD, set_cons_zero → qE, set_cons_succ → qF
open Lib renaming hid → qH
open _root_.Go.Proofs.Tryz renaming prog → qP
set_option maxHeartbeats 8000000
set_option maxRecDepth 100000
section
variable {s : Value} {L : List KV} {w : World}
end
theorem cOpen_holds (L : List KV) (id : ByteArray) (h : Int) (pr : ByteArray) : PfIn (cOpen L id h pr).1.1 ∧ ∀ q ∈ (cOpen L id h pr).1.1.paths, q.length ≤ 1000000 ∧ ∀ y ∈ q, y.length ≤ 70000 := by
 have hz : PfIn Pf.zero ∧ ∀ q ∈ Pf.zero.paths, q.length ≤ 1000000 ∧ ∀ y ∈ q, y.length ≤ 70000 := ⟨⟨by decide, by decide, by decide, by decide, Nat.zero_le _, Nat.zero_le _⟩, fun q hq => by cases hq⟩
 unfold cOpen
 split
 ·exact hz
 ·split
  ·exact hz
  ·split
   ·exact hz
   ·split
    ·exact hz
    ·exact rd_holds pr
section
variable {s : Value} {L : List KV} {w : World}
end
theorem has_this (j : Nat) (id pr root : ByteArray) (h : Int) (p1 p2 : ByteArray) (x : Pf) (e : Int) (b : Bool) (w : World)
  (OP : Hid (∀ W, Since w W → Calls qP 54 #[.pointer (some ⟨j, 0, none⟩), .string id, .agg #[.int .i64 h, .string pr]] W fun en w' => ∃ n pos there A1 m1 k1 A2 m2 k2, en = .returned (.tuple #[.string root, .agg #[.int .i64 n, .int .i64 pos, .bool there, .slice A1 m1 k1, .slice A2 m2 k2], .int .i64 e]) ∧ Prf w' (.agg #[.int .i64 n, .int .i64 pos, .bool there, .slice A1 m1 k1, .slice A2 m2 k2]) x ∧ Since W w'))
  (TL : Hid (∀ W n pos there A1 m1 k1 A2 m2 k2, Since w W → Prf W (.agg #[.int .i64 n, .int .i64 pos, .bool there, .slice A1 m1 k1, .slice A2 m2 k2]) x → Calls qP 55 #[.string root, .agg #[.string p1, .string p2], .agg #[.int .i64 n, .int .i64 pos, .bool there, .slice A1 m1 k1, .slice A2 m2 k2]] W fun en w' => en = .returned (.bool b) ∧ Since W w')) :
  Calls qP 18 #[.pointer (some ⟨j, 0, none⟩), .string id, .agg #[.int .i64 h, .string pr], .agg #[.string p1, .string p2]] w fun en w' => en = .returned (.int .i64 (if e ≠ 0 then e else if b = true then 0 else 11)) ∧ Since w w' := by
 obtain ⟨ans, hr⟩ : ∃ y : Int, y = (if e ≠ 0 then e else if b = true then 0 else 11) := ⟨_, rfl⟩
 rw [← hr]
 have HR := qH hr
 clear hr
 have z0 : (w.alloc (.cells #[.int .i64 h, .string pr] 58)).heap.size = w.heap.size + 1 := by simp
 have Q := Blk.new (w.alloc (.cells #[.int .i64 h, .string pr] 58)) 36 #[.string p1, .string p2]
 rw [z0] at Q
 have Q0 := qH Q
 have A0 := qH ((Blk.new w 58 #[.int .i64 h, .string pr]).alloc (.cells #[.string p1, .string p2] 36))
 have S0 := qH (since_alloc (since_alloc (Since.refl w) (.cells #[.int .i64 h, .string pr] 58)) (.cells #[.string p1, .string p2] 36))
 clear z0 Q
 have a0 : ((w.alloc (.cells #[.int .i64 h, .string pr] 58)).alloc (.cells #[.string p1, .string p2] 36)).cell? ⟨w.heap.size, 0, none⟩ = some (.int .i64 h) := A0.out.c 0 rfl
 have a1 : ((w.alloc (.cells #[.int .i64 h, .string pr] 58)).alloc (.cells #[.string p1, .string p2] 36)).cell? ⟨w.heap.size, 1, none⟩ = some (.string pr) := A0.out.c 1 rfl
 go_enter Tryz.func18, Tryz.ntmps18
 go_wp2_with fail
 clear a0 a1
 refine (OP.out _ S0.out).mono ?_
 rintro en w1 ⟨n, pos, there, A1, m1, k1, A2, m2, k2, rfl, hP, q⟩
 have B1 := qH (Blk.new w1 112 #[.int .i64 n, .int .i64 pos, .bool there, .slice A1 m1 k1, .slice A2 m2 k2])
 have S1 := qH (since_alloc (since_two S0.out q) (.cells #[.int .i64 n, .int .i64 pos, .bool there, .slice A1 m1 k1, .slice A2 m2 k2] 112))
 have P1 := qH (hP.below ((Below.refl _ w1).alloc (Nat.le_refl _) (.cells #[.int .i64 n, .int .i64 pos, .bool there, .slice A1 m1 k1, .slice A2 m2 k2] 112)))
 have Q1 := qH ((Q0.out.next q.below).alloc (.cells #[.int .i64 n, .int .i64 pos, .bool there, .slice A1 m1 k1, .slice A2 m2 k2] 112))
 clear Q0
 clear A0 S0 OP q hP
 by_cases he : e = 0
 ·subst he
  have y0 : (w1.alloc (.cells #[.int .i64 n, .int .i64 pos, .bool there, .slice A1 m1 k1, .slice A2 m2 k2] 112)).cell? ⟨w1.heap.size, 0, none⟩ = some (.int .i64 n) := B1.out.c 0 rfl
  have y1 : (w1.alloc (.cells #[.int .i64 n, .int .i64 pos, .bool there, .slice A1 m1 k1, .slice A2 m2 k2] 112)).cell? ⟨w1.heap.size, 1, none⟩ = some (.int .i64 pos) := B1.out.c 1 rfl
  have y2 : (w1.alloc (.cells #[.int .i64 n, .int .i64 pos, .bool there, .slice A1 m1 k1, .slice A2 m2 k2] 112)).cell? ⟨w1.heap.size, 2, none⟩ = some (.bool there) := B1.out.c 2 rfl
  have y3 : (w1.alloc (.cells #[.int .i64 n, .int .i64 pos, .bool there, .slice A1 m1 k1, .slice A2 m2 k2] 112)).cell? ⟨w1.heap.size, 3, none⟩ = some (.slice A1 m1 k1) := B1.out.c 3 rfl
  have y4 : (w1.alloc (.cells #[.int .i64 n, .int .i64 pos, .bool there, .slice A1 m1 k1, .slice A2 m2 k2] 112)).cell? ⟨w1.heap.size, 4, none⟩ = some (.slice A2 m2 k2) := B1.out.c 4 rfl
  have z0 : (w1.alloc (.cells #[.int .i64 n, .int .i64 pos, .bool there, .slice A1 m1 k1, .slice A2 m2 k2] 112)).cell? ⟨w.heap.size + 1, 0, none⟩ = some (.string p1) := Q1.out.c 0 rfl
  have z1 : (w1.alloc (.cells #[.int .i64 n, .int .i64 pos, .bool there, .slice A1 m1 k1, .slice A2 m2 k2] 112)).cell? ⟨w.heap.size + 1, 1, none⟩ = some (.string p2) := Q1.out.c 1 rfl
  go_wp2_with fail
  refine (TL.out _ _ _ _ _ _ _ _ _ _ S1.out P1.out).mono ?_
  rintro en w2 ⟨rfl, q⟩
  have S2 := qH (since_two S1.out q)
  clear TL S1 P1 B1 q y0 y1 y2 y3 y4 Q1 z0 z1
  cases b with
  | true =>
   have hr := HR.out
   rw [if_neg (by simp), if_pos rfl] at hr
   subst hr
   clear HR
   go_wp2
   go_ret
   exact ⟨rfl, S2.out⟩
  | false =>
   have hr := HR.out
   rw [if_neg (by simp), if_neg (by simp)] at hr
   subst hr
   clear HR
   go_wp2
   go_ret
   exact ⟨rfl, S2.out⟩
 ·have heb : (e != 0) = true := by rw [bne_iff_ne]; exact he
  have hr := HR.out
  rw [if_pos he] at hr
  subst hr
  clear HR he TL B1 P1 Q1
  go_wp2
  go_ret
  exact ⟨rfl, S1.out⟩
theorem lacks_this (j : Nat) (id pr root : ByteArray) (h : Int) (p1 : ByteArray) (x : Pf) (e : Int) (b : Bool) (w : World)
  (OP : Hid (∀ W, Since w W → Calls qP 54 #[.pointer (some ⟨j, 0, none⟩), .string id, .agg #[.int .i64 h, .string pr]] W fun en w' => ∃ n pos there A1 m1 k1 A2 m2 k2, en = .returned (.tuple #[.string root, .agg #[.int .i64 n, .int .i64 pos, .bool there, .slice A1 m1 k1, .slice A2 m2 k2], .int .i64 e]) ∧ Prf w' (.agg #[.int .i64 n, .int .i64 pos, .bool there, .slice A1 m1 k1, .slice A2 m2 k2]) x ∧ Since W w'))
  (TL : Hid (∀ W n pos there A1 m1 k1 A2 m2 k2, Since w W → Prf W (.agg #[.int .i64 n, .int .i64 pos, .bool there, .slice A1 m1 k1, .slice A2 m2 k2]) x → Calls qP 58 #[.string root, .string p1, .agg #[.int .i64 n, .int .i64 pos, .bool there, .slice A1 m1 k1, .slice A2 m2 k2]] W fun en w' => en = .returned (.bool b) ∧ Since W w')) :
  Calls qP 20 #[.pointer (some ⟨j, 0, none⟩), .string id, .agg #[.int .i64 h, .string pr], .string p1] w fun en w' => en = .returned (.int .i64 (if e ≠ 0 then e else if b = true then 0 else 11)) ∧ Since w w' := by
 obtain ⟨ans, hr⟩ : ∃ y : Int, y = (if e ≠ 0 then e else if b = true then 0 else 11) := ⟨_, rfl⟩
 rw [← hr]
 have HR := qH hr
 clear hr
 have A0 := qH (Blk.new w 58 #[.int .i64 h, .string pr])
 have S0 := qH (since_alloc (Since.refl w) (.cells #[.int .i64 h, .string pr] 58))
 have a0 : (w.alloc (.cells #[.int .i64 h, .string pr] 58)).cell? ⟨w.heap.size, 0, none⟩ = some (.int .i64 h) := A0.out.c 0 rfl
 have a1 : (w.alloc (.cells #[.int .i64 h, .string pr] 58)).cell? ⟨w.heap.size, 1, none⟩ = some (.string pr) := A0.out.c 1 rfl
 go_enter Tryz.func20, Tryz.ntmps20
 go_wp2_with fail
 clear a0 a1
 refine (OP.out _ S0.out).mono ?_
 rintro en w1 ⟨n, pos, there, A1, m1, k1, A2, m2, k2, rfl, hP, q⟩
 have B1 := qH (Blk.new w1 112 #[.int .i64 n, .int .i64 pos, .bool there, .slice A1 m1 k1, .slice A2 m2 k2])
 have S1 := qH (since_alloc (since_two S0.out q) (.cells #[.int .i64 n, .int .i64 pos, .bool there, .slice A1 m1 k1, .slice A2 m2 k2] 112))
 have P1 := qH (hP.below ((Below.refl _ w1).alloc (Nat.le_refl _) (.cells #[.int .i64 n, .int .i64 pos, .bool there, .slice A1 m1 k1, .slice A2 m2 k2] 112)))
 clear A0 S0 OP q hP
 by_cases he : e = 0
 ·subst he
  have y0 : (w1.alloc (.cells #[.int .i64 n, .int .i64 pos, .bool there, .slice A1 m1 k1, .slice A2 m2 k2] 112)).cell? ⟨w1.heap.size, 0, none⟩ = some (.int .i64 n) := B1.out.c 0 rfl
  have y1 : (w1.alloc (.cells #[.int .i64 n, .int .i64 pos, .bool there, .slice A1 m1 k1, .slice A2 m2 k2] 112)).cell? ⟨w1.heap.size, 1, none⟩ = some (.int .i64 pos) := B1.out.c 1 rfl
  have y2 : (w1.alloc (.cells #[.int .i64 n, .int .i64 pos, .bool there, .slice A1 m1 k1, .slice A2 m2 k2] 112)).cell? ⟨w1.heap.size, 2, none⟩ = some (.bool there) := B1.out.c 2 rfl
  have y3 : (w1.alloc (.cells #[.int .i64 n, .int .i64 pos, .bool there, .slice A1 m1 k1, .slice A2 m2 k2] 112)).cell? ⟨w1.heap.size, 3, none⟩ = some (.slice A1 m1 k1) := B1.out.c 3 rfl
  have y4 : (w1.alloc (.cells #[.int .i64 n, .int .i64 pos, .bool there, .slice A1 m1 k1, .slice A2 m2 k2] 112)).cell? ⟨w1.heap.size, 4, none⟩ = some (.slice A2 m2 k2) := B1.out.c 4 rfl
  go_wp2_with fail
  refine (TL.out _ _ _ _ _ _ _ _ _ _ S1.out P1.out).mono ?_
  rintro en w2 ⟨rfl, q⟩
  have S2 := qH (since_two S1.out q)
  clear TL S1 P1 B1 q y0 y1 y2 y3 y4
  cases b with
  | true =>
   have hr := HR.out
   rw [if_neg (by simp), if_pos rfl] at hr
   subst hr
   clear HR
   go_wp2
   go_ret
   exact ⟨rfl, S2.out⟩
  | false =>
   have hr := HR.out
   rw [if_neg (by simp), if_neg (by simp)] at hr
   subst hr
   clear HR
   go_wp2
   go_ret
   exact ⟨rfl, S2.out⟩
 ·have heb : (e != 0) = true := by rw [bne_iff_ne]; exact he
  have hr := HR.out
  rw [if_pos he] at hr
  subst hr
  clear HR he TL B1 P1
  go_wp2
  go_ret
  exact ⟨rfl, S1.out⟩
section
variable {w : World} {S : Nat → Prop} {j m : Nat} {Lv : List (List KV)} {L : List KV}
theorem hasP14 (hJ : Jr w S j Lv L m) (hs : Sized L) (hL : PLay w) (hr : Roots w) (id : ByteArray) (hid : id.size ≤ 1000000) (h : Int) (pr : ByteArray) (hpr : pr.size ≤ 9223372036854775807) (p : KV) :
  Calls qP 18 #[.pointer (some ⟨j, 0, none⟩), .string id, .agg #[.int .i64 h, .string pr], .agg #[.string p.1, .string p.2]] w fun en w' => en = .returned (.int .i64 (cHas L id h pr p)) ∧ Since w w' := by
 have OP := qH (fun W hW => evid_form hJ hs hL id hid h pr hpr W hW)
 obtain ⟨hI, hq⟩ := cOpen_holds L id h pr
 unfold cHas
 exact has_this j id pr (cOpen L id h pr).1.2 h p.1 p.2 (cOpen L id h pr).1.1 (cOpen L id h pr).2 (hasP (cOpen L id h pr).1.2.data.toList p (cOpen L id h pr).1.1) w OP (qH fun W n pos there A1 m1 k1 A2 m2 k2 hW hp => by
  have k := hasC (cOpen L id h pr).1.2.data.toList p _ _ W hp (hr.since hW) hI.n1 hq
  rw [bs_of] at k
  exact k)
theorem lacksP14 (hJ : Jr w S j Lv L m) (hs : Sized L) (hL : PLay w) (hr : Roots w) (id : ByteArray) (hid : id.size ≤ 1000000) (h : Int) (pr : ByteArray) (hpr : pr.size ≤ 9223372036854775807) (key : ByteArray) :
  Calls qP 20 #[.pointer (some ⟨j, 0, none⟩), .string id, .agg #[.int .i64 h, .string pr], .string key] w fun en w' => en = .returned (.int .i64 (cLacks L id h pr key)) ∧ Since w w' := by
 have OP := qH (fun W hW => evid_form hJ hs hL id hid h pr hpr W hW)
 obtain ⟨hI, hq⟩ := cOpen_holds L id h pr
 unfold cLacks
 exact lacks_this j id pr (cOpen L id h pr).1.2 h key (cOpen L id h pr).1.1 (cOpen L id h pr).2 (lacksP (cOpen L id h pr).1.2.data.toList key (cOpen L id h pr).1.1) w OP (qH fun W n pos there A1 m1 k1 A2 m2 k2 hW hp => by
  have k := lacksC (cOpen L id h pr).1.2.data.toList key _ _ W hp (hr.since hW) hI.n1 hq
  rw [bs_of] at k
  exact k)
end
theorem rBuildC (v : Value) (l : List KV) (key : ByteArray) (w : World) (hP : Prs w v l) (hz : l.length ≤ 900000) :
  Calls qP 57 #[v, .string key] w fun e w' => ∃ u, e = .returned u ∧ Prf w' u (bldAny l key) ∧ Since w w' := by
 have hP0 := hP
 obtain ⟨A, cap, rfl, hcap, hc⟩ := hP0
 have HI : ∀ W, Since w W → Calls qP 104 #[.slice A l.length cap] W fun e w' => e = .returned (.bool (decide (Up l))) ∧ Since W w' := fun W hW => risesC _ l W (hP.below hW.below) (by omega)
 have hp : ∀ (i : Nat), i < 1000000 → ∀ W, Since w W → Calls qP 105 #[.slice A l.length cap, .int .i64 i] W fun e w' => ∃ A m c, m ≤ c ∧ e = .returned (.slice A m c) ∧ OwnStrs W.heap.size (.slice A m c) (bss (pth l i)) W w' := fun i hi W hW => (rPathC _ l _ i W rfl hi (hP.below hW.below) (by omega)).mono fun e w' ⟨u, he, ho⟩ => by
  obtain ⟨A, m, c, rfl, h⟩ := own_roomy ho.1
  exact ⟨A, m, c, h, he, ho⟩
 by_cases hu : Up l
 ·rw [decide_eq_true hu] at HI
  have e0 : bldAny l key = bld l key := if_pos hu
  rw [e0]
  have hle := lat_le (l := l) (key := key)
  cases hg : lget l key with
  | some x =>
   have hat := lat_some hu hg
   obtain ⟨hlt, hel⟩ := List.getElem?_eq_some_iff.1 hat
   rw [bld_some hg]
   refine (rBuildIn A l.length cap (latN l key) key l (bss (pth l (latN l key))) w rfl hlt (by omega) (by rw [hel]) hc (fun k h hk => latN_less l key k h hk) (qH HI) (qH fun W hW => (hp (latN l key) (by omega) W hW).mono fun e w' ⟨A, m, c, _, he, ho⟩ => ⟨A, m, c, he, ho⟩)).mono ?_
   rintro e w' ⟨pv, rfl, ⟨g, pu, rfl, hB, hT, hR⟩, hs⟩
   exact ⟨_, rfl, ⟨_, _, rfl, Prs.nil _ _ _, pths_one hB hT hR⟩, hs⟩
  | none =>
   have hlh := low_high hle
   rw [bld_none hg]
   have hno := nearTo_of hle
   rw [← hno]
   refine rBuildOut A l.length cap (latN l key) (lowOf (latN l key)) (highOf (latN l key) l.length - lowOf (latN l key)) key l w rfl hle (by omega) rfl (by omega) (fun h => ⟨latN_here l key h, fun e => ?_⟩) hc (fun k h hk => latN_less l key k h hk) (qH HI) (qH fun k hk W hW => hp (lowOf (latN l key) + k) (by omega) W hW)
   rcases latN_parts hu key with ⟨h1, _⟩ | ⟨_, h2, _⟩ | ⟨_, _, h3, _⟩
   ·omega
   ·exact h2 e
   ·rw [h3] at hg; cases hg
 ·rw [decide_eq_false hu] at HI
  have e0 : bldAny l key = Pf.zero := if_neg hu
  rw [e0]
  refine (rBuildNo A l.length cap key w (qH HI)).mono ?_
  rintro e w' ⟨rfl, hs⟩
  exact ⟨_, rfl, Prf.zero w', hs⟩
theorem same14_this (j : Nat) (A A2 : Option Addr) (m c m2 c2 : Nat) (N : Int) (L : List KV) (b : Bool) (w : World)
  (K1 : Hid (∀ V W, Since w V → Since V W → Calls qP 44 #[.pointer (some ⟨j, 0, none⟩)] W fun en w' => ∃ B q r, en = .returned (.slice B q r) ∧ Prs w' (.slice B q r) L ∧ Since V w'))
  (K2 : Hid (∀ V W B q r, Since w V → Since V W → Prs W (.slice B q r) L → Calls qP 43 #[.slice B q r, .slice A m c] W fun en w' => en = .returned (.bool b) ∧ Since V w')) :
  Calls qP 13 #[.agg #[.pointer (some ⟨j, 0, none⟩), .slice A m c, .slice A2 m2 c2, .int .i64 N]] w fun en w' => en = .returned (.bool b) ∧ Since w w' := by
 have HB := qH (Blk.new w 29 #[.pointer (some ⟨j, 0, none⟩), .slice A m c, .slice A2 m2 c2, .int .i64 N])
 have S0 := qH (since_alloc (Since.refl w) (.cells #[.pointer (some ⟨j, 0, none⟩), .slice A m c, .slice A2 m2 c2, .int .i64 N] 29))
 go_enter Tryz.func13, Tryz.ntmps13
 go_wp2
 generalize w.alloc (.cells #[.pointer (some ⟨j, 0, none⟩), .slice A m c, .slice A2 m2 c2, .int .i64 N] 29) = V at *
 have k0 : V.cell? ⟨w.heap.size, 0, none⟩ = some (.pointer (some ⟨j, 0, none⟩)) := HB.out.c 0 rfl
 have k1 : V.cell? ⟨w.heap.size, 1, none⟩ = some (.slice A m c) := HB.out.c 1 rfl
 have r0 := Since.refl V
 have K1' := qH (fun W => K1.out V W S0.out)
 have K2' := qH (fun W B q r => K2.out V W B q r S0.out)
 clear K1 K2 HB
 go_region_held3 (fun W => W.cell? ⟨w.heap.size, 0, none⟩ = some (.pointer (some ⟨j, 0, none⟩)) ∧ W.cell? ⟨w.heap.size, 1, none⟩ = some (.slice A m c))
  (first | exact ⟨s3.cell k0, s3.cell k1⟩ | exact ⟨s4.cell k0, s4.cell k1⟩ | go_keep)
  (first
    | (go_at_call 44; refine (K1'.out _ (by exact r0)).mono ?_; clear K1'; rintro en w3 ⟨B, q, r, rfl, hP, s3⟩)
    | (go_at_call 43; refine (K2'.out _ _ _ _ (by exact s3) (by exact hP)).mono ?_; clear K2'; rintro en w4 ⟨rfl, s4⟩))
 all_goals go_wp2
 all_goals go_ret
 all_goals exact ⟨rfl, since_two S0.out s4⟩
theorem listed_form {W w' : World} {L : List KV} {en : Ending} (h : Listed L W en w') : ∃ B q r, en = .returned (.slice B q r) ∧ Prs w' (.slice B q r) L ∧ Since W w' := by
 obtain ⟨v, rfl, ho, hb⟩ := h
 have hp := Prs.of_own ho
 have hp' := hp
 obtain ⟨B, r, rfl, _, _⟩ := hp'
 exact ⟨B, _, r, rfl, hp, since_of hb⟩
theorem same14 {w : World} {S : Nat → Prop} {j m' : Nat} {L L' : List KV} {s : Value} {A2 : Option Addr} {m2 c2 : Nat} {N : Int} (hJ : Jr w S j [] L m') (hP : Prs w s L') (hm : m' ≤ 1000000000) :
  Calls qP 13 #[.agg #[.pointer (some ⟨j, 0, none⟩), s, .slice A2 m2 c2, .int .i64 N]] w fun en w' => en = .returned (.bool (decide (L = L'))) ∧ Since w w' := by
 have hl := hJ.len.1
 have hP0 := hP
 obtain ⟨A, c, rfl, _, _⟩ := hP0
 exact same14_this j A A2 _ c m2 c2 N L _ w
  (qH fun V W hV hW => (jList (hJ.below (since_two hV hW).below) hm).mono fun en w' h => by
    obtain ⟨B, q, r, h1, h2, h3⟩ := listed_form h
    exact ⟨B, q, r, h1, h2, since_two hW h3⟩)
  (qH fun V W B q r hV hW hp => (rSame _ _ L L' W hp (hP.below (since_two hV hW).below) (by omega)).mono fun _ _ ⟨he, hb⟩ => ⟨he, since_two hW (since_of hb)⟩)
theorem at14_raw (j : Option Addr) (A A2 : Option Addr) (m c m2 c2 : Nat) (N : Int) (key raw : ByteArray) (w : World) (h : raw ≠ ⟨#[]⟩) :
  Calls qP 19 #[.agg #[.pointer j, .slice A m c, .slice A2 m2 c2, .int .i64 N], .string key, .string raw] w fun en w' => en = .returned (.agg #[.int .i64 N, .string raw]) ∧ Since w w' := by
 have z0 : (w.alloc (.cells #[.pointer j, .slice A m c, .slice A2 m2 c2, .int .i64 N] 29)).heap.size = w.heap.size + 1 := by simp
 have HB := qH ((Blk.new w 29 #[.pointer j, .slice A m c, .slice A2 m2 c2, .int .i64 N]).alloc (.cells #[.int .i64 0, .string ⟨#[]⟩] 58))
 have O := Blk.new (w.alloc (.cells #[.pointer j, .slice A m c, .slice A2 m2 c2, .int .i64 N] 29)) 58 #[.int .i64 N, .string raw]
 rw [z0] at O
 have D := qH (And.intro O (since_alloc (since_alloc (Since.refl w) (.cells #[.pointer j, .slice A m c, .slice A2 m2 c2, .int .i64 N] 29)) (.cells #[.int .i64 N, .string raw] 58)))
 have y3 : ((w.alloc (.cells #[.pointer j, .slice A m c, .slice A2 m2 c2, .int .i64 N] 29)).alloc (.cells #[.int .i64 0, .string ⟨#[]⟩] 58)).cell? ⟨w.heap.size, 3, none⟩ = some (.int .i64 N) := HB.out.c 3 rfl
 have hs : raw.toList.isEmpty = false := by
  cases hl : raw.toList with
  | nil => exact absurd (str_eq (by simpa using hl)) h
  | cons a r => rfl
 clear z0 O HB h
 go_enter Tryz.func19, Tryz.ntmps19
 go_wp2
 have D1 := D.out.1
 refine bodyPost_ret (v := .agg #[.int .i64 N, .string raw]) (by simp [results, Tryz.results19, go_sem, D1.c 0 rfl, D1.c 1 rfl]) rfl ?_
 exact ⟨rfl, D.out.2⟩
theorem at14_key (j : Option Addr) (A A2 : Option Addr) (m c m2 c2 : Nat) (N : Int) (key pr : ByteArray) (e : Int) (x : Pf) (w : World)
  (K1 : Hid (∀ W, Since w W → Calls qP 57 #[.slice A2 m2 c2, .string key] W fun en w' => ∃ n pos there A1 m1 k1 A3 m3 k3, en = .returned (.agg #[.int .i64 n, .int .i64 pos, .bool there, .slice A1 m1 k1, .slice A3 m3 k3]) ∧ Prf w' (.agg #[.int .i64 n, .int .i64 pos, .bool there, .slice A1 m1 k1, .slice A3 m3 k3]) x ∧ Since W w'))
  (K2 : Hid (∀ W v, Since w W → Prf W v x → Calls qP 56 #[v] W fun en w' => en = .returned (.tuple #[.string pr, .int .i64 e]) ∧ Since W w')) :
  Calls qP 19 #[.agg #[.pointer j, .slice A m c, .slice A2 m2 c2, .int .i64 N], .string key, .string ⟨#[]⟩] w fun en w' => en = .returned (.agg #[.int .i64 N, .string pr]) ∧ Since w w' := by
 have z0 : (w.alloc (.cells #[.pointer j, .slice A m c, .slice A2 m2 c2, .int .i64 N] 29)).heap.size = w.heap.size + 1 := by simp
 have HB := qH ((Blk.new w 29 #[.pointer j, .slice A m c, .slice A2 m2 c2, .int .i64 N]).alloc (.cells #[.int .i64 0, .string ⟨#[]⟩] 58))
 have O := Blk.new (w.alloc (.cells #[.pointer j, .slice A m c, .slice A2 m2 c2, .int .i64 N] 29)) 58 #[.int .i64 0, .string ⟨#[]⟩]
 rw [z0] at O
 have HO := qH O
 have S0 := qH (since_alloc (since_alloc (Since.refl w) (.cells #[.pointer j, .slice A m c, .slice A2 m2 c2, .int .i64 N] 29)) (.cells #[.int .i64 0, .string ⟨#[]⟩] 58))
 have y2 : ((w.alloc (.cells #[.pointer j, .slice A m c, .slice A2 m2 c2, .int .i64 N] 29)).alloc (.cells #[.int .i64 0, .string ⟨#[]⟩] 58)).cell? ⟨w.heap.size, 2, none⟩ = some (.slice A2 m2 c2) := HB.out.c 2 rfl
 clear z0 O
 go_enter Tryz.func19, Tryz.ntmps19
 go_wp2_with fail
 clear y2
 refine (K1.out _ S0.out).mono ?_
 rintro en w1 ⟨n, pos, there, A1, m1, k1, A3, m3, k3, rfl, hP, q⟩
 have B1 := qH (HB.out.next q.below)
 have O1 := qH (HO.out.next q.below)
 have S1 := qH (since_two S0.out q)
 have P1 := qH hP
 clear K1 HB HO S0 hP q
 go_wp2_with fail
 refine (K2.out _ _ S1.out P1.out).mono ?_
 rintro en w2 ⟨rfl, q⟩
 have B2 := qH (B1.out.next q.below)
 have O2 := qH (O1.out.next q.below)
 have S2 := qH (since_two S1.out q)
 clear K2 B1 O1 S1 P1 q
 have y3 : w2.cell? ⟨w.heap.size, 3, none⟩ = some (.int .i64 N) := B2.out.c 3 rfl
 have d0 : w2.cell? ⟨w.heap.size + 1, 0, none⟩ = some (.int .i64 0) := O2.out.c 0 rfl
 have d1 : w2.cell? ⟨w.heap.size + 1, 1, none⟩ = some (.string ⟨#[]⟩) := O2.out.c 1 rfl
 have f0 := O2.out.frozen 0
 have f1 := O2.out.frozen 1
 have D := qH (And.intro (put2 O2.out (.int .i64 N) (.string pr)) (since_put2 (b := w.heap.size + 1) S2.out (by omega) (.int .i64 N) (.string pr)))
 clear B2 O2 S2
 go_wp2
 have D1 := D.out.1
 refine bodyPost_ret (v := .agg #[.int .i64 N, .string pr]) (by simp [results, Tryz.results19, go_sem, D1.c 0 rfl, D1.c 1 rfl]) rfl ?_
 exact ⟨rfl, D.out.2⟩
abbrev wdV (j : Nat) (A : Option Addr) (m c : Nat) (A2 : Option Addr) (m2 c2 : Nat) (N : Int) : Value := .agg #[.pointer (some ⟨j, 0, none⟩), .slice A m c, .slice A2 m2 c2, .int .i64 N]
def Own14 (B : Nat) (S : Nat → Prop) (j : Nat) (L : List KV) (m : Nat) (w : World) : Prop := Jr w S j [] L m ∧ ∀ i, S i → B ≤ i
def BeginPost (w : World) (en : Ending) (w' : World) : Prop :=
 ∃ S j B q r, en = .returned (.tuple #[wdV j B q r none 0 0 0, .bool true]) ∧ Own14 w.heap.size S j store0 14 w' ∧ Prs w' (.slice B q r) store0 ∧ Since w w' ∧ ∀ g, (Value.slice B q r).ownBlock = some g → ¬ S g
theorem begin14 (w : World)
  (CN : Hid (∀ W S j, Since w W → Jr W S j [] [] 0 → Calls qP 23 #[.pointer (some ⟨j, 0, none⟩), .string ⟨#[111, 116, 104, 101, 114]⟩, .string ⟨#[107]⟩] W fun en w' => en = .returned (.tuple #[.string ⟨#[99, 108, 105, 101, 110, 116, 45, 48]⟩, .int .i64 0]) ∧ Jm W S j [] store0 14 w'))
  (RN : Hid (∀ W, Calls qP 25 #[.slice none 0 0, .string ⟨#[111, 116, 104, 101, 114]⟩, .string ⟨#[107]⟩] W fun en w' => ∃ B q r, en = .returned (.tuple #[.slice B q r, .string ⟨#[99, 108, 105, 101, 110, 116, 45, 48]⟩, .int .i64 0]) ∧ Prs w' (.slice B q r) store0 ∧ Since W w' ∧ ∀ g, (Value.slice B q r).ownBlock = some g → W.heap.size ≤ g)) :
  Calls qP 8 #[] w (BeginPost w) := by
 have O0 := qH (Blk.new w 29 #[.pointer none, .slice none 0 0, .slice none 0 0, .int .i64 0])
 have S0 := qH (since_alloc (Since.refl w) (.cells #[.pointer none, .slice none 0 0, .slice none 0 0, .int .i64 0] 29))
 go_enter Tryz.func8, Tryz.ntmps8
 go_wp2_with fail
 refine (jNewNil _).mono ?_
 rintro en w1 ⟨j, T, rfl, hJ, hb, hT⟩
 have hlt : w.heap.size < w1.heap.size := Nat.lt_of_lt_of_le O0.out.lt hb.size
 have O1 := qH (O0.out.next hb)
 have S1 := qH (since_of (step_below S0.out.below hb))
 have J1 := qH hJ
 have T1 := qH (fun i (hi : T i) => show w.heap.size < i from Nat.lt_of_lt_of_le O0.out.lt (hT i hi))
 clear O0 S0 hJ hb hT
 go_wp2_with fail
 refine (CN.out _ _ _ S1.out J1.out).mono ?_
 rintro en w2 ⟨rfl, hm⟩
 have O2 : Hid (Blk w2 w.heap.size 29 #[.pointer none, .slice none 0 0, .slice none 0 0, .int .i64 0]) := qH ((hm.1.block w.heap.size hlt (fun h => by have := T1.out _ h; omega)).trans O1.out)
 obtain ⟨S', g', hj'⟩ := hm.2
 have hb := S1.out.below.trans (hm.1.below S1.out.below.size (fun i hi => Nat.le_of_lt (T1.out i hi)))
 have N2 := qH (fun i (hi : S' i) => show w.heap.size < i from (g' i hi).elim (T1.out i) (fun h => Nat.lt_of_lt_of_le hlt h))
 have hS : ∀ i, S' i → w.heap.size ≤ i := fun i hi => Nat.le_of_lt (N2.out i hi)
 have hJ := hj'
 have J2 := qH (And.intro hJ hS)
 have S2 := qH (since_of hb)
 clear CN O1 S1 J1 T1 hm hJ hb hS hlt g' hj'
 go_wp2_with fail
 refine (RN.out _).mono ?_
 rintro en w3 ⟨B, q, r, rfl, hP, s, hg⟩
 have NB := qH (fun g (e : (Value.slice B q r).ownBlock = some g) => show ¬ S' g from fun hs => by have h1 := hg g e; have h2 := J2.out.1.bound g hs; omega)
 clear hg
 have O3 := qH (O2.out.next s.below)
 have J3 := qH (And.intro (J2.out.1.below s.below) J2.out.2)
 have S3 := qH (since_two S2.out s)
 have P3 := qH hP
 have N3 := N2
 clear RN N2 O2 J2 S2 hP s
 have d0 : w3.cell? ⟨w.heap.size, 0, none⟩ = some (.pointer none) := O3.out.c 0 rfl
 have d1 : w3.cell? ⟨w.heap.size, 1, none⟩ = some (.slice none 0 0) := O3.out.c 1 rfl
 have d2 : w3.cell? ⟨w.heap.size, 2, none⟩ = some (.slice none 0 0) := O3.out.c 2 rfl
 have d3 : w3.cell? ⟨w.heap.size, 3, none⟩ = some (.int .i64 0) := O3.out.c 3 rfl
 have f0 := O3.out.frozen 0
 have f1 := O3.out.frozen 1
 have f2 := O3.out.frozen 2
 have f3 := O3.out.frozen 3
 have D := qH (And.intro (put4 O3.out (.pointer (some ⟨j, 0, none⟩)) (.slice B q r) (.slice none 0 0) (.int .i64 0)) (since_put4 S3.out (Nat.le_refl _) (.pointer (some ⟨j, 0, none⟩)) (.slice B q r) (.slice none 0 0) (.int .i64 0)))
 have J4 := qH (J3.out.1.put4 O3.out (by decide) (fun h => by have := N3.out _ h; omega) (.pointer (some ⟨j, 0, none⟩)) (.slice B q r) (.slice none 0 0) (.int .i64 0))
 have P4 := qH (P3.out.put4 O3.out (.pointer (some ⟨j, 0, none⟩)) (.slice B q r) (.slice none 0 0) (.int .i64 0))
 have T4 := qH J3.out.2
 clear J3 P3 S3 O3 N3
 go_wp2
 have D1 := D.out.1
 refine bodyPost_ret (v := .tuple #[wdV j B q r none 0 0 0, .bool true]) (by simp [results, Tryz.results8, go_sem, D1.c 0 rfl, D1.c 1 rfl, D1.c 2 rfl, D1.c 3 rfl]) rfl ?_
 exact ⟨_, j, B, q, r, rfl, ⟨J4.out, T4.out⟩, P4.out, D.out.2, NB.out⟩
def farOf (l : List KV) : List KV := l.foldl (fun s p => lset s p.1 p.2) []
theorem far_take {l : List KV} {k : Nat} (h : k < l.length) : farOf (l.take (k + 1)) = lset (farOf (l.take k)) l[k].1 l[k].2 := by
 unfold farOf
 rw [List.take_succ_eq_append_getElem h, List.foldl_append]
 rfl
theorem far_up (l : List KV) : Up (farOf l) := by
 unfold farOf
 suffices h : ∀ s, Up s → Up (l.foldl (fun s p => lset s p.1 p.2) s) from h [] List.Pairwise.nil
 induction l with
 | nil => exact fun s h => h
 | cons p l ih => exact fun s h => ih _ (lset_up h)
theorem far_len (l : List KV) : (farOf l).length ≤ l.length := by
 unfold farOf
 suffices h : ∀ s : List KV, (l.foldl (fun s p => lset s p.1 p.2) s).length ≤ s.length + l.length by simpa using h []
 induction l with
 | nil => exact fun s => Nat.le_refl _
 | cons p l ih =>
  intro s
  have h1 := ih (lset s p.1 p.2)
  have h2 := lset_len (k := p.1) (v := p.2) s
  rw [List.foldl_cons, List.length_cons]
  omega
def OffS (S : Nat → Prop) (v : Value) (l : List KV) : Prop := l = [] ∨ ∀ g, v.ownBlock = some g → ¬ S g
theorem OffS.of {S S' : Nat → Prop} {W : World} {v : Value} {l : List KV} (h : Prs W v l) (hn : ∀ g, v.ownBlock = some g → ¬ S g) (gr : Grows S S' W) : OffS S' v l := by
 by_cases hl : l = []
 ·exact .inl hl
 ·exact .inr fun g hg => gr.not (h.lt hl g hg) (hn g hg)
def TellPost14 (w : World) (S : Nat → Prop) (j : Nat) (L1 : List KV) (m : Nat) (F : List KV) (N : Int) (en : Ending) (w' : World) : Prop :=
 ∃ S' B q r B2 q2 r2, en = .returned (.tuple #[wdV j B q r B2 q2 r2 N, .bool true]) ∧ Jr w' S' j [] L1 m ∧ Prs w' (.slice B q r) L1 ∧ Prs w' (.slice B2 q2 r2) F ∧ KeepS S w w' ∧ Grows S S' w ∧ OffS S' (.slice B q r) L1 ∧ OffS S' (.slice B2 q2 r2) F
structure TlAt (w : World) (S : Nat → Prop) (j : Nat) (A : Option Addr) (m c : Nat) (N : Int) (F : List KV) (W : World) : Prop where
 b : ∃ A2 m2 c2, Blk W w.heap.size 29 #[.pointer (some ⟨j, 0, none⟩), .slice A m c, .slice A2 m2 c2, .int .i64 N] ∧ Prs W (.slice A2 m2 c2) F ∧ ∀ g, (Value.slice A2 m2 c2).ownBlock = some g → ¬ S g
 r : Blk W (w.heap.size + 1) 29 #[.pointer none, .slice none 0 0, .slice none 0 0, .int .i64 0]
 s : Since w W
theorem tell14_this (j mm : Nat) (S : Nat → Prop) (A A2 Al : Option Addr) (m c m2 c2 cl : Nat) (N time : Int) (l L L1 : List KV) (rt raw : ByteArray) (h1 : ByteArray) (h2 h3 : Int) (h4 h5 : ByteArray) (w : World) (hl : l.length ≤ 1000) (hN0 : 0 ≤ N) (hN1 : N ≤ 1000000) (hmm : mm + 14 ≤ 1000000000) (hJ : Jr w S j [] L mm) (hL : Prs w (.slice Al l.length cl) l)
  (PUT : Hid (∀ (k : Nat) (h : k < l.length) W B q r, Since w W → Prs W (.slice B q r) (farOf (l.take k)) → Calls qP 26 #[.slice B q r, .string l[k].1, .string l[k].2] W fun en w' => ∃ B q r, en = .returned (.slice B q r) ∧ Prs w' (.slice B q r) (farOf (l.take (k + 1))) ∧ Since W w' ∧ ∀ g, (Value.slice B q r).ownBlock = some g → ¬ S g))
  (ROOT : Hid (∀ W B q r, Since w W → Prs W (.slice B q r) (farOf l) → Calls qP 27 #[.slice B q r] W fun en w' => ∃ C x y, en = .returned (.tuple #[.string rt, .slice C x y]) ∧ Since W w'))
  (SIGN : Hid (∀ W, Since w W → Calls qP 14 #[.string ⟨#[107]⟩, .agg #[.string ⟨#[111, 116, 104, 101, 114]⟩, .int .i64 (N + 1), .int .i64 time, .string rt, .string ⟨#[]⟩]] W fun en w' => en = .returned (.tuple #[.agg #[.string h1, .int .i64 h2, .int .i64 h3, .string h4, .string h5], .int .i64 0]) ∧ Since W w'))
  (HPUT : Hid (∀ W, Since w W → Calls qP 15 #[.agg #[.string h1, .int .i64 h2, .int .i64 h3, .string h4, .string h5]] W fun en w' => en = .returned (.tuple #[.string raw, .int .i64 0]) ∧ Since W w'))
  (RUP : Hid (∀ W, Since w W → Calls qP 28 #[.slice A m c, .string ⟨#[99, 108, 105, 101, 110, 116, 45, 48]⟩, .string raw] W fun en w' => ∃ B q r, en = .returned (.tuple #[.slice B q r, .int .i64 0]) ∧ Prs w' (.slice B q r) L1 ∧ Since W w' ∧ ∀ g, (Value.slice B q r).ownBlock = some g → ¬ S g))
  (CUP : Hid (∀ W, Since w W → Calls qP 16 #[.pointer (some ⟨j, 0, none⟩), .string ⟨#[99, 108, 105, 101, 110, 116, 45, 48]⟩, .string raw] W fun en w' => en = .returned (.int .i64 0) ∧ Jm W S j [] L1 (mm + 14) w')) :
  Calls qP 9 #[wdV j A m c A2 m2 c2 N, .slice Al l.length cl, .int .i64 time] w (TellPost14 w S j L1 (mm + 14) (farOf l) (N + 1)) := by
 obtain ⟨Al', cap', e, _, hc⟩ := hL
 cases e
 have HC := qH hc
 clear hc
 have z0 : (w.alloc (.cells #[.pointer (some ⟨j, 0, none⟩), .slice A m c, .slice none 0 0, .int .i64 N] 29)).heap.size = w.heap.size + 1 := by simp
 have R0 := Blk.new (w.alloc (.cells #[.pointer (some ⟨j, 0, none⟩), .slice A m c, .slice none 0 0, .int .i64 N] 29)) 29 #[.pointer none, .slice none 0 0, .slice none 0 0, .int .i64 0]
 rw [z0] at R0
 have H0 : Hid (TlAt w S j A m c N (farOf (l.take 0)) ((w.alloc (.cells #[.pointer (some ⟨j, 0, none⟩), .slice A m c, .slice none 0 0, .int .i64 N] 29)).alloc (.cells #[.pointer none, .slice none 0 0, .slice none 0 0, .int .i64 0] 29))) := qH ⟨⟨none, 0, 0, (Blk.new w _ _).alloc _, Prs.nil _ _ _, fun g hg => by simp [Value.ownBlock] at hg⟩, R0, since_alloc (since_alloc (Since.refl w) _) _⟩
 clear z0 R0
 go_enter Tryz.func9, Tryz.ntmps9
 go_wp2
 generalize (w.alloc (.cells #[.pointer (some ⟨j, 0, none⟩), .slice A m c, .slice none 0 0, .int .i64 N] 29)).alloc (.cells #[.pointer none, .slice none 0 0, .slice none 0 0, .int .i64 0] 29) = W0 at *
 go_loopw [8] (fun i wr => ∃ k : Nat, k ≤ l.length ∧ i = .int .i64 k ∧ Hid (TlAt w S j A m c N (farOf (l.take k)) wr)) (fun i _ => l.length - (intOf i).toNat)
 case atStart => exact ⟨0, Nat.zero_le _, rfl, H0⟩
 case round =>
  clear H0
  obtain ⟨k, hk, rfl, HT⟩ := hrel
  by_cases hlt : k < l.length
  ·obtain ⟨b, off, rfl, d0, d1⟩ := HC.out k hlt
   have hi0 : (0 : Int) ≤ k := by omega
   have hi1 : (k : Int) < (l.length : Int) := by omega
   have hwr : IntKind.i64.wrap ((k : Int) + 1) = (k : Int) + 1 := IntWalk.i64_in _ (by omega)
   have SW := qH HT.out.s
   have c0 := HT.out.s.cell d0
   have c1 := HT.out.s.cell d1
   have PK := qH (fun W B q r => PUT.out k hlt W B q r)
   obtain ⟨A3, m3, c3, hB, hF, _⟩ := HT.out.b
   have HB := qH hB
   have HF := qH hF
   have HR := qH HT.out.r
   obtain ⟨p1, hp1⟩ : ∃ p1, p1 = l[k].1 := ⟨_, rfl⟩
   obtain ⟨p2, hp2⟩ : ∃ p2, p2 = l[k].2 := ⟨_, rfl⟩
   rw [← hp1, ← hp2] at PK
   rw [← hp1] at c0 d0
   rw [← hp2] at c1 d1
   have e2 : wr.cell? ⟨w.heap.size, 2, none⟩ = some (.slice A3 m3 c3) := HB.out.c 2 rfl
   clear hp1 hp2 hB hF HT PUT HC
   go_wp2
   refine wp_region_held_drew (S := (fun W => W.cell? ⟨b, off + k * 2, none⟩ = some (.string p1) ∧ W.cell? ⟨b, off + k * 2 + 1, none⟩ = some (.string p2))) (by kernel_rfl) ⟨c0, c1⟩ (fun hHeld => ?_)
   simp only [List.size_toArray, List.length_cons, List.length_nil, Nat.reduceAdd, Array.replicate_succ, Array.replicate_zero, List.push_toArray, List.nil_append, List.cons_append]
   refine' wpAnyH_take (i := 0) (v := _) rfl (by kernel_rfl) (by kernel_rfl) (by kernel_rfl) (fun _ _ _ h => h) (Or.inl ⟨by rfl, fun w hSw => by (try dsimp only at hSw); go_simp; rfl⟩) (by assumption) ?_
   simp only [qA, qC, Act.put, qD, qE, qF]
   refine' wpAnyH_take (i := 2) (v := _) rfl (by kernel_rfl) (by kernel_rfl) (by kernel_rfl) (fun _ _ _ h => h) (Or.inl ⟨by rfl, fun w hSw => by (try dsimp only at hSw); go_simp; rfl⟩) (by assumption) ?_
   simp only [qA, qB, qC, Act.put, qD, qE, qF]
   refine' wpAnyH_take (i := 3) (v := _) rfl (by kernel_rfl) (by kernel_rfl) (by kernel_rfl) (fun _ _ _ h => h) (Or.inl ⟨by rfl, fun w hSw => by (try dsimp only at hSw); go_simp; rfl⟩) (by assumption) ?_
   simp only [qA, qB, qC, Act.put, qD, qE, qF]
   refine' wpAnyH_take (i := 4) (v := _) rfl (by kernel_rfl) (by kernel_rfl) (by kernel_rfl) (fun _ _ _ h => h) (Or.inl ⟨by rfl, fun w hSw => by (try dsimp only at hSw); go_simp; rfl⟩) (by assumption) ?_
   simp only [qA, qB, qC, Act.put, qD, qE, qF]
   refine' wpAnyH_take (i := 5) (v := _) rfl (by kernel_rfl) (by kernel_rfl) (by kernel_rfl) (fun _ _ _ h => h) (Or.inl ⟨by rfl, fun w hSw => by (try dsimp only at hSw); go_simp; rfl⟩) (by assumption) ?_
   simp only [qA, qB, qC, Act.put, qD, qE, qF]
   refine' wpAnyH_take (i := 6) (v := _) rfl (by kernel_rfl) (by kernel_rfl) (by kernel_rfl) (fun _ _ _ h => h) (Or.inl ⟨by rfl, fun w hSw => by (try dsimp only at hSw); go_simp; rfl⟩) (by assumption) ?_
   simp only [qA, qB, qC, Act.put, qD, qE, qF]
   refine' wpAnyH_take (i := 7) (v := _) rfl (by kernel_rfl) (by kernel_rfl) (by kernel_rfl) (fun _ _ _ h => h) (Or.inl ⟨by rfl, fun w hSw => by (try dsimp only at hSw); go_simp; rfl⟩) (by assumption) ?_
   simp only [qA, qB, qC, Act.put, qD, qE, qF]
   refine' wpAnyH_take (i := 8) (v := _) rfl (by kernel_rfl) (by kernel_rfl) (by kernel_rfl) (fun _ _ _ h => h) (Or.inl ⟨by rfl, fun w hSw => by (try dsimp only at hSw); go_simp; rfl⟩) (by assumption) ?_
   simp only [qA, qB, qC, Act.put, qD, qE, qF]
   refine' wpAnyH_take (i := 9) (v := _) rfl (by kernel_rfl) (by kernel_rfl) (by kernel_rfl) (fun _ _ _ h => h) (Or.inl ⟨by rfl, fun w hSw => by (try dsimp only at hSw); go_simp; rfl⟩) (by assumption) ?_
   simp only [qA, qB, qC, Act.put, qD, qE, qF]
   refine' wpAnyH_take (i := 10) (v := _) rfl (by kernel_rfl) (by kernel_rfl) (by kernel_rfl) (fun _ _ _ h => h) (Or.inl ⟨by rfl, fun w hSw => by (try dsimp only at hSw); go_simp; rfl⟩) (by assumption) ?_
   simp only [qA, qB, qC, Act.put, qD, qE, qF]
   refine' wpAnyH_take (i := 11) (v := _) rfl (by kernel_rfl) (by kernel_rfl) (by kernel_rfl) (fun _ _ _ h => h) (Or.inl ⟨by rfl, fun w hSw => by (try dsimp only at hSw); go_simp; rfl⟩) (by assumption) ?_
   simp only [qA, qB, qC, Act.put, qD, qE, qF]
   refine wpAnyH_ready (rs := [1]) (by kernel_rfl) (by simp) (AllReadyH.cons rfl (fun K hK => ?_) AllReadyH.nil)
   go_simp
   refine hK.out _ _ ⟨c0, c1⟩ (fun hHeld => ?_)
   clear hK K
   simp only [qD, qE, qF]
   refine wpAnyH_ready (rs := [12]) (by kernel_rfl) (by simp) (AllReadyH.cons rfl (fun K hK => ?_) AllReadyH.nil)
   go_simp
   go_at_call 26
   refine (PK.out _ _ _ _ (since_drew SW.out) (HF.out.below ((Below.refl _ wr).drew))).mono ?_
   rintro en w5 ⟨B5, q5, r5, rfl, P5, s5, n5⟩
   have N5 := qH n5
   clear n5
   have HB5 := qH ((blk_drew HB.out).next s5.below)
   have HR5 := qH ((blk_drew HR.out).next s5.below)
   have S5 := qH (since_two (since_drew SW.out) s5)
   have P6 := qH (P5.set1 HB5.out 2 (.slice B5 q5 r5))
   have S6 := qH (since_put S5.out (p := ⟨w.heap.size, 2, none⟩) (Nat.le_refl _) (.slice B5 q5 r5))
   have HB6 := qH (HB5.out.set_ 2 (.slice B5 q5 r5))
   have HR6 := qH (HR5.out.far (p := ⟨w.heap.size, 2, none⟩) (by simp) (.slice B5 q5 r5))
   have x2 : w5.cell? ⟨w.heap.size, 2, none⟩ = some (.slice A3 m3 c3) := HB5.out.c 2 rfl
   have xf := HB5.out.frozen 2
   clear PK HB HR HF SW P5 s5 HB5 HR5 e2
   refine hK.out _ _ ⟨S5.out.cell d0, S5.out.cell d1⟩ (fun hHeld => ?_)
   clear hK K S5
   simp only [qD, qE, qF]
   refine' wpAnyH_take (i := 13) (v := _) rfl (by kernel_rfl) (by kernel_rfl) (by kernel_rfl) (fun _ _ _ h => h) (Or.inl ⟨by rfl, fun w hSw => by (try dsimp only at hSw); go_simp; rfl⟩) (by assumption) ?_
   simp only [qA, qB, qC, Act.put, qD, qE, qF]
   refine wpAnyH_ready (rs := [14]) (by kernel_rfl) (by simp) (AllReadyH.cons rfl (fun K hK => ?_) AllReadyH.nil)
   go_simp
   refine hK.out _ _ ⟨S6.out.cell d0, S6.out.cell d1⟩ (fun hHeld => ?_)
   clear hK K
   simp only [qD, qE, qF]
   refine wpAnyH_done (by kernel_rfl) ?_ _
   go_wp2
   go_roundw
   case rel => exact ⟨k + 1, by omega, by go_num, qH ⟨⟨B5, q5, r5, HB6.out, P6.out, N5.out⟩, HR6.out, S6.out⟩⟩
   case measure => simp [intOf]; omega
  ·obtain rfl : k = l.length := by omega
   have hwr : IntKind.i64.wrap (N + 1) = N + 1 := IntWalk.i64_in _ (by omega)
   rw [List.take_length] at HT
   obtain ⟨A3, m3, c3, hB, hF, nF⟩ := HT.out.b
   have NF := qH nF
   have HB := qH hB
   have HF := qH hF
   have HR := qH HT.out.r
   have SW := qH HT.out.s
   clear HT PUT HC hB hF nF
   have e3 : wr.cell? ⟨w.heap.size, 3, none⟩ = some (.int .i64 N) := HB.out.c 3 rfl
   have e3f := HB.out.frozen 3
   have HB1 := qH (HB.out.set_ 3 (.int .i64 (N + 1)))
   have HF1 := qH (HF.out.set1 HB.out 3 (.int .i64 (N + 1)))
   have HR1 := qH (HR.out.far (p := ⟨w.heap.size, 3, none⟩) (by simp) (.int .i64 (N + 1)))
   have S1 := qH (since_put SW.out (p := ⟨w.heap.size, 3, none⟩) (Nat.le_refl _) (.int .i64 (N + 1)))
   have x2 : (wr.setCell ⟨w.heap.size, 3, none⟩ (.int .i64 (N + 1))).cell? ⟨w.heap.size, 2, none⟩ = some (.slice A3 m3 c3) := HB1.out.c 2 rfl
   clear HB HF HR SW
   go_wp2_with fail
   clear e3 e3f x2 hwr
   refine (ROOT.out _ _ _ _ S1.out HF1.out).mono ?_
   rintro en w7 ⟨C7, x7, y7, rfl, q⟩
   have HB7 := qH (HB1.out.next q.below)
   have HR7 := qH (HR1.out.next q.below)
   have HF7 := qH (HF1.out.below q.below)
   have S7 := qH (since_two S1.out q)
   clear ROOT HB1 HR1 HF1 S1 q
   have x3 : w7.cell? ⟨w.heap.size, 3, none⟩ = some (.int .i64 (N + 1)) := HB7.out.c 3 rfl
   go_wp2_with fail
   clear x3
   refine (SIGN.out _ S7.out).mono ?_
   rintro en w8 ⟨rfl, q⟩
   have HB8 := qH ((HB7.out.next q.below).alloc (.cells #[.string h1, .int .i64 h2, .int .i64 h3, .string h4, .string h5] 34))
   have HR8 := qH ((HR7.out.next q.below).alloc (.cells #[.string h1, .int .i64 h2, .int .i64 h3, .string h4, .string h5] 34))
   have HF8 := qH ((HF7.out.below q.below).below ((Below.refl _ w8).alloc (Nat.le_refl _) (.cells #[.string h1, .int .i64 h2, .int .i64 h3, .string h4, .string h5] 34)))
   have S8 := qH (since_alloc (since_two S7.out q) (.cells #[.string h1, .int .i64 h2, .int .i64 h3, .string h4, .string h5] 34))
   have X8 := qH (Blk.new w8 34 #[.string h1, .int .i64 h2, .int .i64 h3, .string h4, .string h5])
   clear SIGN HB7 HR7 HF7 S7 q
   have y0 : (w8.alloc (.cells #[.string h1, .int .i64 h2, .int .i64 h3, .string h4, .string h5] 34)).cell? ⟨w8.heap.size, 0, none⟩ = some (.string h1) := X8.out.c 0 rfl
   have y1 : (w8.alloc (.cells #[.string h1, .int .i64 h2, .int .i64 h3, .string h4, .string h5] 34)).cell? ⟨w8.heap.size, 1, none⟩ = some (.int .i64 h2) := X8.out.c 1 rfl
   have y2 : (w8.alloc (.cells #[.string h1, .int .i64 h2, .int .i64 h3, .string h4, .string h5] 34)).cell? ⟨w8.heap.size, 2, none⟩ = some (.int .i64 h3) := X8.out.c 2 rfl
   have y3 : (w8.alloc (.cells #[.string h1, .int .i64 h2, .int .i64 h3, .string h4, .string h5] 34)).cell? ⟨w8.heap.size, 3, none⟩ = some (.string h4) := X8.out.c 3 rfl
   have y4 : (w8.alloc (.cells #[.string h1, .int .i64 h2, .int .i64 h3, .string h4, .string h5] 34)).cell? ⟨w8.heap.size, 4, none⟩ = some (.string h5) := X8.out.c 4 rfl
   go_wp2_with fail
   clear y0 y1 y2 y3 y4 X8
   refine (HPUT.out _ S8.out).mono ?_
   rintro en w9 ⟨rfl, q⟩
   have HB9 := qH (HB8.out.next q.below)
   have HR9 := qH (HR8.out.next q.below)
   have HF9 := qH (HF8.out.below q.below)
   have S9 := qH (since_two S8.out q)
   clear HPUT HB8 HR8 HF8 S8 q
   have x1 : w9.cell? ⟨w.heap.size, 1, none⟩ = some (.slice A m c) := HB9.out.c 1 rfl
   go_wp2_with fail
   clear x1
   refine (RUP.out _ S9.out).mono ?_
   rintro en w10 ⟨B, q, r, rfl, hP, s10, nP⟩
   have NP := qH nP
   clear nP
   have HB10 := qH (HB9.out.next s10.below)
   have P11 := qH (hP.set1 HB10.out 1 (.slice B q r))
   have F11 := qH ((HF9.out.below s10.below).set1 HB10.out 1 (.slice B q r))
   have HR11 := qH ((HR9.out.next s10.below).far (p := ⟨w.heap.size, 1, none⟩) (by simp) (.slice B q r))
   have S11 := qH (since_put (since_two S9.out s10) (p := ⟨w.heap.size, 1, none⟩) (Nat.le_refl _) (.slice B q r))
   have HB11 := qH (HB10.out.set_ 1 (.slice B q r))
   have x1 : w10.cell? ⟨w.heap.size, 1, none⟩ = some (.slice A m c) := HB10.out.c 1 rfl
   have x1f := HB10.out.frozen 1
   clear RUP HB9 HR9 HF9 S9 hP s10 HB10
   go_wp2
   generalize w10.setCell ⟨w.heap.size, 1, none⟩ (.slice B q r) = V at *
   have k0 : V.cell? ⟨w.heap.size, 0, none⟩ = some (.pointer (some ⟨j, 0, none⟩)) := HB11.out.c 0 rfl
   have k1 : V.cell? ⟨w.heap.size, 1, none⟩ = some (.slice B q r) := HB11.out.c 1 rfl
   have k2 : V.cell? ⟨w.heap.size, 2, none⟩ = some (.slice A3 m3 c3) := HB11.out.c 2 rfl
   have k3 : V.cell? ⟨w.heap.size, 3, none⟩ = some (.int .i64 (N + 1)) := HB11.out.c 3 rfl
   have ltB := qH HB11.out.lt
   have ltR := qH HR11.out.lt
   have JV := qH (hJ.below S11.out.below)
   have bdS := qH hJ.bound
   have SZ := qH S11.out.below.size
   clear x1 x1f hJ
   go_region_held3 (fun W => W.cell? ⟨w.heap.size, 0, none⟩ = some (.pointer (some ⟨j, 0, none⟩)) ∧ W.cell? ⟨w.heap.size, 1, none⟩ = some (.slice B q r) ∧ W.cell? ⟨w.heap.size, 2, none⟩ = some (.slice A3 m3 c3) ∧ W.cell? ⟨w.heap.size, 3, none⟩ = some (.int .i64 (N + 1)))
    (first | exact ⟨BX.out.c 0 rfl, BX.out.c 1 rfl, BX.out.c 2 rfl, BX.out.c 3 rfl⟩ | exact ⟨BY.out.c 0 rfl, BY.out.c 1 rfl, BY.out.c 2 rfl, BY.out.c 3 rfl⟩ | exact ⟨BZ.out.c 0 rfl, BZ.out.c 1 rfl, BZ.out.c 2 rfl, BZ.out.c 3 rfl⟩ | go_keep)
    (first
      | (go_at_call 16; refine (CUP.out _ (by first | exact since_drew S11.out | exact S11.out)).mono ?_; clear CUP; rintro en w12 ⟨rfl, hm⟩; have BX := qH (show Blk w12 w.heap.size 29 #[.pointer (some ⟨j, 0, none⟩), .slice B q r, .slice A3 m3 c3, .int .i64 (N + 1)] from (hm.1.block w.heap.size ltB.out (fun h => by have := bdS.out _ h; omega)).trans HB11.out); have RX := qH (show Blk w12 (w.heap.size + 1) 29 #[.pointer none, .slice none 0 0, .slice none 0 0, .int .i64 0] from (hm.1.block (w.heap.size + 1) ltR.out (fun h => by have := bdS.out _ h; omega)).trans HR11.out); have PX := qH (show Prs w12 (.slice B q r) L1 from by first | exact P11.out.out_of hm.1.undrew NP.out | exact P11.out.out_of hm.1 NP.out); have FX := qH (show Prs w12 (.slice A3 m3 c3) (farOf l) from by first | exact F11.out.out_of hm.1.undrew NF.out | exact F11.out.out_of hm.1 NF.out); have HX := qH hm; clear hm)
      | (go_at_call 13; obtain ⟨kX, S', gX, jX⟩ := HX.out; refine (same14 (m' := mm + 14) jX PX.out hmm).mono ?_; rintro en w13 ⟨rfl, s13⟩; have BY := qH (BX.out.next s13.below); have RY := qH (RX.out.next s13.below); have u0 : w13.cell? ⟨w.heap.size + 1, 0, none⟩ = some (.pointer none) := RY.out.c 0 rfl; have v0 := RY.out.frozen 0; have u1 : w13.cell? ⟨w.heap.size + 1, 1, none⟩ = some (.slice none 0 0) := RY.out.c 1 rfl; have v1 := RY.out.frozen 1; have u2 : w13.cell? ⟨w.heap.size + 1, 2, none⟩ = some (.slice none 0 0) := RY.out.c 2 rfl; have v2 := RY.out.frozen 2; have u3 : w13.cell? ⟨w.heap.size + 1, 3, none⟩ = some (.int .i64 0) := RY.out.c 3 rfl; have v3 := RY.out.frozen 3; have BZ := qH (show Blk ((((w13.setCell ⟨w.heap.size + 1, 0, none⟩ (.pointer (some ⟨j, 0, none⟩))).setCell ⟨w.heap.size + 1, 1, none⟩ (.slice B q r)).setCell ⟨w.heap.size + 1, 2, none⟩ (.slice A3 m3 c3)).setCell ⟨w.heap.size + 1, 3, none⟩ (.int .i64 (N + 1))) w.heap.size 29 #[.pointer (some ⟨j, 0, none⟩), .slice B q r, .slice A3 m3 c3, .int .i64 (N + 1)] from (heap_put4 w13 (b := w.heap.size + 1) (by omega) (.pointer (some ⟨j, 0, none⟩)) (.slice B q r) (.slice A3 m3 c3) (.int .i64 (N + 1))).trans BY.out)))
   have DD := qH (put4 RY.out (.pointer (some ⟨j, 0, none⟩)) (.slice B q r) (.slice A3 m3 c3) (.int .i64 (N + 1)))
   have nR : ∀ i, i = w.heap.size + 1 → ¬ S' i := fun i e h => by
    rcases gX i h with h2 | h2
    ·have := bdS.out _ h2; omega
    ·have h3 : V.heap.size ≤ i := h2
     have := ltR.out; omega
   have JD := qH ((jX.below s13.below).put4 RY.out (by decide) (nR _ rfl) (.pointer (some ⟨j, 0, none⟩)) (.slice B q r) (.slice A3 m3 c3) (.int .i64 (N + 1)))
   have PD := qH ((PX.out.below s13.below).put4 RY.out (.pointer (some ⟨j, 0, none⟩)) (.slice B q r) (.slice A3 m3 c3) (.int .i64 (N + 1)))
   have FD := qH ((FX.out.below s13.below).put4 RY.out (.pointer (some ⟨j, 0, none⟩)) (.slice B q r) (.slice A3 m3 c3) (.int .i64 (N + 1)))
   have KD := qH ((((KeepS.of_below S S11.out.below).step (by first | exact kX.undrew | exact kX)).step (KeepS.of_below S s13.below)).put4 (b := w.heap.size + 1) (by omega) (.pointer (some ⟨j, 0, none⟩)) (.slice B q r) (.slice A3 m3 c3) (.int .i64 (N + 1)))
   have GD := qH (show Grows S S' w from fun i hi => (gX i hi).imp id (fun h => Nat.le_trans SZ.out h))
   go_wp2
   have D1 := DD.out
   refine bodyPost_ret (v := .tuple #[wdV j B q r A3 m3 c3 (N + 1), .bool true]) (by simp [results, Tryz.results9, go_sem, D1.c 0 rfl, D1.c 1 rfl, D1.c 2 rfl, D1.c 3 rfl]) rfl ?_
   exact ⟨S', B, q, r, A3, m3, c3, rfl, JD.out, PD.out, FD.out, KD.out, GD.out, OffS.of P11.out NP.out (show Grows S S' V from gX), OffS.of F11.out NF.out (show Grows S S' V from gX)⟩
structure AwAt (w : World) (b j : Nat) (L F : List KV) (m : Nat) (A A2 : Option Addr) (q r q2 r2 : Nat) (W : World) : Prop where
 bx : Blk W b 29 #[.pointer (some ⟨j, 0, none⟩), .slice A q r, .slice A2 q2 r2, .int .i64 1]
 jr : ∃ S, Jr W S j [] L m
 far : Prs W (.slice A2 q2 r2) F
 sn : Since w W
theorem AwAt.next {w : World} {b j : Nat} {L F : List KV} {m : Nat} {A A2 : Option Addr} {q r q2 r2 : Nat} {W W' : World} (h : AwAt w b j L F m A A2 q r q2 r2 W) (k : Since W W') : AwAt w b j L F m A A2 q r q2 r2 W' :=
 ⟨h.bx.next k.below, h.jr.elim fun S hS => ⟨S, hS.below k.below⟩, h.far.below k.below, since_two h.sn k⟩
theorem AwAt.put {w V w2 : World} {b j : Nat} {L F : List KV} {m : Nat} {A A0 A1 A2 : Option Addr} {q r q0 r0 q1 r1 q2 r2 : Nat} {N0 : Int} {S S' : Nat → Prop} (hV : Since w V) (hB : Blk V b 29 #[.pointer (some ⟨j, 0, none⟩), .slice A0 q0 r0, .slice A1 q1 r1, .int .i64 N0]) (hwb : w.heap.size ≤ b) (hb : ¬ S b) (hS : ∀ i, S i → w.heap.size ≤ i)
  (hJ : Jr w2 S' j [] L m) (hF : Prs w2 (.slice A2 q2 r2) F) (hk : KeepS S V w2) (hg : Grows S S' V) :
  Blk w2 b 29 #[.pointer (some ⟨j, 0, none⟩), .slice A0 q0 r0, .slice A1 q1 r1, .int .i64 N0] ∧
  AwAt w b j L F m A A2 q r q2 r2 ((((w2.setCell ⟨b, 0, none⟩ (.pointer (some ⟨j, 0, none⟩))).setCell ⟨b, 1, none⟩ (.slice A q r)).setCell ⟨b, 2, none⟩ (.slice A2 q2 r2)).setCell ⟨b, 3, none⟩ (.int .i64 1)) := by
 have hB2 := hk.blk hB hb
 have h1 : Since w w2 := since_of (hV.below.trans (hk.below hV.below.size hS))
 exact ⟨hB2, put4 hB2 _ _ _ _, ⟨S', hJ.put4 hB2 (by decide) (hg.not hB.lt hb) _ _ _ _⟩, hF.put4 hB2 _ _ _ _, since_put4 h1 hwb _ _ _ _⟩
theorem awake_this (w : World) (L1 F : List KV) (m : Nat) (x2 : ByteArray) (p1 p2 : ByteArray) (y1 y2 : ByteArray) (y3 : Int) (y4 : Bool) (n1 : Int) (n2 : ByteArray)
  (BG : Hid (Calls qP 8 #[] w (BeginPost w)))
  (TL : Hid (∀ W S j B q r b, Since w W → Jr W S j [] store0 14 → Prs W (.slice B q r) store0 → (∀ g, (Value.slice B q r).ownBlock = some g → ¬ S g) → Blk W b 36 #[.string ⟨#[97]⟩, .string ⟨#[49]⟩] → Calls qP 9 #[wdV j B q r none 0 0 0, .slice (some ⟨b, 0, none⟩) 1 1, .int .i64 5] W (TellPost14 W S j L1 m F 1)))
  (SE : Hid (∀ W S j, Since w W → Jr W S j [] L1 m → Calls qP 21 #[.pointer (some ⟨j, 0, none⟩), .string ⟨#[99, 108, 105, 101, 110, 116, 45, 48]⟩, .int .i64 1] W fun e w' => e = .returned (.tuple #[.agg #[.int .i64 5, .string x2], .int .i64 0]) ∧ Since W w'))
  (GT : Hid (∀ W S j, Since w W → Jr W S j [] L1 m → Calls qP 11 #[.pointer (some ⟨j, 0, none⟩), .string ⟨#[99, 108, 105, 101, 110, 116, 45, 48]⟩] W fun e w' => e = .returned (.tuple #[.agg #[.string ⟨#[111, 116, 104, 101, 114]⟩, .string ⟨#[107]⟩, .int .i64 1, .bool false], .int .i64 0]) ∧ Since W w'))
  (A1 : Hid (∀ W j A q r A2 q2 r2, Since w W → Prs W (.slice A2 q2 r2) F → Calls qP 19 #[wdV j A q r A2 q2 r2 1, .string ⟨#[97]⟩, .string ⟨#[]⟩] W fun e w' => e = .returned (.agg #[.int .i64 1, .string p1]) ∧ Since W w'))
  (A2 : Hid (∀ W j A q r A2 q2 r2, Since w W → Prs W (.slice A2 q2 r2) F → Calls qP 19 #[wdV j A q r A2 q2 r2 1, .string ⟨#[98]⟩, .string ⟨#[]⟩] W fun e w' => e = .returned (.agg #[.int .i64 1, .string p2]) ∧ Since W w'))
  (HS : Hid (∀ W S j, Since w W → Jr W S j [] L1 m → Calls qP 18 #[.pointer (some ⟨j, 0, none⟩), .string ⟨#[99, 108, 105, 101, 110, 116, 45, 48]⟩, .agg #[.int .i64 1, .string p1], .agg #[.string ⟨#[97]⟩, .string ⟨#[49]⟩]] W fun e w' => e = .returned (.int .i64 0) ∧ Since W w'))
  (LB : Hid (∀ W S j, Since w W → Jr W S j [] L1 m → Calls qP 20 #[.pointer (some ⟨j, 0, none⟩), .string ⟨#[99, 108, 105, 101, 110, 116, 45, 48]⟩, .agg #[.int .i64 1, .string p2], .string ⟨#[98]⟩] W fun e w' => e = .returned (.int .i64 0) ∧ Since W w'))
  (LA : Hid (∀ W S j, Since w W → Jr W S j [] L1 m → Calls qP 20 #[.pointer (some ⟨j, 0, none⟩), .string ⟨#[99, 108, 105, 101, 110, 116, 45, 48]⟩, .agg #[.int .i64 1, .string p1], .string ⟨#[97]⟩] W fun e w' => e = .returned (.int .i64 11) ∧ Since W w'))
  (SF : Hid (∀ W S j, Since w W → Jr W S j [] L1 m → Calls qP 21 #[.pointer (some ⟨j, 0, none⟩), .string ⟨#[99, 108, 105, 101, 110, 116, 45, 48]⟩, .int .i64 2] W fun e w' => e = .returned (.tuple #[.agg #[.int .i64 n1, .string n2], .int .i64 13]) ∧ Since W w'))
  (GU : Hid (∀ W S j, Since w W → Jr W S j [] L1 m → Calls qP 11 #[.pointer (some ⟨j, 0, none⟩), .string ⟨#[99, 108, 105, 101, 110, 116, 45, 49]⟩] W fun e w' => e = .returned (.tuple #[.agg #[.string y1, .string y2, .int .i64 y3, .bool y4], .int .i64 8]) ∧ Since W w'))
  (NW : Hid (∀ W j, Since w W → Calls qP 23 #[.pointer (some ⟨j, 0, none⟩), .string ⟨#[97, 47, 98]⟩, .string ⟨#[]⟩] W fun e w' => e = .returned (.tuple #[.string ⟨#[]⟩, .int .i64 7]) ∧ Since W w'))
  (hx : x2.size = 32) :
  Calls qP 7 #[] w fun e w' => e = .returned (.bool true) ∧ Since w w' := by
 go_enter Tryz.func7, Tryz.ntmps7
 go_wp2_with fail
 refine BG.out.mono ?_
 rintro e w1 ⟨S, j, B, q, r, rfl, ⟨hJ, hT⟩, hP, hS, hn⟩
 have J1 := qH (And.intro hJ (And.intro hT (And.intro hP (And.intro hS hn))))
 have X1 := qH (Blk.new w1 29 #[.pointer (some ⟨j, 0, none⟩), .slice B q r, .slice none 0 0, .int .i64 0])
 have z1 : (w1.alloc (.cells #[.pointer (some ⟨j, 0, none⟩), .slice B q r, .slice none 0 0, .int .i64 0] 29)).heap.size = w1.heap.size + 1 := by simp
 have Y := Blk.new (w1.alloc (.cells #[.pointer (some ⟨j, 0, none⟩), .slice B q r, .slice none 0 0, .int .i64 0] 29)) 36 #[.string ⟨#[97]⟩, .string ⟨#[49]⟩]
 rw [z1] at Y
 have Y2 := qH Y
 have X2 := qH (X1.out.alloc (.cells #[.string ⟨#[97]⟩, .string ⟨#[49]⟩] 36))
 have Q2 := qH (since_alloc (since_alloc (Since.refl w1) (.cells #[.pointer (some ⟨j, 0, none⟩), .slice B q r, .slice none 0 0, .int .i64 0] 29)) (.cells #[.string ⟨#[97]⟩, .string ⟨#[49]⟩] 36))
 have nb := qH (show ¬ S w1.heap.size from fun h => by have := hJ.bound _ h; omega)
 clear BG hJ hT hP hS hn Y z1 X1
 go_wp2_with fail
 refine (TL.out _ S j B q r _ (since_two J1.out.2.2.2.1 Q2.out) (J1.out.1.below Q2.out.below) (J1.out.2.2.1.below Q2.out.below) J1.out.2.2.2.2 Y2.out).mono ?_
 rintro e w2 ⟨S', B', q', r', B2, q2, r2, rfl, hJ2, hP2, hF2, hk, hg, hoA, hoF⟩
 have HA := qH (AwAt.put (A := B') (q := q') (r := r') (since_two J1.out.2.2.2.1 Q2.out) X2.out J1.out.2.2.2.1.below.size nb.out J1.out.2.1 hJ2 hF2 hk hg)
 clear TL J1 X2 Y2 Q2 nb hJ2 hP2 hF2 hk hg hoA hoF
 have d0 := HA.out.1.c 0 (v := .pointer (some ⟨j, 0, none⟩)) rfl
 have d1 := HA.out.1.c 1 (v := .slice B q r) rfl
 have d2 := HA.out.1.c 2 (v := .slice none 0 0) rfl
 have d3 := HA.out.1.c 3 (v := .int .i64 0) rfl
 have f0 := HA.out.1.frozen 0
 have f1 := HA.out.1.frozen 1
 have f2 := HA.out.1.frozen 2
 have f3 := HA.out.1.frozen 3
 have H3 := qH HA.out.2
 clear HA
 have u0 := H3.out.bx.c 0 (v := .pointer (some ⟨j, 0, none⟩)) rfl
 generalize w1.heap.size = b1 at *
 go_wp2_with fail
 clear u0
 refine (H3.out.jr.elim fun SS hSS => SE.out _ SS j H3.out.sn hSS).mono ?_
 rintro e w3 ⟨rfl, s3⟩
 have H4 := qH (H3.out.next (since_alloc s3 (.cells #[.int .i64 5, .string x2] 62)))
 have X4 := qH (Blk.new w3 62 #[.int .i64 5, .string x2])
 clear SE H3 s3
 have u0 := H4.out.bx.c 0 (v := .pointer (some ⟨j, 0, none⟩)) rfl
 go_wp2_with fail
 clear u0
 refine (H4.out.jr.elim fun SS hSS => GT.out _ SS j H4.out.sn hSS).mono ?_
 rintro e w4 ⟨rfl, s4⟩
 have H5 := qH (H4.out.next (since_alloc s4 (.cells #[.string ⟨#[111, 116, 104, 101, 114]⟩, .string ⟨#[107]⟩, .int .i64 1, .bool false] 41)))
 have X5 := qH ((X4.out.next s4.below).alloc (.cells #[.string ⟨#[111, 116, 104, 101, 114]⟩, .string ⟨#[107]⟩, .int .i64 1, .bool false] 41))
 have C5 := qH (Blk.new w4 41 #[.string ⟨#[111, 116, 104, 101, 114]⟩, .string ⟨#[107]⟩, .int .i64 1, .bool false])
 clear GT H4 X4 s4
 go_wp2
 generalize w4.alloc (.cells #[.string ⟨#[111, 116, 104, 101, 114]⟩, .string ⟨#[107]⟩, .int .i64 1, .bool false] 41) = V5 at *
 generalize w3.heap.size = b3 at *
 generalize w4.heap.size = b4 at *
 have k0 := H5.out.bx.c 0 (v := .pointer (some ⟨j, 0, none⟩)) rfl
 have k1 := H5.out.bx.c 1 (v := .slice B' q' r') rfl
 have k2 := H5.out.bx.c 2 (v := .slice B2 q2 r2) rfl
 have k3 := H5.out.bx.c 3 (v := .int .i64 1) rfl
 have r0 := Since.refl V5
 have AT := qH (fun W (hW : Since V5 W) => (A1.out W j B' q' r' B2 q2 r2 (since_two H5.out.sn hW) (H5.out.far.below hW.below)).mono fun en w' (h : en = .returned _ ∧ Since W w') => And.intro h.1 (since_two hW h.2))
 have HC := qH (fun W (hW : Since V5 W) => (H5.out.jr.elim fun SS hSS => HS.out W SS j (since_two H5.out.sn hW) (hSS.below hW.below)).mono fun en w' (h : en = .returned _ ∧ Since W w') => And.intro h.1 (since_two hW h.2))
 clear HS
 go_region_held3 (fun W => W.cell? ⟨b1, 0, none⟩ = some (.pointer (some ⟨j, 0, none⟩)) ∧ W.cell? ⟨b1, 1, none⟩ = some (.slice B' q' r') ∧ W.cell? ⟨b1, 2, none⟩ = some (.slice B2 q2 r2) ∧ W.cell? ⟨b1, 3, none⟩ = some (.int .i64 1))
  (first | exact ⟨s3.cell k0, s3.cell k1, s3.cell k2, s3.cell k3⟩ | exact ⟨s4.cell k0, s4.cell k1, s4.cell k2, s4.cell k3⟩ | go_keep)
  (first
    | (go_at_call 19; refine (AT.out _ (by exact r0)).mono ?_; clear AT; rintro en u5a ⟨rfl, s3⟩)
    | (go_at_call 18; refine (HC.out _ (by exact s3)).mono ?_; clear HC; rintro en u5b ⟨rfl, s4⟩))
 have H6 := qH (H5.out.next s4)
 have X6 := qH (X5.out.next s4.below)
 have C6 := qH (C5.out.next s4.below)
 clear H5 X5 C5 k0 k1 k2 k3 r0 s3 s4
 go_wp2
 have k0 := H6.out.bx.c 0 (v := .pointer (some ⟨j, 0, none⟩)) rfl
 have k1 := H6.out.bx.c 1 (v := .slice B' q' r') rfl
 have k2 := H6.out.bx.c 2 (v := .slice B2 q2 r2) rfl
 have k3 := H6.out.bx.c 3 (v := .int .i64 1) rfl
 have r0 := Since.refl u5b
 have AT := qH (fun W (hW : Since u5b W) => (A2.out W j B' q' r' B2 q2 r2 (since_two H6.out.sn hW) (H6.out.far.below hW.below)).mono fun en w' (h : en = .returned _ ∧ Since W w') => And.intro h.1 (since_two hW h.2))
 have HC := qH (fun W (hW : Since u5b W) => (H6.out.jr.elim fun SS hSS => LB.out W SS j (since_two H6.out.sn hW) (hSS.below hW.below)).mono fun en w' (h : en = .returned _ ∧ Since W w') => And.intro h.1 (since_two hW h.2))
 clear LB
 go_region_held3 (fun W => W.cell? ⟨b1, 0, none⟩ = some (.pointer (some ⟨j, 0, none⟩)) ∧ W.cell? ⟨b1, 1, none⟩ = some (.slice B' q' r') ∧ W.cell? ⟨b1, 2, none⟩ = some (.slice B2 q2 r2) ∧ W.cell? ⟨b1, 3, none⟩ = some (.int .i64 1))
  (first | exact ⟨s3.cell k0, s3.cell k1, s3.cell k2, s3.cell k3⟩ | exact ⟨s4.cell k0, s4.cell k1, s4.cell k2, s4.cell k3⟩ | go_keep)
  (first
    | (go_at_call 19; refine (AT.out _ (by exact r0)).mono ?_; clear AT; rintro en u6a ⟨rfl, s3⟩)
    | (go_at_call 20; refine (HC.out _ (by exact s3)).mono ?_; clear HC; rintro en u6b ⟨rfl, s4⟩))
 have H7 := qH (H6.out.next s4)
 have X7 := qH (X6.out.next s4.below)
 have C7 := qH (C6.out.next s4.below)
 clear H6 X6 C6 k0 k1 k2 k3 r0 s3 s4
 go_wp2
 have k0 := H7.out.bx.c 0 (v := .pointer (some ⟨j, 0, none⟩)) rfl
 have k1 := H7.out.bx.c 1 (v := .slice B' q' r') rfl
 have k2 := H7.out.bx.c 2 (v := .slice B2 q2 r2) rfl
 have k3 := H7.out.bx.c 3 (v := .int .i64 1) rfl
 have r0 := Since.refl u6b
 have AT := qH (fun W (hW : Since u6b W) => (A1.out W j B' q' r' B2 q2 r2 (since_two H7.out.sn hW) (H7.out.far.below hW.below)).mono fun en w' (h : en = .returned _ ∧ Since W w') => And.intro h.1 (since_two hW h.2))
 have HC := qH (fun W (hW : Since u6b W) => (H7.out.jr.elim fun SS hSS => LA.out W SS j (since_two H7.out.sn hW) (hSS.below hW.below)).mono fun en w' (h : en = .returned _ ∧ Since W w') => And.intro h.1 (since_two hW h.2))
 clear LA
 go_region_held3 (fun W => W.cell? ⟨b1, 0, none⟩ = some (.pointer (some ⟨j, 0, none⟩)) ∧ W.cell? ⟨b1, 1, none⟩ = some (.slice B' q' r') ∧ W.cell? ⟨b1, 2, none⟩ = some (.slice B2 q2 r2) ∧ W.cell? ⟨b1, 3, none⟩ = some (.int .i64 1))
  (first | exact ⟨s3.cell k0, s3.cell k1, s3.cell k2, s3.cell k3⟩ | exact ⟨s4.cell k0, s4.cell k1, s4.cell k2, s4.cell k3⟩ | go_keep)
  (first
    | (go_at_call 19; refine (AT.out _ (by exact r0)).mono ?_; clear AT; rintro en u7a ⟨rfl, s3⟩)
    | (go_at_call 20; refine (HC.out _ (by exact s3)).mono ?_; clear HC; rintro en u7b ⟨rfl, s4⟩))
 have H8 := qH (H7.out.next s4)
 have X8 := qH (X7.out.next s4.below)
 have C8 := qH (C7.out.next s4.below)
 clear H7 X7 C7 k0 k1 k2 k3 r0 s3 s4
 have u0 := H8.out.bx.c 0 (v := .pointer (some ⟨j, 0, none⟩)) rfl
 go_wp2_with fail
 clear u0
 refine (H8.out.jr.elim fun SS hSS => SF.out _ SS j H8.out.sn hSS).mono ?_
 rintro e w8 ⟨rfl, s8⟩
 have H9 := qH (H8.out.next (since_alloc s8 (.cells #[.int .i64 n1, .string n2] 62)))
 have X9 := qH ((X8.out.next s8.below).alloc (.cells #[.int .i64 n1, .string n2] 62))
 have C9 := qH ((C8.out.next s8.below).alloc (.cells #[.int .i64 n1, .string n2] 62))
 clear SF H8 X8 C8 s8
 have u0 := H9.out.bx.c 0 (v := .pointer (some ⟨j, 0, none⟩)) rfl
 go_wp2_with fail
 clear u0
 refine (H9.out.jr.elim fun SS hSS => GU.out _ SS j H9.out.sn hSS).mono ?_
 rintro e w9 ⟨rfl, s9⟩
 have H10 := qH (H9.out.next (since_alloc s9 (.cells #[.string y1, .string y2, .int .i64 y3, .bool y4] 41)))
 have X10 := qH ((X9.out.next s9.below).alloc (.cells #[.string y1, .string y2, .int .i64 y3, .bool y4] 41))
 have C10 := qH ((C9.out.next s9.below).alloc (.cells #[.string y1, .string y2, .int .i64 y3, .bool y4] 41))
 clear GU H9 X9 C9 s9
 have u0 := H10.out.bx.c 0 (v := .pointer (some ⟨j, 0, none⟩)) rfl
 go_wp2_with fail
 clear u0
 refine (NW.out _ j H10.out.sn).mono ?_
 rintro e w10 ⟨rfl, s10⟩
 have S11 := qH (since_two H10.out.sn s10)
 have X11 := X10.out.next s10.below
 have C11 := C10.out.next s10.below
 clear NW H10 X10 C10 s10
 have q0 := X11.c 0 (v := .int .i64 5) rfl
 have q1 := X11.c 1 (v := .string x2) rfl
 have p0 := C11.c 0 (v := .string ⟨#[111, 116, 104, 101, 114]⟩) rfl
 have p1 := C11.c 1 (v := .string ⟨#[107]⟩) rfl
 have p2 := C11.c 2 (v := .int .i64 1) rfl
 have p3 := C11.c 3 (v := .bool false) rfl
 clear X11 C11
 have EQ : ∀ W : World, (Op.equalIn 10000 41 (.agg #[.string ⟨#[111, 116, 104, 101, 114]⟩, .string ⟨#[107]⟩, .int .i64 1, .bool false]) (.agg #[.string ⟨#[111, 116, 104, 101, 114]⟩, .string ⟨#[107]⟩, .int .i64 1, .bool false])).run qP W = .ok true W := fun W => by rw [eq_clt4]; simp
 have GC := guardCl
 have hl : ((x2.size : Nat) : Int) = 32 := by omega
 have hl2 : (((x2.size : Nat) : Int) == 32) = true := by rw [hl]; rfl
 go_wp2
 go_ret
 exact ⟨rfl, S11.out⟩
theorem store0_up : Up store0 := lset_up (lset_up List.Pairwise.nil)
theorem store0_len : store0.length ≤ 2 := Nat.le_trans (lset_len _) (by have := lset_len (k := kNext) (v := bs (encNum 1).1) []; simp at this ⊢; omega)
theorem store0_sized : Sized store0 := Sized.set (Sized.set (fun p hp => by cases hp) (by decide +kernel) (by decide +kernel)) (by decide +kernel) (by decide +kernel)
def Upd14 (w : World) (S : Nat → Prop) (j mm : Nat) (t : Int) (r : ByteArray) : Prop := ∀ W, Since w W → Calls qP 16 #[.pointer (some ⟨j, 0, none⟩), .string cId, .string (rawOf cK (hdAt 1 t r))] W fun en w' => en = .returned (.int .i64 0) ∧ Jm W S j [] (store1 t r) (mm + 14) w'
theorem tell14 (j mm : Nat) (S : Nat → Prop) (A Al : Option Addr) (m c cl : Nat) (t : Int) (l : List KV) (w : World) (hl : l.length ≤ 1000) (hmm : mm + 14 ≤ 1000000000) (hJ : Jr w S j [] store0 mm) (ht : 0 ≤ t) (ht2 : t ≤ 9007199254740992)
  (hP : Prs w (.slice A m c) store0) (hn : ∀ g, (Value.slice A m c).ownBlock = some g → ¬ S g) (hL : Prs w (.slice Al l.length cl) l)
  (CU : Upd14 w S j mm t (bs (rootOf (farOf l)))) :
  Calls qP 9 #[wdV j A m c none 0 0 0, .slice Al l.length cl, .int .i64 t] w (TellPost14 w S j (store1 t (bs (rootOf (farOf l)))) (mm + 14) (farOf l) 1) := by
 have hr : (bs (rootOf (farOf l))).size ≤ 65536 := by rw [bs_size, show (rootOf (farOf l)).length = 32 from shaOf_len _]; decide
 have hb := body_at (n := 1) (t := t) (r := bs (rootOf (farOf l))) (by decide) (by decide) ht ht2 hr
 obtain ⟨g1, _, g3, _⟩ := sign_good cK _ hb
 have hraw : (rawOf cK (hdAt 1 t (bs (rootOf (farOf l))))).size ≤ 9223372036854775807 := by
  unfold rawOf
  rw [bs_size]
  have h1 := body_len (signOf cK (hdAt 1 t (bs (rootOf (farOf l))))).1
  have h2 := encText_len (signOf cK (hdAt 1 t (bs (rootOf (farOf l))))).1.mac
  have h3 := radd_len (bodyOf (signOf cK (hdAt 1 t (bs (rootOf (farOf l))))).1) (encText (signOf cK (hdAt 1 t (bs (rootOf (farOf l))))).1.mac)
  unfold encHd
  omega
 have hu := upd_0 ht ht2 hr
 have hb0 := hJ.bound
 refine tell14_this j mm S A none Al m c 0 0 cl 0 t l store0 (store1 t (bs (rootOf (farOf l)))) (bs (rootOf (farOf l))) (rawOf cK (hdAt 1 t (bs (rootOf (farOf l))))) (signOf cK (hdAt 1 t (bs (rootOf (farOf l))))).1.chain (signOf cK (hdAt 1 t (bs (rootOf (farOf l))))).1.height (signOf cK (hdAt 1 t (bs (rootOf (farOf l))))).1.time (signOf cK (hdAt 1 t (bs (rootOf (farOf l))))).1.root (signOf cK (hdAt 1 t (bs (rootOf (farOf l))))).1.mac w hl (by decide) (by decide) hmm hJ hL (qH fun k hk W B q r hW hp => ?_) (qH fun W B q r hW hp => ?_) (qH fun W _ => ?_) (qH fun W _ => ?_) (qH fun W hW => ?_) (qH fun W hW => CU W hW)
 ·rw [far_take hk]
  have hf := far_len (l.take k)
  have h1 : (farOf (l.take k)).length ≤ 1000 := by rw [List.length_take] at hf; omega
  refine (rPutF14 _ _ l[k].1 l[k].2 W hp (far_up _) (by omega)).mono fun en w' ⟨v, h2, h3, h4, h5⟩ => ?_
  have h3' := h3
  obtain ⟨B', r', rfl, _, _⟩ := h3'
  exact ⟨_, _, _, h2, h3, h4, fun g hg hs => by have := h5 g hg; have := hW.below.size; have := hb0 g hs; omega⟩
 ·have hf := far_len l
  refine (rRootC (farOf l) _ W hp (by omega)).mono fun en w' ⟨u, h2, h3⟩ => ?_
  obtain ⟨C, x, rfl, _⟩ := own_formP h3.1
  exact ⟨C, _, x, h2, since_of h3.below⟩
 ·have k := rSign cK (hdAt 1 t (bs (rootOf (farOf l)))) W (by decide)
  unfold retHE at k
  rw [g1] at k
  exact k
 ·have k := rHPut (signOf cK (hdAt 1 t (bs (rootOf (farOf l))))).1 W
  unfold retSE at k
  rw [g3] at k
  exact k
 ·refine (rUpdF14 (hP.below hW.below) store0_up (by have := store0_len; omega) store0_sized cId (by decide) (rawOf cK (hdAt 1 t (bs (rootOf (farOf l))))) hraw).mono fun en w' ⟨v, h1, h2, h3, h4⟩ => ?_
  rw [hu] at h1 h2
  have h2' := h2
  obtain ⟨B', r', rfl, _, _⟩ := h2'
  refine ⟨_, _, _, h1, h2, h3, fun g hg hs => ?_⟩
  rcases h4 with h4 | h4
  ·rw [h4] at hg; exact hn g hg hs
  ·have := h4 g hg; have := hW.below.size; have := hb0 g hs; omega
theorem beginC14 (w : World) (E : Fit w) : Calls qP 8 #[] w (BeginPost w) := by
 refine begin14 w (qH fun W S j hW hJ => ?_) (qH fun W => ?_)
 ·have k := clNew hJ (fun p hp => by cases hp) (E.since hW) cOther cK (by decide) (by decide) (by rw [show cCount [] = 0 from rd_cnt_none]; decide) (by decide)
  rw [new_first] at k
  exact k
 ·have k := rNewF14 (s := .slice none 0 0) (L := []) (w := W) (Prs.nil _ _ _) List.Pairwise.nil (by decide) (fun p hp => by cases hp) cOther cK (by decide)
  rw [new_first] at k
  refine k.mono fun en w' ⟨v, h1, h2, h3, h4⟩ => ?_
  have h2' := h2
  obtain ⟨B, r, rfl, _, _⟩ := h2'
  refine ⟨B, _, r, h1, h2, h3, fun g hg => ?_⟩
  rcases h4 with h4 | h4
  ·rw [h4] at hg; simp [Value.ownBlock] at hg
  ·exact h4 g hg
theorem tellC14 (j mm : Nat) (S : Nat → Prop) (A Al : Option Addr) (m c cl : Nat) (t : Int) (l : List KV) (w : World) (E : Fit w) (hl : l.length ≤ 1000) (hmm : mm + 100 ≤ 1000000000) (hJ : Jr w S j [] store0 mm) (ht : 0 ≤ t) (ht2 : t ≤ 9007199254740992)
  (hP : Prs w (.slice A m c) store0) (hn : ∀ g, (Value.slice A m c).ownBlock = some g → ¬ S g) (hL : Prs w (.slice Al l.length cl) l) :
  Calls qP 9 #[wdV j A m c none 0 0 0, .slice Al l.length cl, .int .i64 t] w (TellPost14 w S j (store1 t (bs (rootOf (farOf l)))) (mm + 14) (farOf l) 1) := by
 refine tell14 j mm S A Al m c cl t l w hl (by omega) hJ ht ht2 hP hn hL fun W hW => ?_
 have hr : (bs (rootOf (farOf l))).size = 32 := by rw [bs_size]; exact shaOf_len _
 have hu := upd_0 ht ht2 (show (bs (rootOf (farOf l))).size ≤ 65536 by omega)
 have k := clUpd (hJ.below hW.below) store0_sized (E.since hW) cId (rawOf cK (hdAt 1 t (bs (rootOf (farOf l))))) (by decide) (by have := raw_size (key := cK) (h := hdAt 1 t (bs (rootOf (farOf l)))) (by show cOther.size ≤ 1000; decide) (by show (bs (rootOf (farOf l))).size ≤ 1000; omega); omega) (fun _ => by rw [get_0]; exact ⟨by show cOther.size ≤ 1000; decide, by show cK.size ≤ 60000; decide, by decide, by decide⟩) (by omega)
 rw [hu] at k
 exact k
theorem cat_len : ∀ l : List ByteArray, (∀ x ∈ l, x.size ≤ 65536) → (cat l).length ≤ l.length * 65600
 | [], _ => by simp [cat]
 | x :: l, h => by
  have ih := cat_len l (fun y hy => h y (List.mem_cons_of_mem _ hy))
  have t := text_len x (h x (List.mem_cons_self ..))
  rw [cat_cons, List.length_append, List.length_cons]
  omega
theorem nearBytes_len : ∀ l : List KV, (∀ p ∈ l, p.1.size ≤ 65536 ∧ p.2.size ≤ 65536) → (nearBytes l).length ≤ l.length * 131200
 | [], _ => by simp [nearBytes]
 | p :: l, h => by
  have ih := nearBytes_len l (fun y hy => h y (List.mem_cons_of_mem _ hy))
  obtain ⟨h1, h2⟩ := h p (List.mem_cons_self ..)
  have t1 := text_len p.1 h1
  have t2 := text_len p.2 h2
  have e : nearBytes (p :: l) = (text p.1.data.toList ++ text p.2.data.toList) ++ nearBytes l := by simp [nearBytes]
  rw [e, List.length_append, List.length_append, List.length_cons]
  omega
theorem num_short {n : Nat} (h : n ≤ 9007199254740992) : (num n).length ≤ 8 := by
 have := be_len_le n 7 (by omega)
 rw [num_len]
 omega
theorem pathBytes_len : ∀ l : List (List (List UInt8)), (∀ q ∈ l, q.length ≤ 256 ∧ ∀ y ∈ q, y.length ≤ 65536) → (pathBytes l).length ≤ l.length * 16800000
 | [], _ => by simp [pathBytes]
 | q :: l, h => by
  have ih := pathBytes_len l (fun y hy => h y (List.mem_cons_of_mem _ hy))
  obtain ⟨h1, h2⟩ := h q (List.mem_cons_self ..)
  have t1 := cat_len (bss q) (fun x hx => by
   unfold bss at hx
   rw [List.mem_map] at hx
   obtain ⟨y, hy, rfl⟩ := hx
   rw [bs_size]
   exact h2 y hy)
  have t2 := num_short (n := q.length) (by omega)
  have e : pathBytes (q :: l) = (num q.length ++ cat (bss q)) ++ pathBytes l := by simp [pathBytes]
  rw [bss_len] at t1
  rw [e, List.length_append, List.length_append, List.length_cons]
  omega
theorem pfBytes_len {x : Pf} (h : Plain x) : (pfBytes x).length ≤ 40000000 := by
 have a1 := num_short (n := x.n.toNat) (by have := h.n1; omega)
 have a2 := num_short (n := x.pos.toNat) (by have := h.p1; omega)
 have a3 := num_short (n := if x.there then 1 else 0) (by split <;> omega)
 have a4 := num_short (n := x.near.length) (by have := h.near; omega)
 have a5 := num_short (n := x.paths.length) (by have := h.paths; omega)
 have b1 := nearBytes_len x.near h.sizes
 have b2 := pathBytes_len x.paths h.path
 have c1 := h.near
 have c2 := h.paths
 unfold pfBytes
 simp only [List.length_append]
 omega
theorem plain_bld14 {l : List KV} {key : ByteArray} (hl : l.length ≤ 200) (hs : ∀ p ∈ l, p.1.size ≤ 60000 ∧ p.2.size ≤ 60000) : Plain (bld l key) := by
 have hle := lat_le (l := l) (key := key)
 have hlh := low_high hle
 have hp : ∀ i, (pth l i).length ≤ 256 ∧ ∀ y ∈ pth l i, y.length ≤ 65536 := fun i => by
  obtain ⟨h1, h2⟩ := pth_len _ l i rfl (by omega)
  exact ⟨by omega, fun y hy => by have := h2 y hy; omega⟩
 cases hg : lget l key with
 | some v =>
  rw [bld_some hg]
  exact ⟨by simp only; omega, by simp only; omega, by simp only; omega, by simp only; omega, by simp, fun _ => rfl, fun p hp => by simp at hp, by simp, fun q hq => by simp only [List.mem_singleton] at hq; subst hq; exact hp _⟩
 | none =>
  rw [bld_none hg]
  refine ⟨by simp only; omega, by simp only; omega, by simp only; omega, by simp only; omega, by simp only [nearOf_len hle]; omega, fun h => by simp at h, fun p hp => ?_, by simp only [pathsOf_len]; omega, fun q hq => ?_⟩
  ·have := hs p (List.mem_of_mem_take (List.mem_of_mem_drop hp))
   omega
  ·simp only [pathsOf, List.mem_map] at hq
   obtain ⟨i, _, rfl⟩ := hq
   exact hp i
noncomputable def prOf (F : List KV) (key : ByteArray) : ByteArray := bs (encPf (bld F key)).1
structure Far14 (F : List KV) : Prop where
 up : Up F
 len : F.length ≤ 200
 size : ∀ p ∈ F, p.1.size ≤ 60000 ∧ p.2.size ≤ 60000
theorem Far14.plain {F : List KV} (h : Far14 F) (key : ByteArray) : Plain (bld F key) := plain_bld14 h.len h.size
theorem prOf_size {F : List KV} (h : Far14 F) (key : ByteArray) : (prOf F key).size ≤ 9223372036854775807 := by
 have hp := h.plain key
 have := pfBytes_len hp
 unfold prOf
 rw [enc_plain hp, bs_size]
 simp only
 omega
theorem prOf_back {F : List KV} (h : Far14 F) (key : ByteArray) : rdPf (prOf F key) = (bld F key, 0) := by
 have hp := h.plain key
 have hb := rd_back hp []
 rw [List.append_nil, if_pos rfl] at hb
 unfold prOf
 rw [enc_plain hp]
 exact hb
theorem any_up14 {l : List KV} {key : ByteArray} (h : Up l) : bldAny l key = bld l key := by unfold bldAny; rw [if_pos h]
theorem at14 (j : Option Addr) (A A2 : Option Addr) (m c m2 c2 : Nat) (N : Int) (F : List KV) (key raw : ByteArray) (w : World) (hF : Far14 F) (hP : Prs w (.slice A2 m2 c2) F) :
  Calls qP 19 #[.agg #[.pointer j, .slice A m c, .slice A2 m2 c2, .int .i64 N], .string key, .string raw] w fun en w' => en = .returned (.agg #[.int .i64 N, .string (if raw = ⟨#[]⟩ then prOf F key else raw)]) ∧ Since w w' := by
 by_cases hr : raw = ⟨#[]⟩
 ·rw [if_pos hr]
  subst hr
  have hp := hF.plain key
  exact at14_key j A A2 m c m2 c2 N key (prOf F key) (encPf (bld F key)).2 (bld F key) w
   (qH fun W hW => (rBuildC _ F key W (hP.below hW.below) (by have := hF.len; omega)).mono fun en w' ⟨u, k1, k2, k3⟩ => by
     rw [any_up14 hF.up] at k2
     have k2' := k2
     obtain ⟨nv, pv, rfl, ⟨B1, r1, rfl, _, _⟩, ⟨B2, r2, rfl, _, _⟩⟩ := k2'
     exact ⟨_, _, _, _, _, _, _, _, _, k1, k2, k3⟩)
   (qH fun W v _ hv => rPutC _ v W hv (by have := hp.near; omega) (by have := hp.paths; omega) (fun q hq => by have := (hp.path q hq).1; omega))
 ·rw [if_neg hr]
  exact at14_raw j A A2 m c m2 c2 N key raw w hr
theorem open_is {L F : List KV} {id : ByteArray} {c : Clt} {x : Sn} {h : Int} (key : ByteArray) (hg : cGet L id = (c, 0)) (hf : c.frozen = false) (hs : cSee L id h = (x, 0)) (hF : Far14 F) : cOpen L id h (prOf F key) = ((bld F key, x.root), 0) := by
 unfold cOpen
 rw [hg, hs, prOf_back hF]
 simp only
 rw [if_neg (by simp), if_neg (by simp [hf]), if_neg (by simp), if_neg (by simp)]
def wA : ByteArray := ⟨#[97]⟩
def wB : ByteArray := ⟨#[98]⟩
def wOne : ByteArray := ⟨#[49]⟩
def farA : List KV := farOf [(wA, wOne)]
theorem farA_is : farA = [(wA, wOne)] := rfl
theorem farA14 : Far14 farA := by
 rw [farA_is]
 exact ⟨List.pairwise_singleton _ _, by decide, fun p hp => by obtain rfl := List.mem_singleton.1 hp; exact ⟨by show wA.size ≤ 60000; decide, by show wOne.size ≤ 60000; decide⟩⟩
theorem farA_a : lget farA wA = some wOne := by rw [farA_is]; decide
theorem farA_b : lget farA wB = none := by rw [farA_is]; decide
theorem prs_ab {W : World} {b : Nat} {x y : ByteArray} (h : Blk W b 36 #[.string x, .string y]) : Prs W (.slice (some ⟨b, 0, none⟩) 1 1) [(x, y)] :=
 Prs.of_own (own_pair W (B := 0) b (Nat.zero_le _) (x, y) h)
theorem newBad (w : World) (hL : Lay w) (j : Nat) : Calls qP 23 #[.pointer (some ⟨j, 0, none⟩), .string ⟨#[97, 47, 98]⟩, .string ⟨#[]⟩] w fun e w' => e = .returned (.tuple #[.string ⟨#[]⟩, .int .i64 7]) ∧ Since w w' := by
 have h0 : ck 6 (⟨#[97, 47, 98]⟩ : ByteArray).data.toList = 7 := by decide +kernel
 exact new_e1 j _ _ 7 (by decide) w (qH fun W hW => h0 ▸ (check 6 ⟨#[97, 47, 98]⟩ W (hL.next hW.below) (by decide)).mono fun _ _ ⟨he, hb⟩ => ⟨he, since_of hb⟩)
theorem store1_sized {t : Int} {r : ByteArray} (hr : r.size ≤ 60000) : Sized (store1 t r) :=
 Sized.set (Sized.set store0_sized (by have := kSeen_size cId 1; have e : cId.size = 8 := rfl; omega) (by have := sn_size t r; omega)) (by decide +kernel) (by decide +kernel)
theorem id_1 : cId ≠ ⟨#[99, 108, 105, 101, 110, 116, 45, 49]⟩ := by decide
theorem awake14 (w : World) (E : Fit w) : Calls qP 7 #[] w fun e w' => e = .returned (.bool true) ∧ Since w w' := by
 obtain ⟨x2, hx2⟩ : ∃ x2, x2 = bs (rootOf farA) := ⟨_, rfl⟩
 have hsz : x2.size = 32 := by rw [hx2, bs_size]; exact shaOf_len _
 have hdat : x2.data.toList = rootOf farA := by rw [hx2, bs_data]
 have hg := get_1 5 x2
 have hs := see_1 (t := 5) (r := x2) (by decide) (by decide) (by omega)
 have hz := store1_sized (t := 5) (r := x2) (by omega)
 have ha := open_is (h := 1) wA hg rfl hs farA14
 have hb := open_is (h := 1) wB hg rfl hs farA14
 have hu := farA14.up
 have h63 : farA.length < 2 ^ 63 := by have := farA14.len; omega
 have v1 : cHas (store1 5 x2) cId 1 (prOf farA wA) (wA, wOne) = 0 := by
  unfold cHas
  rw [ha]
  simp only
  rw [if_neg (by simp), hdat, has_bld hu h63 farA_a, if_pos rfl]
 have v2 : cLacks (store1 5 x2) cId 1 (prOf farA wB) wB = 0 := by
  unfold cLacks
  rw [hb]
  simp only
  rw [if_neg (by simp), hdat, lacks_bld hu h63 farA_b, if_pos rfl]
 have v3 : cLacks (store1 5 x2) cId 1 (prOf farA wA) wA = 11 := by
  have hl : lacksP (rootOf farA) wA (bld farA wA) = false := by rw [bld_some farA_a]; simp [lacksP, Fits]
  unfold cLacks
  rw [ha]
  simp only
  rw [if_neg (by simp), hdat, hl, if_neg (by simp)]
 have v4 : (cSee (store1 5 x2) cId 2).2 = 13 := by
  refine see_not hg ?_
  unfold store1
  rw [lget_lset, if_neg (fun e => kClt_seen _ _ _ e.symm), lget_lset, if_neg (fun e => absurd (kSeen_inj e).2 (by decide +kernel))]
  unfold store0
  rw [lget_lset, if_neg (fun e => kClt_seen _ _ _ e.symm), lget_lset, if_neg (kSeen_next _ _)]
  rfl
 have v5 : cGet (store1 5 x2) ⟨#[99, 108, 105, 101, 110, 116, 45, 49]⟩ = (Clt.zero, 8) := by
  unfold cGet store1
  rw [lget_lset, if_neg (fun e => id_1 (kClt_inj e).symm), lget_lset, if_neg (kClt_seen _ _ _)]
  unfold store0
  rw [lget_lset, if_neg (fun e => id_1 (kClt_inj e).symm), lget_lset, if_neg (kClt_next _)]
  rfl
 refine awake_this w (store1 5 x2) farA 28 x2 (prOf farA wA) (prOf farA wB) ⟨#[]⟩ ⟨#[]⟩ 0 false (cSee (store1 5 x2) cId 2).1.time (cSee (store1 5 x2) cId 2).1.root (qH (beginC14 w E))
  (qH fun W S j B q r b hW hJ hP hn hB => ?_) (qH fun W S j hW hJ => ?_) (qH fun W S j hW hJ => ?_)
  (qH fun W j A q r A2 q2 r2 hW hF => at14 _ A A2 q r q2 r2 1 farA wA ⟨#[]⟩ W farA14 hF) (qH fun W j A q r A2 q2 r2 hW hF => at14 _ A A2 q r q2 r2 1 farA wB ⟨#[]⟩ W farA14 hF)
  (qH fun W S j hW hJ => ?_) (qH fun W S j hW hJ => ?_) (qH fun W S j hW hJ => ?_) (qH fun W S j hW hJ => ?_) (qH fun W S j hW hJ => ?_) (qH fun W j hW => newBad W (E.since hW).lay j) hsz
 ·have k := tellC14 j 14 S B (some ⟨b, 0, none⟩) q r 1 5 [(wA, wOne)] W (E.since hW) (by simp) (by decide) hJ (by decide) (by decide) hP hn (prs_ab hB)
  rw [show farOf [(wA, wOne)] = farA from rfl, ← hx2] at k
  exact k
 ·have k := seeC hJ hz (E.since hW).play cId (by decide) 1
  rw [hs] at k
  exact k
 ·have k := clGet hJ hz (E.since hW).play cId (by decide)
  rw [hg] at k
  exact k
 ·have k := hasP14 hJ hz (E.since hW).play (E.since hW).roots cId (by decide) 1 (prOf farA wA) (prOf_size farA14 _) (wA, wOne)
  rw [v1] at k
  exact k
 ·have k := lacksP14 hJ hz (E.since hW).play (E.since hW).roots cId (by decide) 1 (prOf farA wB) (prOf_size farA14 _) wB
  rw [v2] at k
  exact k
 ·have k := lacksP14 hJ hz (E.since hW).play (E.since hW).roots cId (by decide) 1 (prOf farA wA) (prOf_size farA14 _) wA
  rw [v3] at k
  exact k
 ·have k := seeC hJ hz (E.since hW).play cId (by decide) 2
  unfold retNE at k
  rw [v4] at k
  exact k
 ·have k := clGet hJ hz (E.since hW).play ⟨#[99, 108, 105, 101, 110, 116, 45, 49]⟩ (by decide)
  rw [v5] at k
  exact k
end Go.Proofs.YtkejaepmoabikaaGreatDoor.W
