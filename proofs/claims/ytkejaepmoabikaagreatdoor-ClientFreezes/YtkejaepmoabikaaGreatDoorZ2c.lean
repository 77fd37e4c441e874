import Derived.Deep.RegionHeld3
import Derived.IntWalk
import Derived.Test.YtkejaepmoabikaaGreatDoorZ2a
import Derived.Test.YtkejaepmoabikaaGreatDoorZ0i
namespace Go.Proofs.YtkejaepmoabikaaGreatDoor.W
open Go.RowKit
open Lib renaming hid → qH
open _root_.Go.Proofs.Tryz renaming prog → qP
set_option maxHeartbeats 4000000
set_option maxRecDepth 100000
theorem Prs.offS {w w' : World} {S : Nat → Prop} {v : Value} {l : List KV} (h : Prs w v l) (k : KeepS S w w') (o : OffS S v l) : Prs w' v l := by
 rcases o with o | o
 ·subst o
  obtain ⟨A, cap, rfl, hc, _⟩ := h
  exact ⟨A, cap, rfl, hc, fun i hi => by simp at hi⟩
 ·exact h.out_of k o
theorem OffS.grows {S S' : Nat → Prop} {W : World} {v : Value} {l : List KV} (o : OffS S v l) (h : Prs W v l) (g : Grows S S' W) : OffS S' v l := by
 rcases o with o | o
 ·exact .inl o
 ·exact OffS.of h o g
structure PlAt (w : World) (b j : Nat) (S : Nat → Prop) (L M F : List KV) (m : Nat) (A A2 : Option Addr) (q r q2 r2 : Nat) (W : World) : Prop where
 bx : Blk W b 29 #[.pointer (some ⟨j, 0, none⟩), .slice A q r, .slice A2 q2 r2, .int .i64 1]
 jr : Jr W S j [] L m
 st : Prs W (.slice A q r) M
 far : Prs W (.slice A2 q2 r2) F
 lo : ∀ i, S i → w.heap.size ≤ i
 nb : ¬ S b
 os : OffS S (.slice A q r) M
 oF : OffS S (.slice A2 q2 r2) F
 sn : Since w W
 wb : w.heap.size ≤ b
section
variable {w : World} {b j : Nat} {S : Nat → Prop} {L M F : List KV} {m : Nat} {A A2 : Option Addr} {q r q2 r2 : Nat} {W W' : World}
theorem PlAt.next (h : PlAt w b j S L M F m A A2 q r q2 r2 W) (k : Since W W') : PlAt w b j S L M F m A A2 q r q2 r2 W' :=
 ⟨h.bx.next k.below, h.jr.below k.below, h.st.below k.below, h.far.below k.below, h.lo, h.nb, h.os, h.oF, since_two h.sn k, h.wb⟩
theorem PlAt.step (h : PlAt w b j S L M F m A A2 q r q2 r2 W) {L' : List KV} {m' : Nat} (k : Jm W S j [] L' m' W') : ∃ S', PlAt w b j S' L' M F m' A A2 q r q2 r2 W' ∧ Grows S S' W := by
 obtain ⟨k, S', g, hj⟩ := k
 have hs := h.sn.below.size
 exact ⟨S', ⟨k.blk h.bx h.nb, hj, h.st.offS k h.os, h.far.offS k h.oF, fun i hi => (g i hi).elim (h.lo i) (fun h2 => by omega), g.not h.bx.lt h.nb, h.os.grows h.st g, h.oF.grows h.far g, since_of (h.sn.below.trans (k.below hs h.lo)), h.wb⟩, g⟩
end
theorem PlAt.put {w V w2 : World} {b j : Nat} {L M F : List KV} {m : Nat} {A A0 A1 A2 : Option Addr} {q r q0 r0 q1 r1 q2 r2 : Nat} {N0 : Int} {S S' : Nat → Prop} (hV : Since w V) (hB : Blk V b 29 #[.pointer (some ⟨j, 0, none⟩), .slice A0 q0 r0, .slice A1 q1 r1, .int .i64 N0]) (hwb : w.heap.size ≤ b) (hb : ¬ S b) (hS : ∀ i, S i → w.heap.size ≤ i)
  (hJ : Jr w2 S' j [] L m) (hM : Prs w2 (.slice A q r) M) (hF : Prs w2 (.slice A2 q2 r2) F) (hk : KeepS S V w2) (hg : Grows S S' V) (oM : OffS S' (.slice A q r) M) (oF : OffS S' (.slice A2 q2 r2) F) :
  Blk w2 b 29 #[.pointer (some ⟨j, 0, none⟩), .slice A0 q0 r0, .slice A1 q1 r1, .int .i64 N0] ∧
  PlAt w b j S' L M F m A A2 q r q2 r2 ((((w2.setCell ⟨b, 0, none⟩ (.pointer (some ⟨j, 0, none⟩))).setCell ⟨b, 1, none⟩ (.slice A q r)).setCell ⟨b, 2, none⟩ (.slice A2 q2 r2)).setCell ⟨b, 3, none⟩ (.int .i64 1)) := by
 have hB2 := hk.blk hB hb
 have h1 : Since w w2 := since_of (hV.below.trans (hk.below hV.below.size hS))
 have hs := hV.below.size
 exact ⟨hB2, put4 hB2 _ _ _ _, hJ.put4 hB2 (by decide) (hg.not hB.lt hb) _ _ _ _, hM.put4 hB2 _ _ _ _, hF.put4 hB2 _ _ _ _, fun i hi => (hg i hi).elim (hS i) (fun h2 => by omega), hg.not hB.lt hb, oM, oF, since_put4 h1 hwb _ _ _ _, hwb⟩
theorem size_put4 (W : World) (b : Nat) (v0 v1 v2 v3 : Value) : ((((W.setCell ⟨b, 0, none⟩ v0).setCell ⟨b, 1, none⟩ v1).setCell ⟨b, 2, none⟩ v2).setCell ⟨b, 3, none⟩ v3).heap.size = W.heap.size := by simp [World.setCell]
theorem frz_no (A : Option Addr) (n cap : Nat) (time : Int) (key : ByteArray) (f : Bool) (hn : f = false ∨ 100 < key.size) (w : World)
  (FW : Hid (∀ W, Since w W → Calls qP 6 #[.slice A n cap, .int .i64 10] W fun e w' => e = .returned (.bool f) ∧ Since W w'))
  (AW : Hid (∀ W, Since w W → Calls qP 7 #[] W fun e w' => e = .returned (.bool true) ∧ Since W w')) :
  Calls qP 4 #[.slice A n cap, .int .u16 time, .string key] w fun e w' => e = .returned (.bool true) ∧ Since w w' := by
 have hc : f = false ∨ (f = true ∧ (100 : Int) < (key.size : Int)) := by
  cases f with
  | false => exact .inl rfl
  | true => exact .inr ⟨rfl, by rcases hn with h | h; cases h; omega⟩
 clear hn
 rcases hc with rfl | ⟨rfl, hk⟩
 all_goals
  go_enter Tryz.func4, Tryz.ntmps4
  go_wp2_with fail
  refine (FW.out _ (Since.refl w)).mono ?_
  rintro e w1 ⟨rfl, q⟩
  have S1 := qH q
  clear FW q
  go_wp2_with fail
  refine (AW.out _ S1.out).mono ?_
  rintro e w2 ⟨rfl, q⟩
  have S2 := qH (since_two S1.out q)
  clear AW S1 q
  go_wp2
  go_ret
  exact ⟨rfl, S2.out⟩
theorem frz_this (Al : Option Addr) (n cl : Nat) (time : Int) (ht0 : 0 ≤ time) (ht1 : time ≤ 65535) (key : ByteArray) (hkey : key.size ≤ 100) (w : World) (L1 L2 F : List KV) (a1 a5 b1 b5 : ByteArray) (a2 a3 b2 b3 : Int) (a4 b4 : ByteArray) (s t v pr nn x2 : ByteArray) (g : Bool) (hnn : nn ≠ ⟨#[]⟩)
  (FW : Hid (∀ W, Since w W → Calls qP 6 #[.slice Al n cl, .int .i64 10] W fun e w' => e = .returned (.bool true) ∧ Since W w'))
  (BG : Hid (∀ W, Since w W → Calls qP 8 #[] W (BeginPost W)))
  (TL : Hid (∀ W S j B q r, Since w W → Jr W S j [] store0 14 → Prs W (.slice B q r) store0 → (∀ g, (Value.slice B q r).ownBlock = some g → ¬ S g) → Calls qP 9 #[wdV j B q r none 0 0 0, .slice Al n cl, .int .i64 3] W (TellPost14 W S j L1 28 F 1)))
  (SG1 : Hid (∀ W, Since w W → Calls qP 14 #[.string ⟨#[107]⟩, .agg #[.string ⟨#[111, 116, 104, 101, 114]⟩, .int .i64 1, .int .i64 (time + 4), .string ⟨#[114]⟩, .string ⟨#[]⟩]] W fun en w' => en = .returned (.tuple #[.agg #[.string a1, .int .i64 a2, .int .i64 a3, .string a4, .string a5], .int .i64 0]) ∧ Since W w'))
  (PT1 : Hid (∀ W, Since w W → Calls qP 15 #[.agg #[.string a1, .int .i64 a2, .int .i64 a3, .string a4, .string a5]] W fun en w' => en = .returned (.tuple #[.string s, .int .i64 0]) ∧ Since W w'))
  (SG2 : Hid (∀ W, Since w W → Calls qP 14 #[.string ⟨#[107]⟩, .agg #[.string ⟨#[111, 116, 104, 101, 114]⟩, .int .i64 2, .int .i64 (time + 4), .string ⟨#[114]⟩, .string ⟨#[]⟩]] W fun en w' => en = .returned (.tuple #[.agg #[.string b1, .int .i64 b2, .int .i64 b3, .string b4, .string b5], .int .i64 0]) ∧ Since W w'))
  (PT2 : Hid (∀ W, Since w W → Calls qP 15 #[.agg #[.string b1, .int .i64 b2, .int .i64 b3, .string b4, .string b5]] W fun en w' => en = .returned (.tuple #[.string t, .int .i64 0]) ∧ Since W w'))
  (U1 : Hid (∀ W S j, Since w W → Jr W S j [] L1 28 → Calls qP 16 #[.pointer (some ⟨j, 0, none⟩), .string ⟨#[99, 108, 105, 101, 110, 116, 45, 48]⟩, .string s] W fun en w' => en = .returned (.int .i64 0) ∧ Jm W S j [] L2 42 w'))
  (U2 : Hid (∀ W S j, Since w W → Jr W S j [] L2 42 → Calls qP 16 #[.pointer (some ⟨j, 0, none⟩), .string ⟨#[99, 108, 105, 101, 110, 116, 45, 48]⟩, .string t] W fun en w' => en = .returned (.int .i64 12) ∧ Since W w'))
  (RG : Hid (∀ W A q r, Since w W → Prs W (.slice A q r) F → Calls qP 17 #[.slice A q r, .string key] W fun en w' => en = .returned (.tuple #[.string v, .bool g]) ∧ w' = W))
  (A1 : Hid (∀ W j A q r A2 q2 r2, Since w W → Prs W (.slice A2 q2 r2) F → Calls qP 19 #[wdV j A q r A2 q2 r2 1, .string key, .string ⟨#[]⟩] W fun e w' => e = .returned (.agg #[.int .i64 1, .string pr]) ∧ Since W w'))
  (HS : Hid (∀ W S j, Since w W → Jr W S j [] L2 42 → Calls qP 18 #[.pointer (some ⟨j, 0, none⟩), .string ⟨#[99, 108, 105, 101, 110, 116, 45, 48]⟩, .agg #[.int .i64 1, .string pr], .agg #[.string key, .string v]] W fun e w' => e = .returned (.int .i64 12) ∧ Since W w'))
  (LK : Hid (∀ W S j, Since w W → Jr W S j [] L2 42 → Calls qP 20 #[.pointer (some ⟨j, 0, none⟩), .string ⟨#[99, 108, 105, 101, 110, 116, 45, 48]⟩, .agg #[.int .i64 1, .string pr], .string key] W fun e w' => e = .returned (.int .i64 12) ∧ Since W w'))
  (SE : Hid (∀ W S j, Since w W → Jr W S j [] L2 42 → Calls qP 21 #[.pointer (some ⟨j, 0, none⟩), .string ⟨#[99, 108, 105, 101, 110, 116, 45, 48]⟩, .int .i64 1] W fun e w' => e = .returned (.tuple #[.agg #[.int .i64 3, .string x2], .int .i64 0]) ∧ Since W w'))
  (NM : Hid (∀ W, Since w W → Calls qP 22 #[.int .i64 1] W fun e w' => e = .returned (.string nn) ∧ Since W w'))
  (AW : Hid (∀ W, Since w W → Calls qP 7 #[] W fun e w' => e = .returned (.bool true) ∧ Since W w')) :
  Calls qP 4 #[.slice Al n cl, .int .u16 time, .string key] w fun e w' => e = .returned (.bool true) ∧ Since w w' := by
 have hk : ¬ (100 : Int) < (key.size : Int) := by omega
 have hw1 : IntKind.i64.wrap time = time := IntWalk.i64_in _ (by omega)
 have hw2 : IntKind.i64.wrap (time + 4) = time + 4 := IntWalk.i64_in _ (by omega)
 clear hkey
 go_enter Tryz.func4, Tryz.ntmps4
 go_wp2_with fail
 refine (FW.out _ (Since.refl w)).mono ?_
 rintro e w0 ⟨rfl, q⟩
 have S0 := qH q
 clear FW q
 go_wp2_with fail
 refine (BG.out _ S0.out).mono ?_
 rintro e w1 ⟨S, j, B, q, r, rfl, ⟨hJ, hT⟩, hP, hS, hn⟩
 have S1 := qH (since_two S0.out hS)
 have J1 := qH (And.intro hJ (And.intro (fun i hi => Nat.le_trans S0.out.below.size (hT i hi)) (And.intro hP hn)))
 have X1 := qH (Blk.new w1 29 #[.pointer (some ⟨j, 0, none⟩), .slice B q r, .slice none 0 0, .int .i64 0])
 have Q1 := qH (since_alloc (Since.refl w1) (.cells #[.pointer (some ⟨j, 0, none⟩), .slice B q r, .slice none 0 0, .int .i64 0] 29))
 have nb := qH (show ¬ S w1.heap.size from fun h => by have := hJ.bound _ h; omega)
 clear BG hJ hT hP hS hn S0
 go_wp2_with fail
 refine (TL.out _ S j B q r (since_two S1.out Q1.out) (J1.out.1.below Q1.out.below) (J1.out.2.2.1.below Q1.out.below) J1.out.2.2.2).mono ?_
 rintro e w2 ⟨S', B', q', r', B2, q2, r2, rfl, hJ2, hP2, hF2, hkp, hg, hoA, hoF⟩
 have HA := qH (PlAt.put (since_two S1.out Q1.out) X1.out S1.out.below.size nb.out J1.out.2.1 hJ2 hP2 hF2 hkp hg hoA hoF)
 clear TL J1 X1 Q1 nb hJ2 hP2 hF2 hkp hg hoA hoF S1
 have d0 := HA.out.1.c 0 (v := .pointer (some ⟨j, 0, none⟩)) rfl
 have d1 := HA.out.1.c 1 (v := .slice B q r) rfl
 have d2 := HA.out.1.c 2 (v := .slice none 0 0) rfl
 have d3 := HA.out.1.c 3 (v := .int .i64 0) rfl
 have f0 := HA.out.1.frozen 0
 have f1 := HA.out.1.frozen 1
 have f2 := HA.out.1.frozen 2
 have f3 := HA.out.1.frozen 3
 have H3 := qH HA.out.2
 clear HA
 generalize w1.heap.size = bw at *
 have zz := size_put4 w2 bw (.pointer (some ⟨j, 0, none⟩)) (.slice B' q' r') (.slice B2 q2 r2) (.int .i64 1)
 have X := Blk.new ((((w2.setCell ⟨bw, 0, none⟩ (.pointer (some ⟨j, 0, none⟩))).setCell ⟨bw, 1, none⟩ (.slice B' q' r')).setCell ⟨bw, 2, none⟩ (.slice B2 q2 r2)).setCell ⟨bw, 3, none⟩ (.int .i64 1)) 34 #[.string ⟨#[111, 116, 104, 101, 114]⟩, .int .i64 1, .int .i64 (time + 4), .string ⟨#[114]⟩, .string ⟨#[]⟩]
 rw [zz] at X
 have X4 := qH X
 have K4 := qH (since_alloc (Since.refl ((((w2.setCell ⟨bw, 0, none⟩ (.pointer (some ⟨j, 0, none⟩))).setCell ⟨bw, 1, none⟩ (.slice B' q' r')).setCell ⟨bw, 2, none⟩ (.slice B2 q2 r2)).setCell ⟨bw, 3, none⟩ (.int .i64 1))) (.cells #[.string ⟨#[111, 116, 104, 101, 114]⟩, .int .i64 1, .int .i64 (time + 4), .string ⟨#[114]⟩, .string ⟨#[]⟩] 34))
 have Z3 := qH (Nat.le_of_eq zz)
 clear zz X
 go_wp2_with fail
 clear d0 d1 d2 d3 f0 f1 f2 f3
 refine (SG1.out _ (since_two H3.out.sn K4.out)).mono ?_
 rintro e w4 ⟨rfl, q4⟩
 generalize ((((w2.setCell ⟨bw, 0, none⟩ (.pointer (some ⟨j, 0, none⟩))).setCell ⟨bw, 1, none⟩ (.slice B' q' r')).setCell ⟨bw, 2, none⟩ (.slice B2 q2 r2)).setCell ⟨bw, 3, none⟩ (.int .i64 1)) = W3 at *
 have K5 := qH (since_alloc (since_two K4.out q4) (.cells #[.string a1, .int .i64 a2, .int .i64 a3, .string a4, .string a5] 34))
 have X5 := qH ((X4.out.next q4.below).alloc (.cells #[.string a1, .int .i64 a2, .int .i64 a3, .string a4, .string a5] 34))
 have A5 := qH (Blk.new w4 34 #[.string a1, .int .i64 a2, .int .i64 a3, .string a4, .string a5])
 clear SG1 K4 X4 q4
 have ea0 := A5.out.c 0 (v := .string a1) rfl
 have ea1 := A5.out.c 1 (v := .int .i64 a2) rfl
 have ea2 := A5.out.c 2 (v := .int .i64 a3) rfl
 have ea3 := A5.out.c 3 (v := .string a4) rfl
 have ea4 := A5.out.c 4 (v := .string a5) rfl
 go_wp2_with fail
 clear ea0 ea1 ea2 ea3 ea4
 refine (PT1.out _ (since_two H3.out.sn K5.out)).mono ?_
 rintro e w5 ⟨rfl, q5⟩
 have K6 := qH (since_two K5.out q5)
 have X6 := qH (X5.out.next q5.below)
 clear PT1 K5 X5 A5 q5
 have x1 := X6.out.c 1 (v := .int .i64 1) rfl
 have x0 := X6.out.c 0 (v := .string ⟨#[111, 116, 104, 101, 114]⟩) rfl
 have x2' := X6.out.c 2 (v := .int .i64 (time + 4)) rfl
 have x3 := X6.out.c 3 (v := .string ⟨#[114]⟩) rfl
 have x4 := X6.out.c 4 (v := .string ⟨#[]⟩) rfl
 have xf := X6.out.frozen 1
 have K7 := qH (since_put K6.out (p := ⟨w2.heap.size, 1, none⟩) Z3.out (.int .i64 2))
 have X7 := qH (X6.out.set_ 1 (.int .i64 2))
 have o0 := X7.out.c 0 (v := .string ⟨#[111, 116, 104, 101, 114]⟩) rfl
 have o1 := X7.out.c 1 (v := .int .i64 2) rfl
 have o2 := X7.out.c 2 (v := .int .i64 (time + 4)) rfl
 have o3 := X7.out.c 3 (v := .string ⟨#[114]⟩) rfl
 have o4 := X7.out.c 4 (v := .string ⟨#[]⟩) rfl
 go_wp2_with fail
 clear x0 x1 x2' x3 x4 xf o0 o1 o2 o3 o4 K6 X6
 refine (SG2.out _ (since_two H3.out.sn K7.out)).mono ?_
 rintro e w6 ⟨rfl, q6⟩
 have K8 := qH (since_alloc (since_two K7.out q6) (.cells #[.string b1, .int .i64 b2, .int .i64 b3, .string b4, .string b5] 34))
 have B8 := qH (Blk.new w6 34 #[.string b1, .int .i64 b2, .int .i64 b3, .string b4, .string b5])
 clear SG2 K7 X7 q6
 have eb0 := B8.out.c 0 (v := .string b1) rfl
 have eb1 := B8.out.c 1 (v := .int .i64 b2) rfl
 have eb2 := B8.out.c 2 (v := .int .i64 b3) rfl
 have eb3 := B8.out.c 3 (v := .string b4) rfl
 have eb4 := B8.out.c 4 (v := .string b5) rfl
 go_wp2_with fail
 clear eb0 eb1 eb2 eb3 eb4
 refine (PT2.out _ (since_two H3.out.sn K8.out)).mono ?_
 rintro e w7 ⟨rfl, q7⟩
 have H7 := qH (H3.out.next (since_two K8.out q7))
 clear PT2 K8 B8 q7 H3 Z3
 have u0 := H7.out.bx.c 0 (v := .pointer (some ⟨j, 0, none⟩)) rfl
 go_wp2_with fail
 clear u0
 refine (U1.out _ _ j H7.out.sn H7.out.jr).mono ?_
 rintro e w8 ⟨rfl, hm⟩
 obtain ⟨S2, hx, _⟩ := H7.out.step hm
 have H8 := qH hx
 clear U1 H7 hm hx
 have u0 := H8.out.bx.c 0 (v := .pointer (some ⟨j, 0, none⟩)) rfl
 go_wp2_with fail
 clear u0
 refine (U2.out _ _ j H8.out.sn H8.out.jr).mono ?_
 rintro e w9 ⟨rfl, q9⟩
 have H9 := qH (H8.out.next q9)
 clear U2 H8 q9
 have u2 := H9.out.bx.c 2 (v := .slice B2 q2 r2) rfl
 go_wp2_with fail
 clear u2
 refine (RG.out _ B2 q2 r2 H9.out.sn H9.out.far).mono ?_
 rintro e w10 ⟨rfl, rfl⟩
 clear RG
 go_wp2
 have k0 := H9.out.bx.c 0 (v := .pointer (some ⟨j, 0, none⟩)) rfl
 have k1 := H9.out.bx.c 1 (v := .slice B' q' r') rfl
 have k2 := H9.out.bx.c 2 (v := .slice B2 q2 r2) rfl
 have k3 := H9.out.bx.c 3 (v := .int .i64 1) rfl
 have r0 := Since.refl w10
 have AT := qH (fun W (hW : Since w10 W) => (A1.out W j B' q' r' B2 q2 r2 (since_two H9.out.sn hW) (H9.out.far.below hW.below)).mono fun en w' (h : en = .returned _ ∧ Since W w') => And.intro h.1 (since_two hW h.2))
 have HC := qH (fun W (hW : Since w10 W) => (HS.out W _ j (since_two H9.out.sn hW) (H9.out.jr.below hW.below)).mono fun en w' (h : en = .returned _ ∧ Since W w') => And.intro h.1 (since_two hW h.2))
 clear HS
 go_region_held3 (fun W => W.cell? ⟨bw, 0, none⟩ = some (.pointer (some ⟨j, 0, none⟩)) ∧ W.cell? ⟨bw, 1, none⟩ = some (.slice B' q' r') ∧ W.cell? ⟨bw, 2, none⟩ = some (.slice B2 q2 r2) ∧ W.cell? ⟨bw, 3, none⟩ = some (.int .i64 1))
  (first | exact ⟨s3.cell k0, s3.cell k1, s3.cell k2, s3.cell k3⟩ | exact ⟨s4.cell k0, s4.cell k1, s4.cell k2, s4.cell k3⟩ | go_keep)
  (first
    | (go_at_call 19; refine (AT.out _ (by exact r0)).mono ?_; clear AT; rintro en u9a ⟨rfl, s3⟩)
    | (go_at_call 18; refine (HC.out _ (by exact s3)).mono ?_; clear HC; rintro en u9b ⟨rfl, s4⟩))
 have H10 := qH (H9.out.next s4)
 clear H9 k0 k1 k2 k3 r0 s3 s4
 go_wp2
 have k0 := H10.out.bx.c 0 (v := .pointer (some ⟨j, 0, none⟩)) rfl
 have k1 := H10.out.bx.c 1 (v := .slice B' q' r') rfl
 have k2 := H10.out.bx.c 2 (v := .slice B2 q2 r2) rfl
 have k3 := H10.out.bx.c 3 (v := .int .i64 1) rfl
 have r0 := Since.refl u9b
 have AT := qH (fun W (hW : Since u9b W) => (A1.out W j B' q' r' B2 q2 r2 (since_two H10.out.sn hW) (H10.out.far.below hW.below)).mono fun en w' (h : en = .returned _ ∧ Since W w') => And.intro h.1 (since_two hW h.2))
 have HC := qH (fun W (hW : Since u9b W) => (LK.out W _ j (since_two H10.out.sn hW) (H10.out.jr.below hW.below)).mono fun en w' (h : en = .returned _ ∧ Since W w') => And.intro h.1 (since_two hW h.2))
 clear LK
 go_region_held3 (fun W => W.cell? ⟨bw, 0, none⟩ = some (.pointer (some ⟨j, 0, none⟩)) ∧ W.cell? ⟨bw, 1, none⟩ = some (.slice B' q' r') ∧ W.cell? ⟨bw, 2, none⟩ = some (.slice B2 q2 r2) ∧ W.cell? ⟨bw, 3, none⟩ = some (.int .i64 1))
  (first | exact ⟨s3.cell k0, s3.cell k1, s3.cell k2, s3.cell k3⟩ | exact ⟨s4.cell k0, s4.cell k1, s4.cell k2, s4.cell k3⟩ | go_keep)
  (first
    | (go_at_call 19; refine (AT.out _ (by exact r0)).mono ?_; clear AT; rintro en u10a ⟨rfl, s3⟩)
    | (go_at_call 20; refine (HC.out _ (by exact s3)).mono ?_; clear HC; rintro en u10b ⟨rfl, s4⟩))
 have H11 := qH (H10.out.next s4)
 clear H10 k0 k1 k2 k3 r0 s3 s4
 have u0 := H11.out.bx.c 0 (v := .pointer (some ⟨j, 0, none⟩)) rfl
 go_wp2_with fail
 clear u0
 refine (SE.out _ _ j H11.out.sn H11.out.jr).mono ?_
 rintro e w11 ⟨rfl, q11⟩
 have S12 := qH (since_alloc (since_two H11.out.sn q11) (.cells #[.int .i64 3, .string x2] 62))
 have E12 := qH (Blk.new w11 62 #[.int .i64 3, .string x2])
 clear SE H11 q11 A1
 have e0 := E12.out.c 0 (v := .int .i64 3) rfl
 have hne : nn.toList.isEmpty = false := by
  cases hl : nn.toList with
  | nil => exact absurd (str_eq (by simpa using hl)) hnn
  | cons a r => rfl
 clear hnn
 go_wp2_with fail
 clear e0
 refine (NM.out _ S12.out).mono ?_
 rintro e w12 ⟨rfl, q12⟩
 have S13 := qH (since_two S12.out q12)
 clear NM S12 E12 q12
 go_wp2_with fail
 refine (AW.out _ S13.out).mono ?_
 rintro e w13 ⟨rfl, q13⟩
 have S14 := qH (since_two S13.out q13)
 clear AW S13 q13
 go_wp2
 go_ret
 exact ⟨rfl, S14.out⟩
end Go.Proofs.YtkejaepmoabikaaGreatDoor.W
namespace Go.Proofs.YtkejaepmoabikaaGreatDoor.W
theorem far_mem {l : List KV} {p : KV} (h : p ∈ farOf l) : p ∈ l := by
 unfold farOf at h
 suffices hs : ∀ (l s : List KV) (p : KV), p ∈ l.foldl (fun s p => lset s p.1 p.2) s → p ∈ s ∨ p ∈ l by
  rcases hs l [] p h with h | h
  ·cases h
  ·exact h
 intro l
 induction l with
 | nil => exact fun s p h => .inl h
 | cons x l ih =>
  intro s p h
  rcases ih _ p h with h | h
  ·rcases lset_mem h with h | h
   ·exact .inr (by rw [h]; exact List.mem_cons_self ..)
   ·exact .inl h
  ·exact .inr (List.mem_cons_of_mem _ h)
theorem far14 {l : List KV} (h : l.length ≤ 12) (hs : Small14 l) : Far14 (farOf l) :=
 ⟨far_up l, by have := far_len l; omega, fun p hp => by have := hs p (far_mem hp); omega⟩
end Go.Proofs.YtkejaepmoabikaaGreatDoor.W
