import Derived.Test.YtkejaepmoabikaaGreatDoorZ2a
import Derived.Test.YtkejaepmoabikaaGreatDoorZ0g
namespace Go.Proofs.YtkejaepmoabikaaGreatDoor.W
open Go.RowKit
open Lib renaming hid → qH
open _root_.Go.Proofs.Tryz renaming prog → qP
set_option maxHeartbeats 4000000
set_option maxRecDepth 100000
theorem newNil14 (chain key : ByteArray) (w : World) : Calls qP 23 #[.pointer none, .string chain, .string key] w fun e w' => e = .returned (.tuple #[.string ⟨#[]⟩, .int .i64 2]) ∧ Since w w' := by
 go_enter Tryz.func23, Tryz.ntmps23
 go_wp2
 go_ret2
 exact ⟨rfl, Since.refl w⟩
theorem getNil14 (id : ByteArray) (w : World) : Calls qP 11 #[.pointer none, .string id] w fun e w' => e = .returned (retCE (Clt.zero, 2)) ∧ Since w w' := by
 have O1 := qH (Blk.new w 41 #[.string ⟨#[]⟩, .string ⟨#[]⟩, .int .i64 0, .bool false])
 have S1 := qH (since_alloc (Since.refl w) (.cells #[.string ⟨#[]⟩, .string ⟨#[]⟩, .int .i64 0, .bool false] 41))
 go_enter Tryz.func11, Tryz.ntmps11
 go_wp2
 have D1 := O1.out
 refine bodyPost_ret (v := retCE (Clt.zero, 2)) (by simp [results, Tryz.results11, go_sem, retCE, cltV, Clt.zero, D1.c 0 rfl, D1.c 1 rfl, D1.c 2 rfl, D1.c 3 rfl]) rfl ?_
 exact ⟨rfl, S1.out⟩
theorem see_errN (id : ByteArray) (h : Int) (c1 c2 : ByteArray) (c3 : Int) (c4 : Bool) (e : Int) (w : World) (he : e ≠ 0)
  (C : Hid (∀ W, Since w W → Calls qP 11 #[.pointer none, .string id] W fun en w' => en = .returned (.tuple #[.agg #[.string c1, .string c2, .int .i64 c3, .bool c4], .int .i64 e]) ∧ Since W w')) :
  Calls qP 21 #[.pointer none, .string id, .int .i64 h] w fun en w' => en = .returned (retNE (Sn.zero, e)) ∧ Since w w' := by
 have hb : (e != 0) = true := by rw [bne_iff_ne]; exact he
 clear he
 have O0 := qH (Blk.new w 62 #[.int .i64 0, .string ⟨#[]⟩])
 have S0 := qH (since_alloc (Since.refl w) (.cells #[.int .i64 0, .string ⟨#[]⟩] 62))
 go_enter Tryz.func21, Tryz.ntmps21
 go_wp2_with fail
 refine (C.out _ S0.out).mono ?_
 rintro en w1 ⟨rfl, q⟩
 have O1 := qH ((O0.out.next q.below).alloc (.cells #[.string c1, .string c2, .int .i64 c3, .bool c4] 41))
 have S1 := qH (since_alloc (since_two S0.out q) (.cells #[.string c1, .string c2, .int .i64 c3, .bool c4] 41))
 clear C O0 S0 q
 have d0 : (w1.alloc (.cells #[.string c1, .string c2, .int .i64 c3, .bool c4] 41)).cell? ⟨w.heap.size, 0, none⟩ = some (.int .i64 0) := O1.out.c 0 rfl
 have d1 : (w1.alloc (.cells #[.string c1, .string c2, .int .i64 c3, .bool c4] 41)).cell? ⟨w.heap.size, 1, none⟩ = some (.string ⟨#[]⟩) := O1.out.c 1 rfl
 have f0 := O1.out.frozen 0
 have f1 := O1.out.frozen 1
 have D := qH (And.intro (put2 O1.out (.int .i64 0) (.string ⟨#[]⟩)) (since_put2 S1.out (Nat.le_refl _) (.int .i64 0) (.string ⟨#[]⟩)))
 clear O1 S1
 go_wp2
 have D1 := D.out.1
 refine bodyPost_ret (v := retNE (Sn.zero, e)) (by simp [results, Tryz.results21, go_sem, retNE, snV, Sn.zero, D1.c 0 rfl, D1.c 1 rfl]) rfl ?_
 exact ⟨rfl, D.out.2⟩
theorem act_thisN (id : ByteArray) (c1 c2 : ByteArray) (c3 : Int) (c4 : Bool) (e : Int) (w : World)
  (C : Hid (∀ W, Since w W → Calls qP 11 #[.pointer none, .string id] W fun en w' => en = .returned (.tuple #[.agg #[.string c1, .string c2, .int .i64 c3, .bool c4], .int .i64 e]) ∧ Since W w')) :
  Calls qP 48 #[.pointer none, .string id] w fun en w' => en = .returned (retCE (if e ≠ 0 then (Clt.zero, e) else if c4 = true then (Clt.zero, 12) else (⟨c1, c2, c3, c4⟩, 0))) ∧ Since w w' := by
 obtain ⟨ans, hr⟩ : ∃ x : Clt × Int, x = (if e ≠ 0 then (Clt.zero, e) else if c4 = true then (Clt.zero, 12) else (⟨c1, c2, c3, c4⟩, 0)) := ⟨_, rfl⟩
 rw [← hr]
 have HR := qH hr
 clear hr
 have O0 := qH (Blk.new w 41 #[.string ⟨#[]⟩, .string ⟨#[]⟩, .int .i64 0, .bool false])
 have S0 := qH (since_alloc (Since.refl w) (.cells #[.string ⟨#[]⟩, .string ⟨#[]⟩, .int .i64 0, .bool false] 41))
 go_enter Tryz.func48, Tryz.ntmps48
 go_wp2_with fail
 refine (C.out _ S0.out).mono ?_
 rintro en w1 ⟨rfl, q⟩
 have O1 := qH ((O0.out.next q.below).alloc (.cells #[.string c1, .string c2, .int .i64 c3, .bool c4] 41))
 have S1 := qH (since_alloc (since_two S0.out q) (.cells #[.string c1, .string c2, .int .i64 c3, .bool c4] 41))
 have C1 := qH (Blk.new w1 41 #[.string c1, .string c2, .int .i64 c3, .bool c4])
 clear O0 S0 C q
 have y0 := C1.out.c 0 (v := .string c1) rfl
 have y1 := C1.out.c 1 (v := .string c2) rfl
 have y2 := C1.out.c 2 (v := .int .i64 c3) rfl
 have y3 := C1.out.c 3 (v := .bool c4) rfl
 have d0 := O1.out.c 0 (v := .string ⟨#[]⟩) rfl
 have d1 := O1.out.c 1 (v := .string ⟨#[]⟩) rfl
 have d2 := O1.out.c 2 (v := .int .i64 0) rfl
 have d3 := O1.out.c 3 (v := .bool false) rfl
 have f0 := O1.out.frozen 0
 have f1 := O1.out.frozen 1
 have f2 := O1.out.frozen 2
 have f3 := O1.out.frozen 3
 have DZ := qH (And.intro (put4 O1.out (.string ⟨#[]⟩) (.string ⟨#[]⟩) (.int .i64 0) (.bool false)) (since_put4 S1.out (Nat.le_refl _) (.string ⟨#[]⟩) (.string ⟨#[]⟩) (.int .i64 0) (.bool false)))
 have DY := qH (And.intro (put4 O1.out (.string c1) (.string c2) (.int .i64 c3) (.bool c4)) (since_put4 S1.out (Nat.le_refl _) (.string c1) (.string c2) (.int .i64 c3) (.bool c4)))
 clear O1 S1 C1
 by_cases he : e = 0
 ·subst he
  cases c4 with
  | true =>
   have hr := HR.out
   rw [if_neg (by simp), if_pos rfl] at hr
   subst hr
   clear HR DY
   go_wp2
   have D1 := DZ.out.1
   refine bodyPost_ret (v := retCE (Clt.zero, 12)) (by simp [results, Tryz.results48, go_sem, retCE, cltV, Clt.zero, D1.c 0 rfl, D1.c 1 rfl, D1.c 2 rfl, D1.c 3 rfl]) rfl ?_
   exact ⟨rfl, DZ.out.2⟩
  | false =>
   have hr := HR.out
   rw [if_neg (by simp), if_neg (by simp)] at hr
   subst hr
   clear HR DZ
   go_wp2
   have D1 := DY.out.1
   refine bodyPost_ret (v := retCE (⟨c1, c2, c3, false⟩, 0)) (by simp [results, Tryz.results48, go_sem, retCE, cltV, D1.c 0 rfl, D1.c 1 rfl, D1.c 2 rfl, D1.c 3 rfl]) rfl ?_
   exact ⟨rfl, DY.out.2⟩
 ·have heb : (e != 0) = true := by rw [bne_iff_ne]; exact he
  have hr := HR.out
  rw [if_pos he] at hr
  subst hr
  clear HR DY he
  go_wp2
  have D1 := DZ.out.1
  refine bodyPost_ret (v := retCE (Clt.zero, e)) (by simp [results, Tryz.results48, go_sem, retCE, cltV, Clt.zero, D1.c 0 rfl, D1.c 1 rfl, D1.c 2 rfl, D1.c 3 rfl]) rfl ?_
  exact ⟨rfl, DZ.out.2⟩
theorem evid_e1N (id pr : ByteArray) (h : Int) (c1 c2 : ByteArray) (c3 : Int) (c4 : Bool) (e : Int) (w : World) (he : e ≠ 0)
  (C : Hid (∀ W, Since w W → Calls qP 48 #[.pointer none, .string id] W fun en w' => en = .returned (.tuple #[.agg #[.string c1, .string c2, .int .i64 c3, .bool c4], .int .i64 e]) ∧ Since W w')) :
  Calls qP 54 #[.pointer none, .string id, .agg #[.int .i64 h, .string pr]] w fun en w' => en = .returned (.tuple #[.string ⟨#[]⟩, .agg #[.int .i64 0, .int .i64 0, .bool false, .slice none 0 0, .slice none 0 0], .int .i64 e]) ∧ Since w w' := by
 have hb : (e != 0) = true := by rw [bne_iff_ne]; exact he
 clear he
 have z0 : (w.alloc (.cells #[.int .i64 h, .string pr] 58)).heap.size = w.heap.size + 1 := by simp
 have A0 := qH ((Blk.new w 58 #[.int .i64 h, .string pr]).alloc (.cells #[.int .i64 0, .int .i64 0, .bool false, .slice none 0 0, .slice none 0 0] 112))
 have O := Blk.new (w.alloc (.cells #[.int .i64 h, .string pr] 58)) 112 #[.int .i64 0, .int .i64 0, .bool false, .slice none 0 0, .slice none 0 0]
 rw [z0] at O
 have O0 := qH O
 have S0 := qH (since_alloc (since_alloc (Since.refl w) (.cells #[.int .i64 h, .string pr] 58)) (.cells #[.int .i64 0, .int .i64 0, .bool false, .slice none 0 0, .slice none 0 0] 112))
 clear z0 O
 go_enter Tryz.func54, Tryz.ntmps54
 go_wp2_with fail
 refine (C.out _ S0.out).mono ?_
 rintro en w1 ⟨rfl, q⟩
 have A1' := qH ((A0.out.next q.below).alloc (.cells #[.string c1, .string c2, .int .i64 c3, .bool c4] 41))
 have O1 := qH ((O0.out.next q.below).alloc (.cells #[.string c1, .string c2, .int .i64 c3, .bool c4] 41))
 have S1 := qH (since_alloc (since_two S0.out q) (.cells #[.string c1, .string c2, .int .i64 c3, .bool c4] 41))
 have C1 := qH (Blk.new w1 41 #[.string c1, .string c2, .int .i64 c3, .bool c4])
 clear A0 O0 S0 C q
 have d0 : (w1.alloc (.cells #[.string c1, .string c2, .int .i64 c3, .bool c4] 41)).cell? ⟨w.heap.size + 1, 0, none⟩ = some (.int .i64 0) := O1.out.c 0 rfl
 have d1 : (w1.alloc (.cells #[.string c1, .string c2, .int .i64 c3, .bool c4] 41)).cell? ⟨w.heap.size + 1, 1, none⟩ = some (.int .i64 0) := O1.out.c 1 rfl
 have d2 : (w1.alloc (.cells #[.string c1, .string c2, .int .i64 c3, .bool c4] 41)).cell? ⟨w.heap.size + 1, 2, none⟩ = some (.bool false) := O1.out.c 2 rfl
 have d3 : (w1.alloc (.cells #[.string c1, .string c2, .int .i64 c3, .bool c4] 41)).cell? ⟨w.heap.size + 1, 3, none⟩ = some (.slice none 0 0) := O1.out.c 3 rfl
 have d4 : (w1.alloc (.cells #[.string c1, .string c2, .int .i64 c3, .bool c4] 41)).cell? ⟨w.heap.size + 1, 4, none⟩ = some (.slice none 0 0) := O1.out.c 4 rfl
 have f0 := O1.out.frozen 0
 have f1 := O1.out.frozen 1
 have f2 := O1.out.frozen 2
 have f3 := O1.out.frozen 3
 have f4 := O1.out.frozen 4
 have D := qH (And.intro (put5 O1.out (.int .i64 0) (.int .i64 0) (.bool false) (.slice none 0 0) (.slice none 0 0)) (since_put5 (b := w.heap.size + 1) S1.out (by omega) (.int .i64 0) (.int .i64 0) (.bool false) (.slice none 0 0) (.slice none 0 0)))
 clear A1' O1 S1 C1
 go_wp2
 have D1 := D.out.1
 refine bodyPost_ret (v := .tuple #[.string ⟨#[]⟩, .agg #[.int .i64 0, .int .i64 0, .bool false, .slice none 0 0, .slice none 0 0], .int .i64 e]) (by simp [results, Tryz.results54, go_sem, D1.c 0 rfl, D1.c 1 rfl, D1.c 2 rfl, D1.c 3 rfl, D1.c 4 rfl]) rfl ?_
 exact ⟨rfl, D.out.2⟩
theorem has_thisN (id pr root : ByteArray) (h : Int) (p1 p2 : ByteArray) (x : Pf) (e : Int) (b : Bool) (w : World)
  (OP : Hid (∀ W, Since w W → Calls qP 54 #[.pointer none, .string id, .agg #[.int .i64 h, .string pr]] W fun en w' => ∃ n pos there A1 m1 k1 A2 m2 k2, en = .returned (.tuple #[.string root, .agg #[.int .i64 n, .int .i64 pos, .bool there, .slice A1 m1 k1, .slice A2 m2 k2], .int .i64 e]) ∧ Prf w' (.agg #[.int .i64 n, .int .i64 pos, .bool there, .slice A1 m1 k1, .slice A2 m2 k2]) x ∧ Since W w'))
  (TL : Hid (∀ W n pos there A1 m1 k1 A2 m2 k2, Since w W → Prf W (.agg #[.int .i64 n, .int .i64 pos, .bool there, .slice A1 m1 k1, .slice A2 m2 k2]) x → Calls qP 55 #[.string root, .agg #[.string p1, .string p2], .agg #[.int .i64 n, .int .i64 pos, .bool there, .slice A1 m1 k1, .slice A2 m2 k2]] W fun en w' => en = .returned (.bool b) ∧ Since W w')) :
  Calls qP 18 #[.pointer none, .string id, .agg #[.int .i64 h, .string pr], .agg #[.string p1, .string p2]] w fun en w' => en = .returned (.int .i64 (if e ≠ 0 then e else if b = true then 0 else 11)) ∧ Since w w' := by
 obtain ⟨ans, hr⟩ : ∃ y : Int, y = (if e ≠ 0 then e else if b = true then 0 else 11) := ⟨_, rfl⟩
 rw [← hr]
 have HR := qH hr
 clear hr
 have z0 : (w.alloc (.cells #[.int .i64 h, .string pr] 58)).heap.size = w.heap.size + 1 := by simp
 have Q := Blk.new (w.alloc (.cells #[.int .i64 h, .string pr] 58)) 36 #[.string p1, .string p2]
 rw [z0] at Q
 have Q0 := qH Q
 have A0 := qH ((Blk.new w 58 #[.int .i64 h, .string pr]).alloc (.cells #[.string p1, .string p2] 36))
 have S0 := qH (since_alloc (since_alloc (Since.refl w) (.cells #[.int .i64 h, .string pr] 58)) (.cells #[.string p1, .string p2] 36))
 clear z0 Q
 have a0 : ((w.alloc (.cells #[.int .i64 h, .string pr] 58)).alloc (.cells #[.string p1, .string p2] 36)).cell? ⟨w.heap.size, 0, none⟩ = some (.int .i64 h) := A0.out.c 0 rfl
 have a1 : ((w.alloc (.cells #[.int .i64 h, .string pr] 58)).alloc (.cells #[.string p1, .string p2] 36)).cell? ⟨w.heap.size, 1, none⟩ = some (.string pr) := A0.out.c 1 rfl
 go_enter Tryz.func18, Tryz.ntmps18
 go_wp2_with fail
 clear a0 a1
 refine (OP.out _ S0.out).mono ?_
 rintro en w1 ⟨n, pos, there, A1, m1, k1, A2, m2, k2, rfl, hP, q⟩
 have B1 := qH (Blk.new w1 112 #[.int .i64 n, .int .i64 pos, .bool there, .slice A1 m1 k1, .slice A2 m2 k2])
 have S1 := qH (since_alloc (since_two S0.out q) (.cells #[.int .i64 n, .int .i64 pos, .bool there, .slice A1 m1 k1, .slice A2 m2 k2] 112))
 have P1 := qH (hP.below ((Below.refl _ w1).alloc (Nat.le_refl _) (.cells #[.int .i64 n, .int .i64 pos, .bool there, .slice A1 m1 k1, .slice A2 m2 k2] 112)))
 have Q1 := qH ((Q0.out.next q.below).alloc (.cells #[.int .i64 n, .int .i64 pos, .bool there, .slice A1 m1 k1, .slice A2 m2 k2] 112))
 clear Q0
 clear A0 S0 OP q hP
 by_cases he : e = 0
 ·subst he
  have y0 : (w1.alloc (.cells #[.int .i64 n, .int .i64 pos, .bool there, .slice A1 m1 k1, .slice A2 m2 k2] 112)).cell? ⟨w1.heap.size, 0, none⟩ = some (.int .i64 n) := B1.out.c 0 rfl
  have y1 : (w1.alloc (.cells #[.int .i64 n, .int .i64 pos, .bool there, .slice A1 m1 k1, .slice A2 m2 k2] 112)).cell? ⟨w1.heap.size, 1, none⟩ = some (.int .i64 pos) := B1.out.c 1 rfl
  have y2 : (w1.alloc (.cells #[.int .i64 n, .int .i64 pos, .bool there, .slice A1 m1 k1, .slice A2 m2 k2] 112)).cell? ⟨w1.heap.size, 2, none⟩ = some (.bool there) := B1.out.c 2 rfl
  have y3 : (w1.alloc (.cells #[.int .i64 n, .int .i64 pos, .bool there, .slice A1 m1 k1, .slice A2 m2 k2] 112)).cell? ⟨w1.heap.size, 3, none⟩ = some (.slice A1 m1 k1) := B1.out.c 3 rfl
  have y4 : (w1.alloc (.cells #[.int .i64 n, .int .i64 pos, .bool there, .slice A1 m1 k1, .slice A2 m2 k2] 112)).cell? ⟨w1.heap.size, 4, none⟩ = some (.slice A2 m2 k2) := B1.out.c 4 rfl
  have z0 : (w1.alloc (.cells #[.int .i64 n, .int .i64 pos, .bool there, .slice A1 m1 k1, .slice A2 m2 k2] 112)).cell? ⟨w.heap.size + 1, 0, none⟩ = some (.string p1) := Q1.out.c 0 rfl
  have z1 : (w1.alloc (.cells #[.int .i64 n, .int .i64 pos, .bool there, .slice A1 m1 k1, .slice A2 m2 k2] 112)).cell? ⟨w.heap.size + 1, 1, none⟩ = some (.string p2) := Q1.out.c 1 rfl
  go_wp2_with fail
  refine (TL.out _ _ _ _ _ _ _ _ _ _ S1.out P1.out).mono ?_
  rintro en w2 ⟨rfl, q⟩
  have S2 := qH (since_two S1.out q)
  clear TL S1 P1 B1 q y0 y1 y2 y3 y4 Q1 z0 z1
  cases b with
  | true =>
   have hr := HR.out
   rw [if_neg (by simp), if_pos rfl] at hr
   subst hr
   clear HR
   go_wp2
   go_ret
   exact ⟨rfl, S2.out⟩
  | false =>
   have hr := HR.out
   rw [if_neg (by simp), if_neg (by simp)] at hr
   subst hr
   clear HR
   go_wp2
   go_ret
   exact ⟨rfl, S2.out⟩
 ·have heb : (e != 0) = true := by rw [bne_iff_ne]; exact he
  have hr := HR.out
  rw [if_pos he] at hr
  subst hr
  clear HR he TL B1 P1 Q1
  go_wp2
  go_ret
  exact ⟨rfl, S1.out⟩
theorem lacks_thisN (id pr root : ByteArray) (h : Int) (p1 : ByteArray) (x : Pf) (e : Int) (b : Bool) (w : World)
  (OP : Hid (∀ W, Since w W → Calls qP 54 #[.pointer none, .string id, .agg #[.int .i64 h, .string pr]] W fun en w' => ∃ n pos there A1 m1 k1 A2 m2 k2, en = .returned (.tuple #[.string root, .agg #[.int .i64 n, .int .i64 pos, .bool there, .slice A1 m1 k1, .slice A2 m2 k2], .int .i64 e]) ∧ Prf w' (.agg #[.int .i64 n, .int .i64 pos, .bool there, .slice A1 m1 k1, .slice A2 m2 k2]) x ∧ Since W w'))
  (TL : Hid (∀ W n pos there A1 m1 k1 A2 m2 k2, Since w W → Prf W (.agg #[.int .i64 n, .int .i64 pos, .bool there, .slice A1 m1 k1, .slice A2 m2 k2]) x → Calls qP 58 #[.string root, .string p1, .agg #[.int .i64 n, .int .i64 pos, .bool there, .slice A1 m1 k1, .slice A2 m2 k2]] W fun en w' => en = .returned (.bool b) ∧ Since W w')) :
  Calls qP 20 #[.pointer none, .string id, .agg #[.int .i64 h, .string pr], .string p1] w fun en w' => en = .returned (.int .i64 (if e ≠ 0 then e else if b = true then 0 else 11)) ∧ Since w w' := by
 obtain ⟨ans, hr⟩ : ∃ y : Int, y = (if e ≠ 0 then e else if b = true then 0 else 11) := ⟨_, rfl⟩
 rw [← hr]
 have HR := qH hr
 clear hr
 have A0 := qH (Blk.new w 58 #[.int .i64 h, .string pr])
 have S0 := qH (since_alloc (Since.refl w) (.cells #[.int .i64 h, .string pr] 58))
 have a0 : (w.alloc (.cells #[.int .i64 h, .string pr] 58)).cell? ⟨w.heap.size, 0, none⟩ = some (.int .i64 h) := A0.out.c 0 rfl
 have a1 : (w.alloc (.cells #[.int .i64 h, .string pr] 58)).cell? ⟨w.heap.size, 1, none⟩ = some (.string pr) := A0.out.c 1 rfl
 go_enter Tryz.func20, Tryz.ntmps20
 go_wp2_with fail
 clear a0 a1
 refine (OP.out _ S0.out).mono ?_
 rintro en w1 ⟨n, pos, there, A1, m1, k1, A2, m2, k2, rfl, hP, q⟩
 have B1 := qH (Blk.new w1 112 #[.int .i64 n, .int .i64 pos, .bool there, .slice A1 m1 k1, .slice A2 m2 k2])
 have S1 := qH (since_alloc (since_two S0.out q) (.cells #[.int .i64 n, .int .i64 pos, .bool there, .slice A1 m1 k1, .slice A2 m2 k2] 112))
 have P1 := qH (hP.below ((Below.refl _ w1).alloc (Nat.le_refl _) (.cells #[.int .i64 n, .int .i64 pos, .bool there, .slice A1 m1 k1, .slice A2 m2 k2] 112)))
 clear A0 S0 OP q hP
 by_cases he : e = 0
 ·subst he
  have y0 : (w1.alloc (.cells #[.int .i64 n, .int .i64 pos, .bool there, .slice A1 m1 k1, .slice A2 m2 k2] 112)).cell? ⟨w1.heap.size, 0, none⟩ = some (.int .i64 n) := B1.out.c 0 rfl
  have y1 : (w1.alloc (.cells #[.int .i64 n, .int .i64 pos, .bool there, .slice A1 m1 k1, .slice A2 m2 k2] 112)).cell? ⟨w1.heap.size, 1, none⟩ = some (.int .i64 pos) := B1.out.c 1 rfl
  have y2 : (w1.alloc (.cells #[.int .i64 n, .int .i64 pos, .bool there, .slice A1 m1 k1, .slice A2 m2 k2] 112)).cell? ⟨w1.heap.size, 2, none⟩ = some (.bool there) := B1.out.c 2 rfl
  have y3 : (w1.alloc (.cells #[.int .i64 n, .int .i64 pos, .bool there, .slice A1 m1 k1, .slice A2 m2 k2] 112)).cell? ⟨w1.heap.size, 3, none⟩ = some (.slice A1 m1 k1) := B1.out.c 3 rfl
  have y4 : (w1.alloc (.cells #[.int .i64 n, .int .i64 pos, .bool there, .slice A1 m1 k1, .slice A2 m2 k2] 112)).cell? ⟨w1.heap.size, 4, none⟩ = some (.slice A2 m2 k2) := B1.out.c 4 rfl
  go_wp2_with fail
  refine (TL.out _ _ _ _ _ _ _ _ _ _ S1.out P1.out).mono ?_
  rintro en w2 ⟨rfl, q⟩
  have S2 := qH (since_two S1.out q)
  clear TL S1 P1 B1 q y0 y1 y2 y3 y4
  cases b with
  | true =>
   have hr := HR.out
   rw [if_neg (by simp), if_pos rfl] at hr
   subst hr
   clear HR
   go_wp2
   go_ret
   exact ⟨rfl, S2.out⟩
  | false =>
   have hr := HR.out
   rw [if_neg (by simp), if_neg (by simp)] at hr
   subst hr
   clear HR
   go_wp2
   go_ret
   exact ⟨rfl, S2.out⟩
 ·have heb : (e != 0) = true := by rw [bne_iff_ne]; exact he
  have hr := HR.out
  rw [if_pos he] at hr
  subst hr
  clear HR he TL B1 P1
  go_wp2
  go_ret
  exact ⟨rfl, S1.out⟩
theorem cup_e1N (id raw : ByteArray) (c1 c2 : ByteArray) (c3 : Int) (c4 : Bool) (e : Int) (he : e ≠ 0) (w : World)
  (A : Hid (∀ W, Since w W → Calls qP 48 #[.pointer none, .string id] W fun en w' => en = .returned (.tuple #[.agg #[.string c1, .string c2, .int .i64 c3, .bool c4], .int .i64 e]) ∧ Since W w')) :
  Calls qP 16 #[.pointer none, .string id, .string raw] w fun en w' => en = .returned (.int .i64 e) ∧ Since w w' := by
 have hb : (e != 0) = true := by rw [bne_iff_ne]; exact he
 clear he
 go_enter Tryz.func16, Tryz.ntmps16
 go_wp2_with fail
 refine (A.out _ (Since.refl w)).mono ?_
 rintro en w1 ⟨rfl, q⟩
 have C1 := qH (Blk.new w1 41 #[.string c1, .string c2, .int .i64 c3, .bool c4])
 have S1 := qH (since_alloc q (.cells #[.string c1, .string c2, .int .i64 c3, .bool c4] 41))
 clear A q
 go_wp2
 go_ret
 exact ⟨rfl, S1.out⟩
theorem seeNil14 (id : ByteArray) (h : Int) (w : World) : Calls qP 21 #[.pointer none, .string id, .int .i64 h] w fun e w' => e = .returned (retNE (Sn.zero, 2)) ∧ Since w w' :=
 see_errN id h ⟨#[]⟩ ⟨#[]⟩ 0 false 2 w (by decide) (qH fun W _ => getNil14 id W)
theorem actNil14 (id : ByteArray) (w : World) : Calls qP 48 #[.pointer none, .string id] w fun e w' => e = .returned (retCE (Clt.zero, 2)) ∧ Since w w' :=
 act_thisN id ⟨#[]⟩ ⟨#[]⟩ 0 false 2 w (qH fun W _ => getNil14 id W)
theorem updNil14 (id raw : ByteArray) (w : World) : Calls qP 16 #[.pointer none, .string id, .string raw] w fun e w' => e = .returned (.int .i64 2) ∧ Since w w' :=
 cup_e1N id raw ⟨#[]⟩ ⟨#[]⟩ 0 false 2 (by decide) w (qH fun W _ => actNil14 id W)
theorem evidNil14 (id : ByteArray) (h : Int) (pr : ByteArray) (w : World) : Calls qP 54 #[.pointer none, .string id, .agg #[.int .i64 h, .string pr]] w fun e w' => e = .returned (.tuple #[.string ⟨#[]⟩, .agg #[.int .i64 0, .int .i64 0, .bool false, .slice none 0 0, .slice none 0 0], .int .i64 2]) ∧ Since w w' :=
 evid_e1N id pr h ⟨#[]⟩ ⟨#[]⟩ 0 false 2 w (by decide) (qH fun W _ => actNil14 id W)
theorem hasNil14 (id : ByteArray) (h : Int) (pr p1 p2 : ByteArray) (w : World) (hr : Roots w) : Calls qP 18 #[.pointer none, .string id, .agg #[.int .i64 h, .string pr], .agg #[.string p1, .string p2]] w fun e w' => e = .returned (.int .i64 2) ∧ Since w w' :=
 has_thisN id pr ⟨#[]⟩ h p1 p2 Pf.zero 2 (hasP [] (p1, p2) Pf.zero) w (qH fun W _ => (evidNil14 id h pr W).mono fun _ _ ⟨he, hs⟩ => ⟨_, _, _, _, _, _, _, _, _, he, Prf.zero _, hs⟩) (qH fun W n pos there A1 m1 k1 A2 m2 k2 hW hp => hasC [] (p1, p2) _ _ W hp (hr.since hW) (by decide) (fun q hq => by cases hq))
theorem lacksNil14 (id : ByteArray) (h : Int) (pr p1 : ByteArray) (w : World) (hr : Roots w) : Calls qP 20 #[.pointer none, .string id, .agg #[.int .i64 h, .string pr], .string p1] w fun e w' => e = .returned (.int .i64 2) ∧ Since w w' :=
 lacks_thisN id pr ⟨#[]⟩ h p1 Pf.zero 2 (lacksP [] p1 Pf.zero) w (qH fun W _ => (evidNil14 id h pr W).mono fun _ _ ⟨he, hs⟩ => ⟨_, _, _, _, _, _, _, _, _, he, Prf.zero _, hs⟩) (qH fun W n pos there A1 m1 k1 A2 m2 k2 hW hp => lacksC [] p1 _ _ W hp (hr.since hW) (by decide) (fun q hq => by cases hq))
theorem none_this (id raw : ByteArray) (w : World)
  (NW : Hid (∀ W, Since w W → Calls qP 23 #[.pointer none, .string id, .string raw] W fun e w' => e = .returned (.tuple #[.string ⟨#[]⟩, .int .i64 2]) ∧ Since W w'))
  (GT : Hid (∀ W, Since w W → Calls qP 11 #[.pointer none, .string id] W fun e w' => e = .returned (.tuple #[.agg #[.string ⟨#[]⟩, .string ⟨#[]⟩, .int .i64 0, .bool false], .int .i64 2]) ∧ Since W w'))
  (SE : Hid (∀ W, Since w W → Calls qP 21 #[.pointer none, .string id, .int .i64 1] W fun e w' => e = .returned (.tuple #[.agg #[.int .i64 0, .string ⟨#[]⟩], .int .i64 2]) ∧ Since W w'))
  (UP : Hid (∀ W, Since w W → Calls qP 16 #[.pointer none, .string id, .string raw] W fun e w' => e = .returned (.int .i64 2) ∧ Since W w'))
  (HS : Hid (∀ W, Since w W → Calls qP 18 #[.pointer none, .string id, .agg #[.int .i64 1, .string raw], .agg #[.string id, .string ⟨#[]⟩]] W fun e w' => e = .returned (.int .i64 2) ∧ Since W w'))
  (LK : Hid (∀ W, Since w W → Calls qP 20 #[.pointer none, .string id, .agg #[.int .i64 1, .string raw], .string id] W fun e w' => e = .returned (.int .i64 2) ∧ Since W w'))
  (AW : Hid (∀ W, Since w W → Calls qP 7 #[] W fun e w' => e = .returned (.bool true) ∧ Since W w')) :
  Calls qP 5 #[.string id, .string raw] w fun e w' => e = .returned (.bool true) ∧ Since w w' := by
 go_enter Tryz.func5, Tryz.ntmps5
 go_wp2_with fail
 refine (NW.out _ (Since.refl w)).mono ?_
 rintro e w1 ⟨rfl, q⟩
 have S1 := qH q
 clear NW q
 go_wp2_with fail
 refine (GT.out _ S1.out).mono ?_
 rintro e w2 ⟨rfl, q⟩
 have S2 := qH (since_alloc (since_two S1.out q) (.cells #[.string ⟨#[]⟩, .string ⟨#[]⟩, .int .i64 0, .bool false] 41))
 clear GT S1 q
 go_wp2_with fail
 refine (SE.out _ S2.out).mono ?_
 rintro e w3 ⟨rfl, q⟩
 have z3 : (w3.alloc (.cells #[.int .i64 0, .string ⟨#[]⟩] 62)).heap.size = w3.heap.size + 1 := by simp
 have A := Blk.new (w3.alloc (.cells #[.int .i64 0, .string ⟨#[]⟩] 62)) 58 #[.int .i64 1, .string raw]
 rw [z3] at A
 have A3 := qH A
 have S3 := qH (since_alloc (since_alloc (since_two S2.out q) (.cells #[.int .i64 0, .string ⟨#[]⟩] 62)) (.cells #[.int .i64 1, .string raw] 58))
 clear SE S2 q z3 A
 go_wp2_with fail
 refine (UP.out _ S3.out).mono ?_
 rintro e w4 ⟨rfl, q⟩
 have A4 := qH (A3.out.next q.below)
 have S4 := qH (since_two S3.out q)
 clear UP A3 S3 q
 have a0 := A4.out.c 0 (v := .int .i64 1) rfl
 have a1 := A4.out.c 1 (v := .string raw) rfl
 go_wp2_with fail
 clear a0 a1
 refine (HS.out _ S4.out).mono ?_
 rintro e w5 ⟨rfl, q⟩
 have A5 := qH (A4.out.next q.below)
 have S5 := qH (since_two S4.out q)
 clear HS A4 S4 q
 have a0 := A5.out.c 0 (v := .int .i64 1) rfl
 have a1 := A5.out.c 1 (v := .string raw) rfl
 go_wp2_with fail
 clear a0 a1
 refine (LK.out _ S5.out).mono ?_
 rintro e w6 ⟨rfl, q⟩
 have S6 := qH (since_two S5.out q)
 clear LK A5 S5 q
 go_wp2_with fail
 refine (AW.out _ S6.out).mono ?_
 rintro e w7 ⟨rfl, q⟩
 have S7 := qH (since_two S6.out q)
 clear AW S6 q
 go_wp2
 go_ret
 exact ⟨rfl, S7.out⟩
end Go.Proofs.YtkejaepmoabikaaGreatDoor.W
