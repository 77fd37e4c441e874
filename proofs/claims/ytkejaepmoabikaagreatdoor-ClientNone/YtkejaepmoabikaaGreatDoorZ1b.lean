import Derived.Test.YtkejaepmoabikaaGreatDoorZ1a
import Derived.Test.YtkejaepmoabikaaGreatDoorZ0b
import Derived.Test.YtkejaepmoabikaaGreatDoorZ0f
import Derived.Test.YtkejaepmoabikaaGreatDoorZXRead
import Derived.Test.YtkejaepmoabikaaGreatDoorZ0d
namespace Go.Proofs.YtkejaepmoabikaaGreatDoor.W
open Go.RowKit
open Lib renaming hid → qH
open _root_.Go.Proofs.Tryz renaming prog → qP
set_option maxHeartbeats 4000000
set_option maxRecDepth 100000
theorem str_neq {x y : ByteArray} (h : x ≠ y) : (x.toList == y.toList) = false := by
 rw [beq_eq_false_iff_ne]
 exact fun e => h ((str_iff x y).mp e)
theorem rHdr14_frozen (c k raw : ByteArray) (ht : Int) (w : World) :
  Calls qP 77 #[.agg #[.string c, .string k, .int .i64 ht, .bool true], .string raw] w fun en w' => en = .returned (retHE (Hdr.zero, 12)) ∧ Since w w' := by
 have z0 : (w.alloc (.cells #[.string c, .string k, .int .i64 ht, .bool true] 41)).heap.size = w.heap.size + 1 := by simp
 have C0 := qH ((Blk.new w 41 #[.string c, .string k, .int .i64 ht, .bool true]).alloc (.cells #[.string ⟨#[]⟩, .int .i64 0, .int .i64 0, .string ⟨#[]⟩, .string ⟨#[]⟩] 34))
 have O := Blk.new (w.alloc (.cells #[.string c, .string k, .int .i64 ht, .bool true] 41)) 34 #[.string ⟨#[]⟩, .int .i64 0, .int .i64 0, .string ⟨#[]⟩, .string ⟨#[]⟩]
 rw [z0] at O
 have O0 := qH O
 have S0 := qH (since_alloc (since_alloc (Since.refl w) (.cells #[.string c, .string k, .int .i64 ht, .bool true] 41)) (.cells #[.string ⟨#[]⟩, .int .i64 0, .int .i64 0, .string ⟨#[]⟩, .string ⟨#[]⟩] 34))
 clear z0 O
 have x3 : ((w.alloc (.cells #[.string c, .string k, .int .i64 ht, .bool true] 41)).alloc (.cells #[.string ⟨#[]⟩, .int .i64 0, .int .i64 0, .string ⟨#[]⟩, .string ⟨#[]⟩] 34)).cell? ⟨w.heap.size, 3, none⟩ = some (.bool true) := C0.out.c 3 rfl
 have D := qH (And.intro O0.out S0.out)
 clear C0 O0 S0
 go_enter Tryz.func77, Tryz.ntmps77
 go_wp2
 have D1 := D.out.1
 refine bodyPost_ret (v := retHE (Hdr.zero, 12)) (by simp [results, Tryz.results77, go_sem, retHE, hdV, Hdr.zero, D1.c 0 rfl, D1.c 1 rfl, D1.c 2 rfl, D1.c 3 rfl, D1.c 4 rfl]) rfl ?_
 exact ⟨rfl, D.out.2⟩
theorem rHdr14_this (c k raw : ByteArray) (ht : Int) (h1 : ByteArray) (h2 h3 : Int) (h4 h5 : ByteArray) (e : Int) (g : Bool) (w : World)
  (P1 : Hid (∀ W, Since w W → Calls qP 127 #[.string raw] W fun en w' => en = .returned (.tuple #[.agg #[.string h1, .int .i64 h2, .int .i64 h3, .string h4, .string h5], .int .i64 e]) ∧ Since W w'))
  (P2 : Hid (∀ W, Since w W → Calls qP 128 #[.string k, .agg #[.string h1, .int .i64 h2, .int .i64 h3, .string h4, .string h5]] W fun en w' => en = .returned (.bool g) ∧ Since W w')) :
  Calls qP 77 #[.agg #[.string c, .string k, .int .i64 ht, .bool false], .string raw] w fun en w' => en = .returned (retHE (if e ≠ 0 then (Hdr.zero, e) else if h1 ≠ c ∨ g = false then (Hdr.zero, 24) else if h2 < 1 ∨ 1099511627776 < h2 then (Hdr.zero, 13) else (⟨h1, h2, h3, h4, h5⟩, 0))) ∧ Since w w' := by
 obtain ⟨ans, hr⟩ : ∃ x : Hdr × Int, x = (if e ≠ 0 then (Hdr.zero, e) else if h1 ≠ c ∨ g = false then (Hdr.zero, 24) else if h2 < 1 ∨ 1099511627776 < h2 then (Hdr.zero, 13) else (⟨h1, h2, h3, h4, h5⟩, 0)) := ⟨_, rfl⟩
 rw [← hr]
 have HR := qH hr
 clear hr
 have z0 : (w.alloc (.cells #[.string c, .string k, .int .i64 ht, .bool false] 41)).heap.size = w.heap.size + 1 := by simp
 have C0 := qH ((Blk.new w 41 #[.string c, .string k, .int .i64 ht, .bool false]).alloc (.cells #[.string ⟨#[]⟩, .int .i64 0, .int .i64 0, .string ⟨#[]⟩, .string ⟨#[]⟩] 34))
 have O := Blk.new (w.alloc (.cells #[.string c, .string k, .int .i64 ht, .bool false] 41)) 34 #[.string ⟨#[]⟩, .int .i64 0, .int .i64 0, .string ⟨#[]⟩, .string ⟨#[]⟩]
 rw [z0] at O
 have O0 := qH O
 have S0 := qH (since_alloc (since_alloc (Since.refl w) (.cells #[.string c, .string k, .int .i64 ht, .bool false] 41)) (.cells #[.string ⟨#[]⟩, .int .i64 0, .int .i64 0, .string ⟨#[]⟩, .string ⟨#[]⟩] 34))
 clear z0 O
 have x3 : ((w.alloc (.cells #[.string c, .string k, .int .i64 ht, .bool false] 41)).alloc (.cells #[.string ⟨#[]⟩, .int .i64 0, .int .i64 0, .string ⟨#[]⟩, .string ⟨#[]⟩] 34)).cell? ⟨w.heap.size, 3, none⟩ = some (.bool false) := C0.out.c 3 rfl
 go_enter Tryz.func77, Tryz.ntmps77
 go_wp2_with fail
 clear x3
 refine (P1.out _ S0.out).mono ?_
 rintro en w1 ⟨rfl, q⟩
 have C1 := qH ((C0.out.next q.below).alloc (.cells #[.string h1, .int .i64 h2, .int .i64 h3, .string h4, .string h5] 34))
 have O1 := qH ((O0.out.next q.below).alloc (.cells #[.string h1, .int .i64 h2, .int .i64 h3, .string h4, .string h5] 34))
 have S1 := qH (since_alloc (since_two S0.out q) (.cells #[.string h1, .int .i64 h2, .int .i64 h3, .string h4, .string h5] 34))
 have X1 := qH (Blk.new w1 34 #[.string h1, .int .i64 h2, .int .i64 h3, .string h4, .string h5])
 clear C0 O0 S0 P1 q
 by_cases he : e = 0
 ·subst he
  have y0 : (w1.alloc (.cells #[.string h1, .int .i64 h2, .int .i64 h3, .string h4, .string h5] 34)).cell? ⟨w.heap.size, 0, none⟩ = some (.string c) := C1.out.c 0 rfl
  have y1 : (w1.alloc (.cells #[.string h1, .int .i64 h2, .int .i64 h3, .string h4, .string h5] 34)).cell? ⟨w.heap.size, 1, none⟩ = some (.string k) := C1.out.c 1 rfl
  have x0 : (w1.alloc (.cells #[.string h1, .int .i64 h2, .int .i64 h3, .string h4, .string h5] 34)).cell? ⟨w1.heap.size, 0, none⟩ = some (.string h1) := X1.out.c 0 rfl
  have x1 : (w1.alloc (.cells #[.string h1, .int .i64 h2, .int .i64 h3, .string h4, .string h5] 34)).cell? ⟨w1.heap.size, 1, none⟩ = some (.int .i64 h2) := X1.out.c 1 rfl
  have x2 : (w1.alloc (.cells #[.string h1, .int .i64 h2, .int .i64 h3, .string h4, .string h5] 34)).cell? ⟨w1.heap.size, 2, none⟩ = some (.int .i64 h3) := X1.out.c 2 rfl
  have x3 : (w1.alloc (.cells #[.string h1, .int .i64 h2, .int .i64 h3, .string h4, .string h5] 34)).cell? ⟨w1.heap.size, 3, none⟩ = some (.string h4) := X1.out.c 3 rfl
  have x4 : (w1.alloc (.cells #[.string h1, .int .i64 h2, .int .i64 h3, .string h4, .string h5] 34)).cell? ⟨w1.heap.size, 4, none⟩ = some (.string h5) := X1.out.c 4 rfl
  by_cases hc : h1 = c
  ·subst hc
   go_wp2_with fail
   refine (P2.out _ S1.out).mono ?_
   rintro en w2 ⟨rfl, q⟩
   have O2 := qH (O1.out.next q.below)
   have X2 := qH (X1.out.next q.below)
   have S2 := qH (since_two S1.out q)
   clear P2 q C1 O1 X1 S1 x0 x1 x2 x3 x4 y0 y1
   have d0 : w2.cell? ⟨w.heap.size + 1, 0, none⟩ = some (.string ⟨#[]⟩) := O2.out.c 0 rfl
   have d1 : w2.cell? ⟨w.heap.size + 1, 1, none⟩ = some (.int .i64 0) := O2.out.c 1 rfl
   have d2 : w2.cell? ⟨w.heap.size + 1, 2, none⟩ = some (.int .i64 0) := O2.out.c 2 rfl
   have d3 : w2.cell? ⟨w.heap.size + 1, 3, none⟩ = some (.string ⟨#[]⟩) := O2.out.c 3 rfl
   have d4 : w2.cell? ⟨w.heap.size + 1, 4, none⟩ = some (.string ⟨#[]⟩) := O2.out.c 4 rfl
   have f0 := O2.out.frozen 0
   have f1 := O2.out.frozen 1
   have f2 := O2.out.frozen 2
   have f3 := O2.out.frozen 3
   have f4 := O2.out.frozen 4
   have x0 : w2.cell? ⟨w1.heap.size, 0, none⟩ = some (.string h1) := X2.out.c 0 rfl
   have x1 : w2.cell? ⟨w1.heap.size, 1, none⟩ = some (.int .i64 h2) := X2.out.c 1 rfl
   have x2 : w2.cell? ⟨w1.heap.size, 2, none⟩ = some (.int .i64 h3) := X2.out.c 2 rfl
   have x3 : w2.cell? ⟨w1.heap.size, 3, none⟩ = some (.string h4) := X2.out.c 3 rfl
   have x4 : w2.cell? ⟨w1.heap.size, 4, none⟩ = some (.string h5) := X2.out.c 4 rfl
   have DY := qH (And.intro (put5 O2.out (.string h1) (.int .i64 h2) (.int .i64 h3) (.string h4) (.string h5)) (since_put5 (b := w.heap.size + 1) S2.out (by omega) (.string h1) (.int .i64 h2) (.int .i64 h3) (.string h4) (.string h5)))
   have D := qH (And.intro (put5 O2.out (.string ⟨#[]⟩) (.int .i64 0) (.int .i64 0) (.string ⟨#[]⟩) (.string ⟨#[]⟩)) (since_put5 (b := w.heap.size + 1) S2.out (by omega) (.string ⟨#[]⟩) (.int .i64 0) (.int .i64 0) (.string ⟨#[]⟩) (.string ⟨#[]⟩)))
   clear O2 X2 S2
   cases g with
   | false =>
    have hr := HR.out
    rw [if_neg (by simp), if_pos (.inr rfl)] at hr
    subst hr
    clear HR
    go_wp2
    have D1 := D.out.1
    refine bodyPost_ret (v := retHE (Hdr.zero, 24)) (by simp [results, Tryz.results77, go_sem, retHE, hdV, Hdr.zero, D1.c 0 rfl, D1.c 1 rfl, D1.c 2 rfl, D1.c 3 rfl, D1.c 4 rfl]) rfl ?_
    exact ⟨rfl, D.out.2⟩
   | true =>
    by_cases hh : h2 < 1 ∨ 1099511627776 < h2
    ·have hr := HR.out
     rw [if_neg (by simp), if_neg (by simp), if_pos hh] at hr
     subst hr
     clear HR
     have hh' : h2 < 1 ∨ (¬ h2 < 1 ∧ 1099511627776 < h2) := by omega
     clear hh
     rcases hh' with hh' | ⟨hh', hh2⟩
     all_goals go_wp2
     all_goals have D1 := D.out.1
     all_goals refine bodyPost_ret (v := retHE (Hdr.zero, 13)) (by simp [results, Tryz.results77, go_sem, retHE, hdV, Hdr.zero, D1.c 0 rfl, D1.c 1 rfl, D1.c 2 rfl, D1.c 3 rfl, D1.c 4 rfl]) rfl ?_
     all_goals exact ⟨rfl, D.out.2⟩
    ·have hr := HR.out
     rw [if_neg (by simp), if_neg (by simp), if_neg hh] at hr
     subst hr
     clear HR
     have hh1 : ¬ h2 < 1 := fun x => hh (.inl x)
     have hh2 : ¬ 1099511627776 < h2 := fun x => hh (.inr x)
     clear hh D
     go_wp2
     have D := DY
     have D1 := D.out.1
     refine bodyPost_ret (v := retHE (⟨h1, h2, h3, h4, h5⟩, 0)) (by simp [results, Tryz.results77, go_sem, retHE, hdV, D1.c 0 rfl, D1.c 1 rfl, D1.c 2 rfl, D1.c 3 rfl, D1.c 4 rfl]) rfl ?_
     exact ⟨rfl, D.out.2⟩
  ·have hcb := str_neq hc
   have hr := HR.out
   rw [if_neg (by simp), if_pos (.inl hc)] at hr
   subst hr
   clear HR
   have d0 : (w1.alloc (.cells #[.string h1, .int .i64 h2, .int .i64 h3, .string h4, .string h5] 34)).cell? ⟨w.heap.size + 1, 0, none⟩ = some (.string ⟨#[]⟩) := O1.out.c 0 rfl
   have d1 : (w1.alloc (.cells #[.string h1, .int .i64 h2, .int .i64 h3, .string h4, .string h5] 34)).cell? ⟨w.heap.size + 1, 1, none⟩ = some (.int .i64 0) := O1.out.c 1 rfl
   have d2 : (w1.alloc (.cells #[.string h1, .int .i64 h2, .int .i64 h3, .string h4, .string h5] 34)).cell? ⟨w.heap.size + 1, 2, none⟩ = some (.int .i64 0) := O1.out.c 2 rfl
   have d3 : (w1.alloc (.cells #[.string h1, .int .i64 h2, .int .i64 h3, .string h4, .string h5] 34)).cell? ⟨w.heap.size + 1, 3, none⟩ = some (.string ⟨#[]⟩) := O1.out.c 3 rfl
   have d4 : (w1.alloc (.cells #[.string h1, .int .i64 h2, .int .i64 h3, .string h4, .string h5] 34)).cell? ⟨w.heap.size + 1, 4, none⟩ = some (.string ⟨#[]⟩) := O1.out.c 4 rfl
   have f0 := O1.out.frozen 0
   have f1 := O1.out.frozen 1
   have f2 := O1.out.frozen 2
   have f3 := O1.out.frozen 3
   have f4 := O1.out.frozen 4
   have D := qH (And.intro (put5 O1.out (.string ⟨#[]⟩) (.int .i64 0) (.int .i64 0) (.string ⟨#[]⟩) (.string ⟨#[]⟩)) (since_put5 (b := w.heap.size + 1) S1.out (by omega) (.string ⟨#[]⟩) (.int .i64 0) (.int .i64 0) (.string ⟨#[]⟩) (.string ⟨#[]⟩)))
   clear hc P2 C1 O1 X1 S1
   go_wp2
   have D1 := D.out.1
   refine bodyPost_ret (v := retHE (Hdr.zero, 24)) (by simp [results, Tryz.results77, go_sem, retHE, hdV, Hdr.zero, D1.c 0 rfl, D1.c 1 rfl, D1.c 2 rfl, D1.c 3 rfl, D1.c 4 rfl]) rfl ?_
   exact ⟨rfl, D.out.2⟩
 ·have heb : (e != 0) = true := by rw [bne_iff_ne]; exact he
  have hr := HR.out
  rw [if_pos he] at hr
  subst hr
  clear HR
  have d0 : (w1.alloc (.cells #[.string h1, .int .i64 h2, .int .i64 h3, .string h4, .string h5] 34)).cell? ⟨w.heap.size + 1, 0, none⟩ = some (.string ⟨#[]⟩) := O1.out.c 0 rfl
  have d1 : (w1.alloc (.cells #[.string h1, .int .i64 h2, .int .i64 h3, .string h4, .string h5] 34)).cell? ⟨w.heap.size + 1, 1, none⟩ = some (.int .i64 0) := O1.out.c 1 rfl
  have d2 : (w1.alloc (.cells #[.string h1, .int .i64 h2, .int .i64 h3, .string h4, .string h5] 34)).cell? ⟨w.heap.size + 1, 2, none⟩ = some (.int .i64 0) := O1.out.c 2 rfl
  have d3 : (w1.alloc (.cells #[.string h1, .int .i64 h2, .int .i64 h3, .string h4, .string h5] 34)).cell? ⟨w.heap.size + 1, 3, none⟩ = some (.string ⟨#[]⟩) := O1.out.c 3 rfl
  have d4 : (w1.alloc (.cells #[.string h1, .int .i64 h2, .int .i64 h3, .string h4, .string h5] 34)).cell? ⟨w.heap.size + 1, 4, none⟩ = some (.string ⟨#[]⟩) := O1.out.c 4 rfl
  have f0 := O1.out.frozen 0
  have f1 := O1.out.frozen 1
  have f2 := O1.out.frozen 2
  have f3 := O1.out.frozen 3
  have f4 := O1.out.frozen 4
  have D := qH (And.intro (put5 O1.out (.string ⟨#[]⟩) (.int .i64 0) (.int .i64 0) (.string ⟨#[]⟩) (.string ⟨#[]⟩)) (since_put5 (b := w.heap.size + 1) S1.out (by omega) (.string ⟨#[]⟩) (.int .i64 0) (.int .i64 0) (.string ⟨#[]⟩) (.string ⟨#[]⟩)))
  clear he P2 C1 O1 X1 S1
  go_wp2
  have D1 := D.out.1
  refine bodyPost_ret (v := retHE (Hdr.zero, e)) (by simp [results, Tryz.results77, go_sem, retHE, hdV, Hdr.zero, D1.c 0 rfl, D1.c 1 rfl, D1.c 2 rfl, D1.c 3 rfl, D1.c 4 rfl]) rfl ?_
  exact ⟨rfl, D.out.2⟩
theorem rHdr14C (c : Clt) (raw : ByteArray) (w : World) (hr : raw.size ≤ 9223372036854775807) (hk : c.key.size ≤ 1099511627776) :
  Calls qP 77 #[cltV c, .string raw] w fun en w' => en = .returned (retHE (cHead c raw)) ∧ Since w w' := by
 obtain ⟨ch, k, ht, f⟩ := c
 unfold cHead
 cases f with
 | true => exact rHdr14_frozen ch k raw ht w
 | false =>
  rw [if_neg (by simp)]
  exact rHdr14_this ch k raw ht (rdHd raw).1.chain (rdHd raw).1.height (rdHd raw).1.time (rdHd raw).1.root (rdHd raw).1.mac _ _ w (qH fun W _ => rHRead raw W hr) (qH fun W _ => rGood k (rdHd raw).1 W hk)
structure HrAt (w : World) (s : ByteArray) (e : Int) (W : World) : Prop where
 o : Blk W w.heap.size 34 #[.string ⟨#[]⟩, .int .i64 0, .int .i64 0, .string ⟨#[]⟩, .string ⟨#[]⟩]
 q : RdAt W (w.heap.size + 1) s e
 s : Since w W
section
variable {w W W' : World} {s s' : ByteArray} {e e' : Int}
theorem hr_start (w : World) (s : ByteArray) : HrAt w s 0 ((w.alloc (.cells #[.string ⟨#[]⟩, .int .i64 0, .int .i64 0, .string ⟨#[]⟩, .string ⟨#[]⟩] 34)).alloc (.cells #[.string s, .int .i64 0] 149)) := by
 have h1 := Blk.new w 34 #[.string ⟨#[]⟩, .int .i64 0, .int .i64 0, .string ⟨#[]⟩, .string ⟨#[]⟩]
 have b1 : Below w.heap.size w (w.alloc (.cells #[.string ⟨#[]⟩, .int .i64 0, .int .i64 0, .string ⟨#[]⟩, .string ⟨#[]⟩] 34)) := (Below.refl _ w).alloc (Nat.le_refl _) _
 have e1 : (w.alloc (.cells #[.string ⟨#[]⟩, .int .i64 0, .int .i64 0, .string ⟨#[]⟩, .string ⟨#[]⟩] 34)).heap.size = w.heap.size + 1 := by simp
 generalize w.alloc (.cells #[.string ⟨#[]⟩, .int .i64 0, .int .i64 0, .string ⟨#[]⟩, .string ⟨#[]⟩] 34) = W1 at *
 have h2 := Blk.new W1 149 #[.string s, .int .i64 0]
 rw [e1] at h2
 exact ⟨h1.alloc _, h2, since_of (b1.alloc b1.size _)⟩
theorem HrAt.step (h : HrAt w s e W) {v : Value} {en : Ending} (k : RdPost W (w.heap.size + 1) v s' e' en W') : HrAt w s' e' W' :=
 ⟨h.o.grown k.2.2 (by intro x; injection x with x; omega), k.2.1, since_of (step_only h.s.below k.2.2 (by omega))⟩
theorem HrAt.alloc (h : HrAt w s e W) (ob : Obj) : HrAt w s e (W.alloc ob) := ⟨h.o.alloc _, h.q.alloc _, since_of (h.s.below.alloc h.s.below.size _)⟩
theorem hr_done (h : HrAt w s e W) (v0 v1 v2 v3 v4 : Value) :
  Blk (((((W.setCell ⟨w.heap.size, 0, none⟩ v0).setCell ⟨w.heap.size, 1, none⟩ v1).setCell ⟨w.heap.size, 2, none⟩ v2).setCell ⟨w.heap.size, 3, none⟩ v3).setCell ⟨w.heap.size, 4, none⟩ v4) w.heap.size 34 #[v0, v1, v2, v3, v4] ∧
  Since w (((((W.setCell ⟨w.heap.size, 0, none⟩ v0).setCell ⟨w.heap.size, 1, none⟩ v1).setCell ⟨w.heap.size, 2, none⟩ v2).setCell ⟨w.heap.size, 3, none⟩ v3).setCell ⟨w.heap.size, 4, none⟩ v4) :=
 ⟨put5 h.o v0 v1 v2 v3 v4, since_put5 h.s (Nat.le_refl _) v0 v1 v2 v3 v4⟩
theorem HrAt.d0 (h : HrAt w s e W) : W.cell? ⟨w.heap.size, 0, none⟩ = some (.string ⟨#[]⟩) := h.o.c 0 rfl
theorem HrAt.d1 (h : HrAt w s e W) : W.cell? ⟨w.heap.size, 1, none⟩ = some (.int .i64 0) := h.o.c 1 rfl
theorem HrAt.d2 (h : HrAt w s e W) : W.cell? ⟨w.heap.size, 2, none⟩ = some (.int .i64 0) := h.o.c 2 rfl
theorem HrAt.d3 (h : HrAt w s e W) : W.cell? ⟨w.heap.size, 3, none⟩ = some (.string ⟨#[]⟩) := h.o.c 3 rfl
theorem HrAt.d4 (h : HrAt w s e W) : W.cell? ⟨w.heap.size, 4, none⟩ = some (.string ⟨#[]⟩) := h.o.c 4 rfl
end
theorem hRead_this (s s1 s2 s3 s4 s5 : ByteArray) (e1 e2 e3 e4 e5 : Int) (c : ByteArray) (a b : Nat) (r m : ByteArray) (d : Int) (w : World)
  (N1 : Hid (∀ W, RdAt W (w.heap.size + 1) s 0 → Calls qP 36 #[.pointer (some ⟨w.heap.size + 1, 0, none⟩)] W (RdPost W (w.heap.size + 1) (.string c) s1 e1)))
  (N2 : Hid (∀ W, RdAt W (w.heap.size + 1) s1 e1 → Calls qP 37 #[.pointer (some ⟨w.heap.size + 1, 0, none⟩)] W (RdPost W (w.heap.size + 1) (.int .i64 a) s2 e2)))
  (N3 : Hid (∀ W, RdAt W (w.heap.size + 1) s2 e2 → Calls qP 37 #[.pointer (some ⟨w.heap.size + 1, 0, none⟩)] W (RdPost W (w.heap.size + 1) (.int .i64 b) s3 e3)))
  (N4 : Hid (∀ W, RdAt W (w.heap.size + 1) s3 e3 → Calls qP 36 #[.pointer (some ⟨w.heap.size + 1, 0, none⟩)] W (RdPost W (w.heap.size + 1) (.string r) s4 e4)))
  (N5 : Hid (∀ W, RdAt W (w.heap.size + 1) s4 e4 → Calls qP 36 #[.pointer (some ⟨w.heap.size + 1, 0, none⟩)] W (RdPost W (w.heap.size + 1) (.string m) s5 e5)))
  (N6 : Hid (∀ W, RdAt W (w.heap.size + 1) s5 e5 → Calls qP 38 #[.pointer (some ⟨w.heap.size + 1, 0, none⟩)] W fun en w' => en = .returned (.int .i64 d) ∧ W = w')) :
  Calls qP 94 #[.string s] w fun e w' => e = .returned (retHE (if d ≠ 0 then (Hdr.zero, d) else (⟨c, a, b, r, m⟩, 0))) ∧ Since w w' := by
 have H0 := qH (hr_start w s)
 have z0 : (w.alloc (.cells #[.string ⟨#[]⟩, .int .i64 0, .int .i64 0, .string ⟨#[]⟩, .string ⟨#[]⟩] 34)).heap.size = w.heap.size + 1 := by simp
 go_enter Tryz.func94, Tryz.ntmps94
 go_wp2_with fail
 refine (new s _).mono ?_
 rintro e w0 ⟨rfl, rfl⟩
 rw [z0]
 clear z0
 generalize ((w.alloc (.cells #[.string ⟨#[]⟩, .int .i64 0, .int .i64 0, .string ⟨#[]⟩, .string ⟨#[]⟩] 34)).alloc (.cells #[.string s, .int .i64 0] 149)) = W0 at *
 go_wp2_with fail
 refine (N1.out _ H0.out.q).mono ?_
 rintro e w1 q
 have H1 := qH (H0.out.step q)
 obtain ⟨rfl, -, -⟩ := q
 clear H0 N1
 go_wp2_with fail
 refine (N2.out _ H1.out.q).mono ?_
 rintro e w2 q
 have H2 := qH (H1.out.step q)
 obtain ⟨rfl, -, -⟩ := q
 clear H1 N2
 go_wp2_with fail
 refine (N3.out _ H2.out.q).mono ?_
 rintro e w3 q
 have H3 := qH (H2.out.step q)
 obtain ⟨rfl, -, -⟩ := q
 clear H2 N3
 go_wp2_with fail
 refine (N4.out _ H3.out.q).mono ?_
 rintro e w4 q
 have H4 := qH (H3.out.step q)
 obtain ⟨rfl, -, -⟩ := q
 clear H3 N4
 go_wp2_with fail
 refine (N5.out _ H4.out.q).mono ?_
 rintro e w5 q
 have H5 := qH (H4.out.step q)
 obtain ⟨rfl, -, -⟩ := q
 clear H4 N5
 go_wp2_with fail
 have B6 := qH (Blk.new w5 34 #[.string c, .int .i64 a, .int .i64 b, .string r, .string m])
 have H6 := qH (H5.out.alloc (.cells #[.string c, .int .i64 a, .int .i64 b, .string r, .string m] 34))
 clear H5
 refine (N6.out _ H6.out.q).mono ?_
 rintro e w6 ⟨rfl, rfl⟩
 clear N6
 have d0 := H6.out.d0
 have d1 := H6.out.d1
 have d2 := H6.out.d2
 have d3 := H6.out.d3
 have d4 := H6.out.d4
 have f0 := H6.out.o.frozen 0
 have f1 := H6.out.o.frozen 1
 have f2 := H6.out.o.frozen 2
 have f3 := H6.out.o.frozen 3
 have f4 := H6.out.o.frozen 4
 by_cases hf : d = 0
 ·subst hf
  have y0 : (w5.alloc (.cells #[.string c, .int .i64 a, .int .i64 b, .string r, .string m] 34)).cell? ⟨w5.heap.size, 0, none⟩ = some (.string c) := B6.out.c 0 rfl
  have y1 : (w5.alloc (.cells #[.string c, .int .i64 a, .int .i64 b, .string r, .string m] 34)).cell? ⟨w5.heap.size, 1, none⟩ = some (.int .i64 a) := B6.out.c 1 rfl
  have y2 : (w5.alloc (.cells #[.string c, .int .i64 a, .int .i64 b, .string r, .string m] 34)).cell? ⟨w5.heap.size, 2, none⟩ = some (.int .i64 b) := B6.out.c 2 rfl
  have y3 : (w5.alloc (.cells #[.string c, .int .i64 a, .int .i64 b, .string r, .string m] 34)).cell? ⟨w5.heap.size, 3, none⟩ = some (.string r) := B6.out.c 3 rfl
  have y4 : (w5.alloc (.cells #[.string c, .int .i64 a, .int .i64 b, .string r, .string m] 34)).cell? ⟨w5.heap.size, 4, none⟩ = some (.string m) := B6.out.c 4 rfl
  have D := qH (hr_done H6.out (.string c) (.int .i64 a) (.int .i64 b) (.string r) (.string m))
  generalize w5.alloc (.cells #[.string c, .int .i64 a, .int .i64 b, .string r, .string m] 34) = W6 at *
  go_wp2
  have D1 := D.out.1
  refine bodyPost_ret (v := retHE (⟨c, a, b, r, m⟩, 0)) (by simp [results, Tryz.results94, go_sem, retHE, hdV, D1.c 0 rfl, D1.c 1 rfl, D1.c 2 rfl, D1.c 3 rfl, D1.c 4 rfl]) rfl ?_
  exact ⟨rfl, D.out.2⟩
 ·have hen : (d != 0) = true := by rw [bne_iff_ne]; exact hf
  have D := qH (hr_done H6.out (.string ⟨#[]⟩) (.int .i64 0) (.int .i64 0) (.string ⟨#[]⟩) (.string ⟨#[]⟩))
  generalize w5.alloc (.cells #[.string c, .int .i64 a, .int .i64 b, .string r, .string m] 34) = W6 at *
  go_wp2
  have D1 := D.out.1
  refine bodyPost_ret (v := retHE (Hdr.zero, d)) (by simp [results, Tryz.results94, go_sem, retHE, hdV, Hdr.zero, D1.c 0 rfl, D1.c 1 rfl, D1.c 2 rfl, D1.c 3 rfl, D1.c 4 rfl]) rfl ?_
  exact ⟨rfl, D.out.2⟩
theorem hReadC (s : ByteArray) (w : World) (hs : s.size ≤ 9223372036854775807) :
  Calls qP 94 #[.string s] w fun e w' => e = .returned (retHE (rdHd s)) ∧ Since w w' := by
 have z1 := (stText_facts s 0).1
 have z2 := (stNum_facts (stText s 0).1.1 (stText s 0).1.2).2.1
 have z3 := (stNum_facts (stNum (stText s 0).1.1 (stText s 0).1.2).1.1 (stNum (stText s 0).1.1 (stText s 0).1.2).1.2).2.1
 have z4 := (stText_facts (stNum (stNum (stText s 0).1.1 (stText s 0).1.2).1.1 (stNum (stText s 0).1.1 (stText s 0).1.2).1.2).1.1 (stNum (stNum (stText s 0).1.1 (stText s 0).1.2).1.1 (stNum (stText s 0).1.1 (stText s 0).1.2).1.2).1.2).1
 have h := hRead_this s _ _ _ _ _ _ _ _ _ _ _ _ _ _ _ _ w (qH fun W hW => textAt _ s 0 W hW hs) (qH fun W hW => numAt _ _ _ W hW (by omega)) (qH fun W hW => numAt _ _ _ W hW (by omega)) (qH fun W hW => textAt _ _ _ W hW (by omega)) (qH fun W hW => textAt _ _ _ W hW (by omega)) (qH fun W hW => doneAt _ _ _ W hW)
 exact h
theorem hSign_this (key : ByteArray) (c : ByteArray) (a b : Int) (r m : ByteArray) (s : List UInt8) (f : Int) (q : List UInt8) (w : World)
  (K1 : Hid (∀ W, Calls qP 174 #[.agg #[.string c, .int .i64 a, .int .i64 b, .string r, .string m]] W fun e w' => e = .returned (.tuple #[.string (bs s), .int .i64 f]) ∧ Since W w'))
  (K2 : Hid (∀ W, Since w W → Calls qP 175 #[.string key, .string (bs s)] W fun e w' => e = .returned (.string (bs q)) ∧ Below W.heap.size W w')) :
  Calls qP 140 #[.string key, .agg #[.string c, .int .i64 a, .int .i64 b, .string r, .string m]] w fun e w' => e = .returned (retHE (if f ≠ 0 then (Hdr.zero, f) else (⟨c, a, b, r, bs q⟩, 0))) ∧ Since w w' := by
 have H0 := qH (sg_start w c a b r m)
 have y0 := H0.out.c0
 have y1 := H0.out.c1
 have y2 := H0.out.c2
 have y3 := H0.out.c3
 have y4 := H0.out.c4
 go_enter Tryz.func140, Tryz.ntmps140
 go_wp2_with fail
 clear y0 y1 y2 y3 y4
 generalize ((w.alloc (.cells #[.string c, .int .i64 a, .int .i64 b, .string r, .string m] 34)).alloc (.cells #[.string ⟨#[]⟩, .int .i64 0, .int .i64 0, .string ⟨#[]⟩, .string ⟨#[]⟩] 34)) = W0 at *
 refine (K1.out _).mono ?_
 rintro e w1 ⟨rfl, q1⟩
 have H1 := qH (H0.out.next q1.below)
 clear H0 K1 q1
 have d0 := H1.out.d0
 have d1 := H1.out.d1
 have d2 := H1.out.d2
 have d3 := H1.out.d3
 have d4 := H1.out.d4
 have f0 := H1.out.o.frozen 0
 have f1 := H1.out.o.frozen 1
 have f2 := H1.out.o.frozen 2
 have f3 := H1.out.o.frozen 3
 have f4 := H1.out.o.frozen 4
 by_cases hf : f = 0
 ·subst hf
  have y4 := H1.out.c4
  have z4 := H1.out.x.frozen 4
  go_wp2_with fail
  refine (K2.out _ H1.out.s).mono ?_
  rintro e w2 ⟨rfl, q2⟩
  have H2 := qH (H1.out.next q2)
  clear d0 d1 d2 d3 d4 f0 f1 f2 f3 f4 y4 z4 H1 K2 q2
  have y0 := H2.out.c0
  have y1 := H2.out.c1
  have y2 := H2.out.c2
  have y3 := H2.out.c3
  have y4 := H2.out.c4
  have z4 := H2.out.x.frozen 4
  have d0 := H2.out.d0
  have d1 := H2.out.d1
  have d2 := H2.out.d2
  have d3 := H2.out.d3
  have d4 := H2.out.d4
  have f0 := H2.out.o.frozen 0
  have f1 := H2.out.o.frozen 1
  have f2 := H2.out.o.frozen 2
  have f3 := H2.out.o.frozen 3
  have f4 := H2.out.o.frozen 4
  have D := qH (sg_done (H2.out.put (bs q)) (.string c) (.int .i64 a) (.int .i64 b) (.string r) (.string (bs q)))
  go_wp2
  have D1 := D.out.1
  refine bodyPost_ret (v := retHE (⟨c, a, b, r, bs q⟩, 0)) (by simp [results, Tryz.results140, go_sem, retHE, hdV, D1.c 0 rfl, D1.c 1 rfl, D1.c 2 rfl, D1.c 3 rfl, D1.c 4 rfl]) rfl ?_
  exact ⟨rfl, D.out.2⟩
 ·have hen : (f != 0) = true := by rw [bne_iff_ne]; exact hf
  have D := qH (sg_done H1.out (.string ⟨#[]⟩) (.int .i64 0) (.int .i64 0) (.string ⟨#[]⟩) (.string ⟨#[]⟩))
  go_wp2
  have D1 := D.out.1
  refine bodyPost_ret (v := retHE (Hdr.zero, f)) (by simp [results, Tryz.results140, go_sem, retHE, hdV, Hdr.zero, D1.c 0 rfl, D1.c 1 rfl, D1.c 2 rfl, D1.c 3 rfl, D1.c 4 rfl]) rfl ?_
  exact ⟨rfl, D.out.2⟩
theorem hSignC (key : ByteArray) (h : Hdr) (w : World) (hr : Roots w) (hk : key.size ≤ 1099511627776) :
  Calls qP 140 #[.string key, hdV h] w fun e w' => e = .returned (retHE (signOf key h)) ∧ Since w w' := by
 have hl := body_len h
 have K1 := qH (fun W => partC h W)
 obtain ⟨⟨s, f⟩, eb⟩ : ∃ s, s = bodyOf h := ⟨_, rfl⟩
 unfold signOf
 rw [← eb] at K1 hl ⊢
 have K2 := qH (fun W (hW : Since w W) => macSum key (bs s) W (hr.since hW) hk (by rw [bs_size]; simp only at hl; omega))
 simp only [bs_data] at K2
 exact hSign_this key h.chain h.height h.time h.root h.mac s f _ w K1 K2
theorem hGood_this (key : ByteArray) (c : ByteArray) (a b : Int) (r m : ByteArray) (c' : ByteArray) (a' b' : Int) (r' m' : ByteArray) (f : Int) (w : World)
  (K1 : Hid (∀ W, Since w W → Calls qP 140 #[.string key, .agg #[.string c, .int .i64 a, .int .i64 b, .string r, .string m]] W fun e w' => e = .returned (.tuple #[.agg #[.string c', .int .i64 a', .int .i64 b', .string r', .string m'], .int .i64 f]) ∧ Since W w')) :
  Calls qP 95 #[.string key, .agg #[.string c, .int .i64 a, .int .i64 b, .string r, .string m]] w fun e w' => e = .returned (.bool (decide (f = 0 ∧ (c' = c ∧ a' = a ∧ b' = b ∧ r' = r ∧ m' = m)))) ∧ Since w w' := by
 have HB := qH (Blk.new w 34 #[.string c, .int .i64 a, .int .i64 b, .string r, .string m])
 have HS := qH (show Since w (w.alloc (.cells #[.string c, .int .i64 a, .int .i64 b, .string r, .string m] 34)) from since_of ((Below.refl _ w).alloc (Nat.le_refl _) _))
 have y0 : (w.alloc (.cells #[.string c, .int .i64 a, .int .i64 b, .string r, .string m] 34)).cell? ⟨w.heap.size, 0, none⟩ = some (.string c) := HB.out.c 0 rfl
 have y1 : (w.alloc (.cells #[.string c, .int .i64 a, .int .i64 b, .string r, .string m] 34)).cell? ⟨w.heap.size, 1, none⟩ = some (.int .i64 a) := HB.out.c 1 rfl
 have y2 : (w.alloc (.cells #[.string c, .int .i64 a, .int .i64 b, .string r, .string m] 34)).cell? ⟨w.heap.size, 2, none⟩ = some (.int .i64 b) := HB.out.c 2 rfl
 have y3 : (w.alloc (.cells #[.string c, .int .i64 a, .int .i64 b, .string r, .string m] 34)).cell? ⟨w.heap.size, 3, none⟩ = some (.string r) := HB.out.c 3 rfl
 have y4 : (w.alloc (.cells #[.string c, .int .i64 a, .int .i64 b, .string r, .string m] 34)).cell? ⟨w.heap.size, 4, none⟩ = some (.string m) := HB.out.c 4 rfl
 have EQ : ∀ W : World, (Op.equalIn 10000 34 (.agg #[.string c', .int .i64 a', .int .i64 b', .string r', .string m']) (.agg #[.string c, .int .i64 a, .int .i64 b, .string r, .string m])).run qP W = .ok (decide (c' = c ∧ a' = a ∧ b' = b ∧ r' = r ∧ m' = m)) W := fun W => eq_hd5 _ _ _ _ _ _ _ _ _ _ W
 have GU := guardH
 go_enter Tryz.func95, Tryz.ntmps95
 go_wp2_with fail
 refine (K1.out _ HS.out).mono ?_
 rintro e w1 ⟨rfl, q1⟩
 have X1 := HB.out.next q1.below
 have S1 : Since w w1 := since_of (step_below HS.out.below q1.below)
 have hlt : w.heap.size ≤ w1.heap.size := Nat.le_of_lt X1.lt
 clear HB HS K1 q1 y0 y1 y2 y3 y4
 have X2 := X1.alloc (.cells #[.string c', .int .i64 a', .int .i64 b', .string r', .string m'] 34)
 have S2 := qH (show Since w (w1.alloc (.cells #[.string c', .int .i64 a', .int .i64 b', .string r', .string m'] 34)) from since_of (S1.below.alloc hlt _))
 have y0 : (w1.alloc (.cells #[.string c', .int .i64 a', .int .i64 b', .string r', .string m'] 34)).cell? ⟨w.heap.size, 0, none⟩ = some (.string c) := X2.c 0 rfl
 have y1 : (w1.alloc (.cells #[.string c', .int .i64 a', .int .i64 b', .string r', .string m'] 34)).cell? ⟨w.heap.size, 1, none⟩ = some (.int .i64 a) := X2.c 1 rfl
 have y2 : (w1.alloc (.cells #[.string c', .int .i64 a', .int .i64 b', .string r', .string m'] 34)).cell? ⟨w.heap.size, 2, none⟩ = some (.int .i64 b) := X2.c 2 rfl
 have y3 : (w1.alloc (.cells #[.string c', .int .i64 a', .int .i64 b', .string r', .string m'] 34)).cell? ⟨w.heap.size, 3, none⟩ = some (.string r) := X2.c 3 rfl
 have y4 : (w1.alloc (.cells #[.string c', .int .i64 a', .int .i64 b', .string r', .string m'] 34)).cell? ⟨w.heap.size, 4, none⟩ = some (.string m) := X2.c 4 rfl
 clear X1 X2 S1 hlt
 by_cases hf : f = 0
 ·subst hf
  go_wp2
  go_ret
  exact ⟨rfl, S2.out⟩
 ·have hfe : (f == 0) = false := by rw [beq_eq_false_iff_ne]; exact hf
  go_wp2
  go_ret
  exact ⟨by simp [hf], S2.out⟩
theorem hGoodC (key : ByteArray) (h : Hdr) (w : World) (hr : Roots w) (hk : key.size ≤ 1099511627776) :
  Calls qP 95 #[.string key, hdV h] w fun e w' => e = .returned (.bool (goodOf key h)) ∧ Since w w' := by
 have K1 := qH (fun W (hW : Since w W) => hSignC key h W (hr.since hW) hk)
 unfold retHE at K1
 have e : goodOf key h = decide ((signOf key h).2 = 0 ∧ ((signOf key h).1.chain = h.chain ∧ (signOf key h).1.height = h.height ∧ (signOf key h).1.time = h.time ∧ (signOf key h).1.root = h.root ∧ (signOf key h).1.mac = h.mac)) := by
  unfold goodOf
  generalize (signOf key h).1 = x
  obtain ⟨c, a, b, r, m⟩ := x
  obtain ⟨c', a', b', r', m'⟩ := h
  simp
 rw [e]
 exact hGood_this key h.chain h.height h.time h.root h.mac _ _ _ _ _ _ w K1
def acc14 (h : Int) : Bool := decide (0 < h ∧ h ≤ 1099511627776)
theorem acceptableC (h : Int) (w : World) : Calls qP 59 #[.int .i64 h] w fun e w' => e = .returned (.bool (acc14 h)) ∧ w' = w := by
 unfold acc14
 by_cases h1 : 0 < h
 ·by_cases h2 : h ≤ 1099511627776
  ·rw [decide_eq_true (And.intro h1 h2)]
   go_enter Tryz.func59, Tryz.ntmps59
   go_wp2
   go_ret
   exact ⟨rfl, rfl⟩
  ·rw [decide_eq_false (fun x => h2 x.2)]
   go_enter Tryz.func59, Tryz.ntmps59
   go_wp2
   go_ret
   exact ⟨rfl, rfl⟩
 ·rw [decide_eq_false (fun x => h1 x.1)]
  go_enter Tryz.func59, Tryz.ntmps59
  go_wp2
  go_ret
  exact ⟨rfl, rfl⟩
def exV (e : Int) : Value := if e = 0 then .nilIface else .iface 160 (.agg #[.int .i64 e])
def retXE (r : Hdr × Int) : Value := .tuple #[hdV r.1, exV r.2]
def cExam (c : Clt) (raw : ByteArray) : Hdr × Int :=
 if (rdHd raw).2 ≠ 0 then (Hdr.zero, (rdHd raw).2) else if (rdHd raw).1.chain ≠ c.chain ∨ goodOf c.key (rdHd raw).1 = false then (Hdr.zero, 24) else if (rdHd raw).1.height < 1 ∨ 1099511627776 < (rdHd raw).1.height then (Hdr.zero, 13) else ((rdHd raw).1, 0)
theorem head_exam {c : Clt} (h : c.frozen = false) (raw : ByteArray) : cHead c raw = cExam c raw := by unfold cHead; rw [if_neg (by simp [h])]; rfl
theorem exam_this (c k raw : ByteArray) (ht : Int) (h1 : ByteArray) (h2 h3 : Int) (h4 h5 : ByteArray) (e : Int) (g fr : Bool) (w : World)
  (P1 : Hid (∀ W, Since w W → Calls qP 94 #[.string raw] W fun en w' => en = .returned (.tuple #[.agg #[.string h1, .int .i64 h2, .int .i64 h3, .string h4, .string h5], .int .i64 e]) ∧ Since W w'))
  (P2 : Hid (∀ W, Since w W → Calls qP 95 #[.string k, .agg #[.string h1, .int .i64 h2, .int .i64 h3, .string h4, .string h5]] W fun en w' => en = .returned (.bool g) ∧ Since W w')) :
  Calls qP 49 #[.agg #[.string c, .string k, .int .i64 ht, .bool fr], .string raw] w fun en w' => en = .returned (retXE (if e ≠ 0 then (Hdr.zero, e) else if h1 ≠ c ∨ g = false then (Hdr.zero, 24) else if h2 < 1 ∨ 1099511627776 < h2 then (Hdr.zero, 13) else (⟨h1, h2, h3, h4, h5⟩, 0))) ∧ Since w w' := by
 obtain ⟨ans, hr⟩ : ∃ x : Hdr × Int, x = (if e ≠ 0 then (Hdr.zero, e) else if h1 ≠ c ∨ g = false then (Hdr.zero, 24) else if h2 < 1 ∨ 1099511627776 < h2 then (Hdr.zero, 13) else (⟨h1, h2, h3, h4, h5⟩, 0)) := ⟨_, rfl⟩
 rw [← hr]
 have HR := qH hr
 clear hr
 have z0 : (w.alloc (.cells #[.string c, .string k, .int .i64 ht, .bool fr] 41)).heap.size = w.heap.size + 1 := by simp
 have C0 := qH ((Blk.new w 41 #[.string c, .string k, .int .i64 ht, .bool fr]).alloc (.cells #[.string ⟨#[]⟩, .int .i64 0, .int .i64 0, .string ⟨#[]⟩, .string ⟨#[]⟩] 34))
 have O := Blk.new (w.alloc (.cells #[.string c, .string k, .int .i64 ht, .bool fr] 41)) 34 #[.string ⟨#[]⟩, .int .i64 0, .int .i64 0, .string ⟨#[]⟩, .string ⟨#[]⟩]
 rw [z0] at O
 have O0 := qH O
 have S0 := qH (since_alloc (since_alloc (Since.refl w) (.cells #[.string c, .string k, .int .i64 ht, .bool fr] 41)) (.cells #[.string ⟨#[]⟩, .int .i64 0, .int .i64 0, .string ⟨#[]⟩, .string ⟨#[]⟩] 34))
 clear z0 O
 go_enter Tryz.func49, Tryz.ntmps49
 go_wp2_with fail
 refine (P1.out _ S0.out).mono ?_
 rintro en w1 ⟨rfl, q⟩
 have C1 := qH ((C0.out.next q.below).alloc (.cells #[.string h1, .int .i64 h2, .int .i64 h3, .string h4, .string h5] 34))
 have O1 := qH ((O0.out.next q.below).alloc (.cells #[.string h1, .int .i64 h2, .int .i64 h3, .string h4, .string h5] 34))
 have S1 := qH (since_alloc (since_two S0.out q) (.cells #[.string h1, .int .i64 h2, .int .i64 h3, .string h4, .string h5] 34))
 have X1 := qH (Blk.new w1 34 #[.string h1, .int .i64 h2, .int .i64 h3, .string h4, .string h5])
 clear C0 O0 S0 P1 q
 by_cases he : e = 0
 ·subst he
  have y0 : (w1.alloc (.cells #[.string h1, .int .i64 h2, .int .i64 h3, .string h4, .string h5] 34)).cell? ⟨w.heap.size, 0, none⟩ = some (.string c) := C1.out.c 0 rfl
  have y1 : (w1.alloc (.cells #[.string h1, .int .i64 h2, .int .i64 h3, .string h4, .string h5] 34)).cell? ⟨w.heap.size, 1, none⟩ = some (.string k) := C1.out.c 1 rfl
  have x0 : (w1.alloc (.cells #[.string h1, .int .i64 h2, .int .i64 h3, .string h4, .string h5] 34)).cell? ⟨w1.heap.size, 0, none⟩ = some (.string h1) := X1.out.c 0 rfl
  have x1 : (w1.alloc (.cells #[.string h1, .int .i64 h2, .int .i64 h3, .string h4, .string h5] 34)).cell? ⟨w1.heap.size, 1, none⟩ = some (.int .i64 h2) := X1.out.c 1 rfl
  have x2 : (w1.alloc (.cells #[.string h1, .int .i64 h2, .int .i64 h3, .string h4, .string h5] 34)).cell? ⟨w1.heap.size, 2, none⟩ = some (.int .i64 h3) := X1.out.c 2 rfl
  have x3 : (w1.alloc (.cells #[.string h1, .int .i64 h2, .int .i64 h3, .string h4, .string h5] 34)).cell? ⟨w1.heap.size, 3, none⟩ = some (.string h4) := X1.out.c 3 rfl
  have x4 : (w1.alloc (.cells #[.string h1, .int .i64 h2, .int .i64 h3, .string h4, .string h5] 34)).cell? ⟨w1.heap.size, 4, none⟩ = some (.string h5) := X1.out.c 4 rfl
  by_cases hc : h1 = c
  ·subst hc
   go_wp2_with fail
   refine (P2.out _ S1.out).mono ?_
   rintro en w2 ⟨rfl, q⟩
   have O2 := qH (O1.out.next q.below)
   have X2 := qH (X1.out.next q.below)
   have S2 := qH (since_two S1.out q)
   clear P2 q C1 O1 X1 S1 x0 x1 x2 x3 x4 y0 y1
   have d0 : w2.cell? ⟨w.heap.size + 1, 0, none⟩ = some (.string ⟨#[]⟩) := O2.out.c 0 rfl
   have d1 : w2.cell? ⟨w.heap.size + 1, 1, none⟩ = some (.int .i64 0) := O2.out.c 1 rfl
   have d2 : w2.cell? ⟨w.heap.size + 1, 2, none⟩ = some (.int .i64 0) := O2.out.c 2 rfl
   have d3 : w2.cell? ⟨w.heap.size + 1, 3, none⟩ = some (.string ⟨#[]⟩) := O2.out.c 3 rfl
   have d4 : w2.cell? ⟨w.heap.size + 1, 4, none⟩ = some (.string ⟨#[]⟩) := O2.out.c 4 rfl
   have f0 := O2.out.frozen 0
   have f1 := O2.out.frozen 1
   have f2 := O2.out.frozen 2
   have f3 := O2.out.frozen 3
   have f4 := O2.out.frozen 4
   have x0 : w2.cell? ⟨w1.heap.size, 0, none⟩ = some (.string h1) := X2.out.c 0 rfl
   have x1 : w2.cell? ⟨w1.heap.size, 1, none⟩ = some (.int .i64 h2) := X2.out.c 1 rfl
   have x2 : w2.cell? ⟨w1.heap.size, 2, none⟩ = some (.int .i64 h3) := X2.out.c 2 rfl
   have x3 : w2.cell? ⟨w1.heap.size, 3, none⟩ = some (.string h4) := X2.out.c 3 rfl
   have x4 : w2.cell? ⟨w1.heap.size, 4, none⟩ = some (.string h5) := X2.out.c 4 rfl
   have DY := qH (And.intro (put5 O2.out (.string h1) (.int .i64 h2) (.int .i64 h3) (.string h4) (.string h5)) (since_put5 (b := w.heap.size + 1) S2.out (by omega) (.string h1) (.int .i64 h2) (.int .i64 h3) (.string h4) (.string h5)))
   have D := qH (And.intro (put5 O2.out (.string ⟨#[]⟩) (.int .i64 0) (.int .i64 0) (.string ⟨#[]⟩) (.string ⟨#[]⟩)) (since_put5 (b := w.heap.size + 1) S2.out (by omega) (.string ⟨#[]⟩) (.int .i64 0) (.int .i64 0) (.string ⟨#[]⟩) (.string ⟨#[]⟩)))
   clear O2 X2 S2
   cases g with
   | false =>
    have hr := HR.out
    rw [if_neg (by simp), if_pos (.inr rfl)] at hr
    subst hr
    clear HR
    go_wp2
    have D1 := D.out.1
    refine bodyPost_ret (v := retXE (Hdr.zero, 24)) (by simp [results, Tryz.results49, go_sem, retXE, exV, hdV, Hdr.zero, D1.c 0 rfl, D1.c 1 rfl, D1.c 2 rfl, D1.c 3 rfl, D1.c 4 rfl]) rfl ?_
    exact ⟨rfl, D.out.2⟩
   | true =>
    by_cases hh : h2 < 1 ∨ 1099511627776 < h2
    ·have hr := HR.out
     rw [if_neg (by simp), if_neg (by simp), if_pos hh] at hr
     subst hr
     clear HR
     have ha : acc14 h2 = false := decide_eq_false (by omega)
     have HA := qH (fun W => ha ▸ acceptableC h2 W)
     clear hh ha
     go_wp2_with fail
     refine (HA.out _).mono ?_
     rintro en w3 ⟨rfl, rfl⟩
     go_wp2
     all_goals have D1 := D.out.1
     all_goals refine bodyPost_ret (v := retXE (Hdr.zero, 13)) (by simp [results, Tryz.results49, go_sem, retXE, exV, hdV, Hdr.zero, D1.c 0 rfl, D1.c 1 rfl, D1.c 2 rfl, D1.c 3 rfl, D1.c 4 rfl]) rfl ?_
     all_goals exact ⟨rfl, D.out.2⟩
    ·have hr := HR.out
     rw [if_neg (by simp), if_neg (by simp), if_neg hh] at hr
     subst hr
     clear HR
     have ha : acc14 h2 = true := decide_eq_true (by omega)
     have HA := qH (fun W => ha ▸ acceptableC h2 W)
     clear hh ha D
     go_wp2_with fail
     refine (HA.out _).mono ?_
     rintro en w3 ⟨rfl, rfl⟩
     go_wp2
     have D := DY
     have D1 := D.out.1
     refine bodyPost_ret (v := retXE (⟨h1, h2, h3, h4, h5⟩, 0)) (by simp [results, Tryz.results49, go_sem, retXE, exV, hdV, D1.c 0 rfl, D1.c 1 rfl, D1.c 2 rfl, D1.c 3 rfl, D1.c 4 rfl]) rfl ?_
     exact ⟨rfl, D.out.2⟩
  ·have hcb := str_neq hc
   have hr := HR.out
   rw [if_neg (by simp), if_pos (.inl hc)] at hr
   subst hr
   clear HR
   have d0 : (w1.alloc (.cells #[.string h1, .int .i64 h2, .int .i64 h3, .string h4, .string h5] 34)).cell? ⟨w.heap.size + 1, 0, none⟩ = some (.string ⟨#[]⟩) := O1.out.c 0 rfl
   have d1 : (w1.alloc (.cells #[.string h1, .int .i64 h2, .int .i64 h3, .string h4, .string h5] 34)).cell? ⟨w.heap.size + 1, 1, none⟩ = some (.int .i64 0) := O1.out.c 1 rfl
   have d2 : (w1.alloc (.cells #[.string h1, .int .i64 h2, .int .i64 h3, .string h4, .string h5] 34)).cell? ⟨w.heap.size + 1, 2, none⟩ = some (.int .i64 0) := O1.out.c 2 rfl
   have d3 : (w1.alloc (.cells #[.string h1, .int .i64 h2, .int .i64 h3, .string h4, .string h5] 34)).cell? ⟨w.heap.size + 1, 3, none⟩ = some (.string ⟨#[]⟩) := O1.out.c 3 rfl
   have d4 : (w1.alloc (.cells #[.string h1, .int .i64 h2, .int .i64 h3, .string h4, .string h5] 34)).cell? ⟨w.heap.size + 1, 4, none⟩ = some (.string ⟨#[]⟩) := O1.out.c 4 rfl
   have f0 := O1.out.frozen 0
   have f1 := O1.out.frozen 1
   have f2 := O1.out.frozen 2
   have f3 := O1.out.frozen 3
   have f4 := O1.out.frozen 4
   have D := qH (And.intro (put5 O1.out (.string ⟨#[]⟩) (.int .i64 0) (.int .i64 0) (.string ⟨#[]⟩) (.string ⟨#[]⟩)) (since_put5 (b := w.heap.size + 1) S1.out (by omega) (.string ⟨#[]⟩) (.int .i64 0) (.int .i64 0) (.string ⟨#[]⟩) (.string ⟨#[]⟩)))
   clear hc P2 C1 O1 X1 S1
   go_wp2
   have D1 := D.out.1
   refine bodyPost_ret (v := retXE (Hdr.zero, 24)) (by simp [results, Tryz.results49, go_sem, retXE, exV, hdV, Hdr.zero, D1.c 0 rfl, D1.c 1 rfl, D1.c 2 rfl, D1.c 3 rfl, D1.c 4 rfl]) rfl ?_
   exact ⟨rfl, D.out.2⟩
 ·have heb : (e != 0) = true := by rw [bne_iff_ne]; exact he
  have hr := HR.out
  rw [if_pos he] at hr
  subst hr
  clear HR
  have d0 : (w1.alloc (.cells #[.string h1, .int .i64 h2, .int .i64 h3, .string h4, .string h5] 34)).cell? ⟨w.heap.size + 1, 0, none⟩ = some (.string ⟨#[]⟩) := O1.out.c 0 rfl
  have d1 : (w1.alloc (.cells #[.string h1, .int .i64 h2, .int .i64 h3, .string h4, .string h5] 34)).cell? ⟨w.heap.size + 1, 1, none⟩ = some (.int .i64 0) := O1.out.c 1 rfl
  have d2 : (w1.alloc (.cells #[.string h1, .int .i64 h2, .int .i64 h3, .string h4, .string h5] 34)).cell? ⟨w.heap.size + 1, 2, none⟩ = some (.int .i64 0) := O1.out.c 2 rfl
  have d3 : (w1.alloc (.cells #[.string h1, .int .i64 h2, .int .i64 h3, .string h4, .string h5] 34)).cell? ⟨w.heap.size + 1, 3, none⟩ = some (.string ⟨#[]⟩) := O1.out.c 3 rfl
  have d4 : (w1.alloc (.cells #[.string h1, .int .i64 h2, .int .i64 h3, .string h4, .string h5] 34)).cell? ⟨w.heap.size + 1, 4, none⟩ = some (.string ⟨#[]⟩) := O1.out.c 4 rfl
  have f0 := O1.out.frozen 0
  have f1 := O1.out.frozen 1
  have f2 := O1.out.frozen 2
  have f3 := O1.out.frozen 3
  have f4 := O1.out.frozen 4
  have D := qH (And.intro (put5 O1.out (.string ⟨#[]⟩) (.int .i64 0) (.int .i64 0) (.string ⟨#[]⟩) (.string ⟨#[]⟩)) (since_put5 (b := w.heap.size + 1) S1.out (by omega) (.string ⟨#[]⟩) (.int .i64 0) (.int .i64 0) (.string ⟨#[]⟩) (.string ⟨#[]⟩)))
  have hx : exV e = .iface 160 (.agg #[.int .i64 e]) := by unfold exV; rw [if_neg he]
  clear he P2 C1 O1 X1 S1
  go_wp2
  have D1 := D.out.1
  refine bodyPost_ret (v := retXE (Hdr.zero, e)) (by simp [results, Tryz.results49, go_sem, retXE, hx, hdV, Hdr.zero, D1.c 0 rfl, D1.c 1 rfl, D1.c 2 rfl, D1.c 3 rfl, D1.c 4 rfl]) rfl ?_
  exact ⟨rfl, D.out.2⟩
theorem examineC (c : Clt) (raw : ByteArray) (w : World) (hR : Roots w) (hr : raw.size ≤ 9223372036854775807) (hk : c.key.size ≤ 1099511627776) :
  Calls qP 49 #[cltV c, .string raw] w fun en w' => en = .returned (retXE (cExam c raw)) ∧ Since w w' := by
 obtain ⟨ch, k, ht, f⟩ := c
 exact exam_this ch k raw ht (rdHd raw).1.chain (rdHd raw).1.height (rdHd raw).1.time (rdHd raw).1.root (rdHd raw).1.mac _ _ f w (qH fun W _ => hReadC raw W hr) (qH fun W hW => hGoodC k (rdHd raw).1 W (hR.since hW) hk)
structure CsAt (w : World) (b : Nat) (s : ByteArray) (e : Int) (W : World) : Prop where
 o : Blk W w.heap.size 62 #[.int .i64 0, .string ⟨#[]⟩]
 r : Rdg w b s e W
 lt : w.heap.size < b
section
variable {w W W' : World} {b : Nat} {s s' : ByteArray} {e e' : Int}
theorem CsAt.step (h : CsAt w b s e W) {v : Value} {en : Ending} (k : RdPost W b v s' e' en W') : CsAt w b s' e' W' :=
 ⟨h.o.grown k.2.2 (by have := h.lt; intro x; injection x with x; omega), h.r.step k, h.lt⟩
theorem CsAt.alloc (h : CsAt w b s e W) (ob : Obj) : CsAt w b s e (W.alloc ob) := ⟨h.o.alloc _, ⟨h.r.q.alloc _, since_alloc h.r.s _, h.r.lt⟩, h.lt⟩
end
theorem see_err (j : Nat) (id : ByteArray) (h : Int) (c1 c2 : ByteArray) (c3 : Int) (c4 : Bool) (e : Int) (w : World) (he : e ≠ 0)
  (C : Hid (∀ W, Since w W → Calls qP 11 #[.pointer (some ⟨j, 0, none⟩), .string id] W fun en w' => en = .returned (.tuple #[.agg #[.string c1, .string c2, .int .i64 c3, .bool c4], .int .i64 e]) ∧ Since W w')) :
  Calls qP 21 #[.pointer (some ⟨j, 0, none⟩), .string id, .int .i64 h] w fun en w' => en = .returned (retNE (Sn.zero, e)) ∧ Since w w' := by
 have hb : (e != 0) = true := by rw [bne_iff_ne]; exact he
 clear he
 have O0 := qH (Blk.new w 62 #[.int .i64 0, .string ⟨#[]⟩])
 have S0 := qH (since_alloc (Since.refl w) (.cells #[.int .i64 0, .string ⟨#[]⟩] 62))
 go_enter Tryz.func21, Tryz.ntmps21
 go_wp2_with fail
 refine (C.out _ S0.out).mono ?_
 rintro en w1 ⟨rfl, q⟩
 have O1 := qH ((O0.out.next q.below).alloc (.cells #[.string c1, .string c2, .int .i64 c3, .bool c4] 41))
 have S1 := qH (since_alloc (since_two S0.out q) (.cells #[.string c1, .string c2, .int .i64 c3, .bool c4] 41))
 clear C O0 S0 q
 have d0 : (w1.alloc (.cells #[.string c1, .string c2, .int .i64 c3, .bool c4] 41)).cell? ⟨w.heap.size, 0, none⟩ = some (.int .i64 0) := O1.out.c 0 rfl
 have d1 : (w1.alloc (.cells #[.string c1, .string c2, .int .i64 c3, .bool c4] 41)).cell? ⟨w.heap.size, 1, none⟩ = some (.string ⟨#[]⟩) := O1.out.c 1 rfl
 have f0 := O1.out.frozen 0
 have f1 := O1.out.frozen 1
 have D := qH (And.intro (put2 O1.out (.int .i64 0) (.string ⟨#[]⟩)) (since_put2 S1.out (Nat.le_refl _) (.int .i64 0) (.string ⟨#[]⟩)))
 clear O1 S1
 go_wp2
 have D1 := D.out.1
 refine bodyPost_ret (v := retNE (Sn.zero, e)) (by simp [results, Tryz.results21, go_sem, retNE, snV, Sn.zero, D1.c 0 rfl, D1.c 1 rfl]) rfl ?_
 exact ⟨rfl, D.out.2⟩
theorem see_low (j : Nat) (id : ByteArray) (h : Int) (c1 c2 : ByteArray) (c3 : Int) (c4 : Bool) (w : World) (hh : acc14 h = false)
  (C : Hid (∀ W, Since w W → Calls qP 11 #[.pointer (some ⟨j, 0, none⟩), .string id] W fun en w' => en = .returned (.tuple #[.agg #[.string c1, .string c2, .int .i64 c3, .bool c4], .int .i64 0]) ∧ Since W w')) :
  Calls qP 21 #[.pointer (some ⟨j, 0, none⟩), .string id, .int .i64 h] w fun en w' => en = .returned (retNE (Sn.zero, 13)) ∧ Since w w' := by
 have HA := qH (fun W => hh ▸ acceptableC h W)
 clear hh
 have O0 := qH (Blk.new w 62 #[.int .i64 0, .string ⟨#[]⟩])
 have S0 := qH (since_alloc (Since.refl w) (.cells #[.int .i64 0, .string ⟨#[]⟩] 62))
 go_enter Tryz.func21, Tryz.ntmps21
 go_wp2_with fail
 refine (C.out _ S0.out).mono ?_
 rintro en w1 ⟨rfl, q⟩
 have O1 := qH ((O0.out.next q.below).alloc (.cells #[.string c1, .string c2, .int .i64 c3, .bool c4] 41))
 have S1 := qH (since_alloc (since_two S0.out q) (.cells #[.string c1, .string c2, .int .i64 c3, .bool c4] 41))
 clear C O0 S0 q
 have d0 : (w1.alloc (.cells #[.string c1, .string c2, .int .i64 c3, .bool c4] 41)).cell? ⟨w.heap.size, 0, none⟩ = some (.int .i64 0) := O1.out.c 0 rfl
 have d1 : (w1.alloc (.cells #[.string c1, .string c2, .int .i64 c3, .bool c4] 41)).cell? ⟨w.heap.size, 1, none⟩ = some (.string ⟨#[]⟩) := O1.out.c 1 rfl
 have f0 := O1.out.frozen 0
 have f1 := O1.out.frozen 1
 have D := qH (And.intro (put2 O1.out (.int .i64 0) (.string ⟨#[]⟩)) (since_put2 S1.out (Nat.le_refl _) (.int .i64 0) (.string ⟨#[]⟩)))
 clear O1 S1
 go_wp2_with fail
 refine (HA.out _).mono ?_
 rintro en w3 ⟨rfl, rfl⟩
 go_wp2
 have D1 := D.out.1
 refine bodyPost_ret (v := retNE (Sn.zero, 13)) (by simp [results, Tryz.results21, go_sem, retNE, snV, Sn.zero, D1.c 0 rfl, D1.c 1 rfl]) rfl ?_
 exact ⟨rfl, D.out.2⟩
theorem see_this (j : Nat) (id key v s1 s2 : ByteArray) (g : Bool) (h : Int) (c1 c2 : ByteArray) (c3 : Int) (c4 : Bool) (e1 e2 : Int) (x1 : Nat) (x2 : ByteArray) (d : Int) (w : World) (hh : acc14 h = true)
  (C : Hid (∀ W, Since w W → Calls qP 11 #[.pointer (some ⟨j, 0, none⟩), .string id] W fun en w' => en = .returned (.tuple #[.agg #[.string c1, .string c2, .int .i64 c3, .bool c4], .int .i64 0]) ∧ Since W w'))
  (K : Hid (∀ W, Since w W → Calls qP 60 #[.string id, .int .i64 h] W fun e w' => e = .returned (.string key) ∧ Since W w'))
  (G : Hid (∀ W, Since w W → Calls qP 33 #[.pointer (some ⟨j, 0, none⟩), .string key] W fun e w' => e = .returned (.tuple #[.string v, .bool g]) ∧ w' = W))
  (N1 : Hid (∀ W b, RdAt W b v 0 → Calls qP 37 #[.pointer (some ⟨b, 0, none⟩)] W (RdPost W b (.int .i64 x1) s1 e1)))
  (N2 : Hid (∀ W b, RdAt W b s1 e1 → Calls qP 36 #[.pointer (some ⟨b, 0, none⟩)] W (RdPost W b (.string x2) s2 e2)))
  (N3 : Hid (∀ W b, RdAt W b s2 e2 → Calls qP 38 #[.pointer (some ⟨b, 0, none⟩)] W fun en w' => en = .returned (.int .i64 d) ∧ W = w')) :
  Calls qP 21 #[.pointer (some ⟨j, 0, none⟩), .string id, .int .i64 h] w fun e w' => e = .returned (retNE (if d ≠ 0 then (Sn.zero, 13) else (⟨x1, x2⟩, 0))) ∧ Since w w' := by
 obtain ⟨ans, hr⟩ : ∃ x : Sn × Int, x = (if d ≠ 0 then (Sn.zero, 13) else (⟨x1, x2⟩, 0)) := ⟨_, rfl⟩
 rw [← hr]
 have HR := qH hr
 have HA := qH (fun W => hh ▸ acceptableC h W)
 clear hr hh
 have O0 := qH (Blk.new w 62 #[.int .i64 0, .string ⟨#[]⟩])
 have S0 := qH (since_alloc (Since.refl w) (.cells #[.int .i64 0, .string ⟨#[]⟩] 62))
 go_enter Tryz.func21, Tryz.ntmps21
 go_wp2_with fail
 refine (C.out _ S0.out).mono ?_
 rintro en w1 ⟨rfl, q⟩
 have O1 := qH ((O0.out.next q.below).alloc (.cells #[.string c1, .string c2, .int .i64 c3, .bool c4] 41))
 have S1 := qH (since_alloc (since_two S0.out q) (.cells #[.string c1, .string c2, .int .i64 c3, .bool c4] 41))
 clear C O0 S0 q
 go_wp2_with fail
 refine (HA.out _).mono ?_
 rintro en w2 ⟨rfl, rfl⟩
 go_wp2_with fail
 refine (K.out _ S1.out).mono ?_
 rintro en w3 ⟨rfl, q⟩
 have O2 := qH (O1.out.next q.below)
 have S2 := qH (since_two S1.out q)
 clear K O1 S1 q HA
 go_wp2_with fail
 refine (G.out _ S2.out).mono ?_
 rintro e w4 ⟨rfl, rfl⟩
 clear G
 go_wp2_with fail
 refine (new v _).mono ?_
 rintro e w5 ⟨rfl, rfl⟩
 have H : Hid (CsAt w w4.heap.size v 0 (w4.alloc (.cells #[.string v, .int .i64 0] 149))) := qH ⟨O2.out.alloc _, Rdg.start S2.out v, O2.out.lt⟩
 clear S2 O2
 generalize (w4.alloc (.cells #[.string v, .int .i64 0] 149)) = W0 at *
 generalize w4.heap.size = b at *
 go_wp2_with fail
 refine (N1.out _ _ H.out.r.q).mono ?_
 rintro e u4 q
 have H1 := qH (H.out.step q)
 obtain ⟨rfl, -, -⟩ := q
 clear N1 H
 go_wp2_with fail
 refine (N2.out _ _ H1.out.r.q).mono ?_
 rintro e u5 q
 have H2 := qH (H1.out.step q)
 obtain ⟨rfl, -, -⟩ := q
 clear N2 H1
 go_wp2_with fail
 have B6 := qH (Blk.new u5 62 #[.int .i64 x1, .string x2])
 have H3 := qH (H2.out.alloc (.cells #[.int .i64 x1, .string x2] 62))
 clear H2
 refine (N3.out _ _ H3.out.r.q).mono ?_
 rintro e u6 ⟨rfl, rfl⟩
 clear N3
 have y0 : (u5.alloc (.cells #[.int .i64 x1, .string x2] 62)).cell? ⟨u5.heap.size, 0, none⟩ = some (.int .i64 x1) := B6.out.c 0 rfl
 have y1 : (u5.alloc (.cells #[.int .i64 x1, .string x2] 62)).cell? ⟨u5.heap.size, 1, none⟩ = some (.string x2) := B6.out.c 1 rfl
 have d0 := H3.out.o.c 0 (v := .int .i64 0) rfl
 have d1 := H3.out.o.c 1 (v := .string ⟨#[]⟩) rfl
 have f0 := H3.out.o.frozen 0
 have f1 := H3.out.o.frozen 1
 have DZ := qH (And.intro (put2 H3.out.o (.int .i64 0) (.string ⟨#[]⟩)) (since_put2 H3.out.r.s (Nat.le_refl _) (.int .i64 0) (.string ⟨#[]⟩)))
 have DY := qH (And.intro (put2 H3.out.o (.int .i64 x1) (.string x2)) (since_put2 H3.out.r.s (Nat.le_refl _) (.int .i64 x1) (.string x2)))
 clear H3 B6
 generalize u5.alloc (.cells #[.int .i64 x1, .string x2] 62) = W6 at *
 by_cases hd : d = 0
 ·subst hd
  have hr := HR.out
  rw [if_neg (by simp)] at hr
  subst hr
  clear HR DZ
  go_wp2
  have D1 := DY.out.1
  refine bodyPost_ret (v := retNE (⟨x1, x2⟩, 0)) (by simp [results, Tryz.results21, go_sem, retNE, snV, D1.c 0 rfl, D1.c 1 rfl]) rfl ?_
  exact ⟨rfl, DY.out.2⟩
 ·have hdb : (d != 0) = true := by rw [bne_iff_ne]; exact hd
  have hr := HR.out
  rw [if_pos hd] at hr
  subst hr
  clear HR DY hd
  go_wp2
  have D1 := DZ.out.1
  refine bodyPost_ret (v := retNE (Sn.zero, 13)) (by simp [results, Tryz.results21, go_sem, retNE, snV, Sn.zero, D1.c 0 rfl, D1.c 1 rfl]) rfl ?_
  exact ⟨rfl, DZ.out.2⟩
theorem rd_sn_none : rdSn ⟨#[]⟩ = none := by decide +kernel
theorem bind_getD (o : Option ByteArray) {α : Type} (f : ByteArray → Option α) (h : f ⟨#[]⟩ = none) : o.bind f = f (o.getD ⟨#[]⟩) := by cases o <;> simp [h]
theorem seeC {w : World} {S : Nat → Prop} {j m : Nat} {Lv : List (List KV)} {L : List KV} (hJ : Jr w S j Lv L m) (hs : Sized L) (hL : PLay w) (id : ByteArray) (hid : id.size ≤ 1000000) (h : Int) :
  Calls qP 21 #[.pointer (some ⟨j, 0, none⟩), .string id, .int .i64 h] w fun e w' => e = .returned (retNE (cSee L id h)) ∧ Since w w' := by
 have C := qH (fun W (hW : Since w W) => clGet (hJ.below hW.below) hs (hL.next hW.below) id hid)
 have hsz := hs.get (kSeen id h)
 unfold cSee
 unfold retCE at C
 obtain ⟨⟨⟨c1, c2, c3, c4⟩, e⟩, hc⟩ : ∃ x, cGet L id = x := ⟨_, rfl⟩
 rw [hc] at C ⊢
 simp only
 by_cases he : e = 0
 ·subst he
  rw [if_neg (by simp)]
  by_cases hh : h < 1 ∨ 1099511627776 < h
  ·rw [if_pos hh]
   exact see_low j id h _ _ _ _ w (decide_eq_false (by omega)) C
  ·rw [if_neg hh]
   have k := see_this j id (kSeen id h) ((lget L (kSeen id h)).getD ⟨#[]⟩) _ _ (lget L (kSeen id h)).isSome h _ _ _ _ _ _ _ _ _ w (decide_eq_true (by omega)) C (qH fun W hW => seenKeyC id hid h W (hL.next hW.below)) (qH fun W hW => jGet (kSeen id h) (hJ.below hW.below)) (qH fun W b hR => numAt b _ _ W hR (by omega)) (qH fun W b hR => textAt b _ _ W hR (by have := (stNum_facts ((lget L (kSeen id h)).getD ⟨#[]⟩) 0).2.1; omega)) (qH fun W b hR => doneAt b _ _ W hR)
   refine k.mono fun e w' ⟨he, hs⟩ => ⟨?_, hs⟩
   rw [he, bind_getD _ _ rd_sn_none]
   unfold rdSn
   simp only
   by_cases hd : stDone (stText (stNum ((lget L (kSeen id h)).getD ⟨#[]⟩) 0).1.1 (stNum ((lget L (kSeen id h)).getD ⟨#[]⟩) 0).1.2).1.1 (stText (stNum ((lget L (kSeen id h)).getD ⟨#[]⟩) 0).1.1 (stNum ((lget L (kSeen id h)).getD ⟨#[]⟩) 0).1.2).1.2 = 0
   ·rw [if_neg (by simp [hd]), if_neg (by simp [hd])]
   ·rw [if_pos hd, if_pos hd]
 ·rw [if_pos he]
  exact see_err j id h _ _ _ _ e w he C
def cAct (L : List KV) (id : ByteArray) : Clt × Int := if (cGet L id).2 ≠ 0 then (Clt.zero, (cGet L id).2) else if (cGet L id).1.frozen = true then (Clt.zero, 12) else ((cGet L id).1, 0)
theorem act_this (j : Nat) (id : ByteArray) (c1 c2 : ByteArray) (c3 : Int) (c4 : Bool) (e : Int) (w : World)
  (C : Hid (∀ W, Since w W → Calls qP 11 #[.pointer (some ⟨j, 0, none⟩), .string id] W fun en w' => en = .returned (.tuple #[.agg #[.string c1, .string c2, .int .i64 c3, .bool c4], .int .i64 e]) ∧ Since W w')) :
  Calls qP 48 #[.pointer (some ⟨j, 0, none⟩), .string id] w fun en w' => en = .returned (retCE (if e ≠ 0 then (Clt.zero, e) else if c4 = true then (Clt.zero, 12) else (⟨c1, c2, c3, c4⟩, 0))) ∧ Since w w' := by
 obtain ⟨ans, hr⟩ : ∃ x : Clt × Int, x = (if e ≠ 0 then (Clt.zero, e) else if c4 = true then (Clt.zero, 12) else (⟨c1, c2, c3, c4⟩, 0)) := ⟨_, rfl⟩
 rw [← hr]
 have HR := qH hr
 clear hr
 have O0 := qH (Blk.new w 41 #[.string ⟨#[]⟩, .string ⟨#[]⟩, .int .i64 0, .bool false])
 have S0 := qH (since_alloc (Since.refl w) (.cells #[.string ⟨#[]⟩, .string ⟨#[]⟩, .int .i64 0, .bool false] 41))
 go_enter Tryz.func48, Tryz.ntmps48
 go_wp2_with fail
 refine (C.out _ S0.out).mono ?_
 rintro en w1 ⟨rfl, q⟩
 have O1 := qH ((O0.out.next q.below).alloc (.cells #[.string c1, .string c2, .int .i64 c3, .bool c4] 41))
 have S1 := qH (since_alloc (since_two S0.out q) (.cells #[.string c1, .string c2, .int .i64 c3, .bool c4] 41))
 have C1 := qH (Blk.new w1 41 #[.string c1, .string c2, .int .i64 c3, .bool c4])
 clear O0 S0 C q
 have y0 := C1.out.c 0 (v := .string c1) rfl
 have y1 := C1.out.c 1 (v := .string c2) rfl
 have y2 := C1.out.c 2 (v := .int .i64 c3) rfl
 have y3 := C1.out.c 3 (v := .bool c4) rfl
 have d0 := O1.out.c 0 (v := .string ⟨#[]⟩) rfl
 have d1 := O1.out.c 1 (v := .string ⟨#[]⟩) rfl
 have d2 := O1.out.c 2 (v := .int .i64 0) rfl
 have d3 := O1.out.c 3 (v := .bool false) rfl
 have f0 := O1.out.frozen 0
 have f1 := O1.out.frozen 1
 have f2 := O1.out.frozen 2
 have f3 := O1.out.frozen 3
 have DZ := qH (And.intro (put4 O1.out (.string ⟨#[]⟩) (.string ⟨#[]⟩) (.int .i64 0) (.bool false)) (since_put4 S1.out (Nat.le_refl _) (.string ⟨#[]⟩) (.string ⟨#[]⟩) (.int .i64 0) (.bool false)))
 have DY := qH (And.intro (put4 O1.out (.string c1) (.string c2) (.int .i64 c3) (.bool c4)) (since_put4 S1.out (Nat.le_refl _) (.string c1) (.string c2) (.int .i64 c3) (.bool c4)))
 clear O1 S1 C1
 by_cases he : e = 0
 ·subst he
  cases c4 with
  | true =>
   have hr := HR.out
   rw [if_neg (by simp), if_pos rfl] at hr
   subst hr
   clear HR DY
   go_wp2
   have D1 := DZ.out.1
   refine bodyPost_ret (v := retCE (Clt.zero, 12)) (by simp [results, Tryz.results48, go_sem, retCE, cltV, Clt.zero, D1.c 0 rfl, D1.c 1 rfl, D1.c 2 rfl, D1.c 3 rfl]) rfl ?_
   exact ⟨rfl, DZ.out.2⟩
  | false =>
   have hr := HR.out
   rw [if_neg (by simp), if_neg (by simp)] at hr
   subst hr
   clear HR DZ
   go_wp2
   have D1 := DY.out.1
   refine bodyPost_ret (v := retCE (⟨c1, c2, c3, false⟩, 0)) (by simp [results, Tryz.results48, go_sem, retCE, cltV, D1.c 0 rfl, D1.c 1 rfl, D1.c 2 rfl, D1.c 3 rfl]) rfl ?_
   exact ⟨rfl, DY.out.2⟩
 ·have heb : (e != 0) = true := by rw [bne_iff_ne]; exact he
  have hr := HR.out
  rw [if_pos he] at hr
  subst hr
  clear HR DY he
  go_wp2
  have D1 := DZ.out.1
  refine bodyPost_ret (v := retCE (Clt.zero, e)) (by simp [results, Tryz.results48, go_sem, retCE, cltV, Clt.zero, D1.c 0 rfl, D1.c 1 rfl, D1.c 2 rfl, D1.c 3 rfl]) rfl ?_
  exact ⟨rfl, DZ.out.2⟩
theorem evid_e1 (j : Nat) (id pr : ByteArray) (h : Int) (c1 c2 : ByteArray) (c3 : Int) (c4 : Bool) (e : Int) (w : World) (he : e ≠ 0)
  (C : Hid (∀ W, Since w W → Calls qP 48 #[.pointer (some ⟨j, 0, none⟩), .string id] W fun en w' => en = .returned (.tuple #[.agg #[.string c1, .string c2, .int .i64 c3, .bool c4], .int .i64 e]) ∧ Since W w')) :
  Calls qP 54 #[.pointer (some ⟨j, 0, none⟩), .string id, .agg #[.int .i64 h, .string pr]] w fun en w' => en = .returned (.tuple #[.string ⟨#[]⟩, .agg #[.int .i64 0, .int .i64 0, .bool false, .slice none 0 0, .slice none 0 0], .int .i64 e]) ∧ Since w w' := by
 have hb : (e != 0) = true := by rw [bne_iff_ne]; exact he
 clear he
 have z0 : (w.alloc (.cells #[.int .i64 h, .string pr] 58)).heap.size = w.heap.size + 1 := by simp
 have A0 := qH ((Blk.new w 58 #[.int .i64 h, .string pr]).alloc (.cells #[.int .i64 0, .int .i64 0, .bool false, .slice none 0 0, .slice none 0 0] 112))
 have O := Blk.new (w.alloc (.cells #[.int .i64 h, .string pr] 58)) 112 #[.int .i64 0, .int .i64 0, .bool false, .slice none 0 0, .slice none 0 0]
 rw [z0] at O
 have O0 := qH O
 have S0 := qH (since_alloc (since_alloc (Since.refl w) (.cells #[.int .i64 h, .string pr] 58)) (.cells #[.int .i64 0, .int .i64 0, .bool false, .slice none 0 0, .slice none 0 0] 112))
 clear z0 O
 go_enter Tryz.func54, Tryz.ntmps54
 go_wp2_with fail
 refine (C.out _ S0.out).mono ?_
 rintro en w1 ⟨rfl, q⟩
 have A1' := qH ((A0.out.next q.below).alloc (.cells #[.string c1, .string c2, .int .i64 c3, .bool c4] 41))
 have O1 := qH ((O0.out.next q.below).alloc (.cells #[.string c1, .string c2, .int .i64 c3, .bool c4] 41))
 have S1 := qH (since_alloc (since_two S0.out q) (.cells #[.string c1, .string c2, .int .i64 c3, .bool c4] 41))
 have C1 := qH (Blk.new w1 41 #[.string c1, .string c2, .int .i64 c3, .bool c4])
 clear A0 O0 S0 C q
 have d0 : (w1.alloc (.cells #[.string c1, .string c2, .int .i64 c3, .bool c4] 41)).cell? ⟨w.heap.size + 1, 0, none⟩ = some (.int .i64 0) := O1.out.c 0 rfl
 have d1 : (w1.alloc (.cells #[.string c1, .string c2, .int .i64 c3, .bool c4] 41)).cell? ⟨w.heap.size + 1, 1, none⟩ = some (.int .i64 0) := O1.out.c 1 rfl
 have d2 : (w1.alloc (.cells #[.string c1, .string c2, .int .i64 c3, .bool c4] 41)).cell? ⟨w.heap.size + 1, 2, none⟩ = some (.bool false) := O1.out.c 2 rfl
 have d3 : (w1.alloc (.cells #[.string c1, .string c2, .int .i64 c3, .bool c4] 41)).cell? ⟨w.heap.size + 1, 3, none⟩ = some (.slice none 0 0) := O1.out.c 3 rfl
 have d4 : (w1.alloc (.cells #[.string c1, .string c2, .int .i64 c3, .bool c4] 41)).cell? ⟨w.heap.size + 1, 4, none⟩ = some (.slice none 0 0) := O1.out.c 4 rfl
 have f0 := O1.out.frozen 0
 have f1 := O1.out.frozen 1
 have f2 := O1.out.frozen 2
 have f3 := O1.out.frozen 3
 have f4 := O1.out.frozen 4
 have D := qH (And.intro (put5 O1.out (.int .i64 0) (.int .i64 0) (.bool false) (.slice none 0 0) (.slice none 0 0)) (since_put5 (b := w.heap.size + 1) S1.out (by omega) (.int .i64 0) (.int .i64 0) (.bool false) (.slice none 0 0) (.slice none 0 0)))
 clear A1' O1 S1 C1
 go_wp2
 have D1 := D.out.1
 refine bodyPost_ret (v := .tuple #[.string ⟨#[]⟩, .agg #[.int .i64 0, .int .i64 0, .bool false, .slice none 0 0, .slice none 0 0], .int .i64 e]) (by simp [results, Tryz.results54, go_sem, D1.c 0 rfl, D1.c 1 rfl, D1.c 2 rfl, D1.c 3 rfl, D1.c 4 rfl]) rfl ?_
 exact ⟨rfl, D.out.2⟩
theorem evid_e2 (j : Nat) (id pr : ByteArray) (h : Int) (c1 c2 : ByteArray) (c3 : Int) (c4 : Bool) (x1 : Int) (x2 : ByteArray) (e : Int) (w : World) (he : e ≠ 0)
  (C : Hid (∀ W, Since w W → Calls qP 48 #[.pointer (some ⟨j, 0, none⟩), .string id] W fun en w' => en = .returned (.tuple #[.agg #[.string c1, .string c2, .int .i64 c3, .bool c4], .int .i64 0]) ∧ Since W w'))
  (X : Hid (∀ W, Since w W → Calls qP 21 #[.pointer (some ⟨j, 0, none⟩), .string id, .int .i64 h] W fun en w' => en = .returned (.tuple #[.agg #[.int .i64 x1, .string x2], .int .i64 e]) ∧ Since W w')) :
  Calls qP 54 #[.pointer (some ⟨j, 0, none⟩), .string id, .agg #[.int .i64 h, .string pr]] w fun en w' => en = .returned (.tuple #[.string ⟨#[]⟩, .agg #[.int .i64 0, .int .i64 0, .bool false, .slice none 0 0, .slice none 0 0], .int .i64 e]) ∧ Since w w' := by
 have hb : (e != 0) = true := by rw [bne_iff_ne]; exact he
 clear he
 have z0 : (w.alloc (.cells #[.int .i64 h, .string pr] 58)).heap.size = w.heap.size + 1 := by simp
 have A0 := qH ((Blk.new w 58 #[.int .i64 h, .string pr]).alloc (.cells #[.int .i64 0, .int .i64 0, .bool false, .slice none 0 0, .slice none 0 0] 112))
 have O := Blk.new (w.alloc (.cells #[.int .i64 h, .string pr] 58)) 112 #[.int .i64 0, .int .i64 0, .bool false, .slice none 0 0, .slice none 0 0]
 rw [z0] at O
 have O0 := qH O
 have S0 := qH (since_alloc (since_alloc (Since.refl w) (.cells #[.int .i64 h, .string pr] 58)) (.cells #[.int .i64 0, .int .i64 0, .bool false, .slice none 0 0, .slice none 0 0] 112))
 clear z0 O
 go_enter Tryz.func54, Tryz.ntmps54
 go_wp2_with fail
 refine (C.out _ S0.out).mono ?_
 rintro en w1 ⟨rfl, q⟩
 have A1' := qH ((A0.out.next q.below).alloc (.cells #[.string c1, .string c2, .int .i64 c3, .bool c4] 41))
 have O1 := qH ((O0.out.next q.below).alloc (.cells #[.string c1, .string c2, .int .i64 c3, .bool c4] 41))
 have S1 := qH (since_alloc (since_two S0.out q) (.cells #[.string c1, .string c2, .int .i64 c3, .bool c4] 41))
 have C1 := qH (Blk.new w1 41 #[.string c1, .string c2, .int .i64 c3, .bool c4])
 clear A0 O0 S0 C q
 have a0 : (w1.alloc (.cells #[.string c1, .string c2, .int .i64 c3, .bool c4] 41)).cell? ⟨w.heap.size, 0, none⟩ = some (.int .i64 h) := A1'.out.c 0 rfl
 go_wp2_with fail
 clear a0
 refine (X.out _ S1.out).mono ?_
 rintro en w2 ⟨rfl, q⟩
 have n2 : w.heap.size + 1 ≠ w2.heap.size := Nat.ne_of_lt (Nat.lt_of_lt_of_le O1.out.lt q.below.size)
 have A2' := qH ((A1'.out.next q.below).alloc (.cells #[.int .i64 x1, .string x2] 62))
 have O2 := qH ((O1.out.next q.below).alloc (.cells #[.int .i64 x1, .string x2] 62))
 have S2 := qH (since_alloc (since_two S1.out q) (.cells #[.int .i64 x1, .string x2] 62))
 have X2 := qH (Blk.new w2 62 #[.int .i64 x1, .string x2])
 clear A1' O1 S1 C1 X q
 have d0 : (w2.alloc (.cells #[.int .i64 x1, .string x2] 62)).cell? ⟨w.heap.size + 1, 0, none⟩ = some (.int .i64 0) := O2.out.c 0 rfl
 have d1 : (w2.alloc (.cells #[.int .i64 x1, .string x2] 62)).cell? ⟨w.heap.size + 1, 1, none⟩ = some (.int .i64 0) := O2.out.c 1 rfl
 have d2 : (w2.alloc (.cells #[.int .i64 x1, .string x2] 62)).cell? ⟨w.heap.size + 1, 2, none⟩ = some (.bool false) := O2.out.c 2 rfl
 have d3 : (w2.alloc (.cells #[.int .i64 x1, .string x2] 62)).cell? ⟨w.heap.size + 1, 3, none⟩ = some (.slice none 0 0) := O2.out.c 3 rfl
 have d4 : (w2.alloc (.cells #[.int .i64 x1, .string x2] 62)).cell? ⟨w.heap.size + 1, 4, none⟩ = some (.slice none 0 0) := O2.out.c 4 rfl
 have f0 := O2.out.frozen 0
 have f1 := O2.out.frozen 1
 have f2 := O2.out.frozen 2
 have f3 := O2.out.frozen 3
 have f4 := O2.out.frozen 4
 have D := qH (And.intro (put5 O2.out (.int .i64 0) (.int .i64 0) (.bool false) (.slice none 0 0) (.slice none 0 0)) (since_put5 (b := w.heap.size + 1) S2.out (by omega) (.int .i64 0) (.int .i64 0) (.bool false) (.slice none 0 0) (.slice none 0 0)))
 clear A2' O2 S2 X2
 go_wp2
 have D1 := D.out.1
 refine bodyPost_ret (v := .tuple #[.string ⟨#[]⟩, .agg #[.int .i64 0, .int .i64 0, .bool false, .slice none 0 0, .slice none 0 0], .int .i64 e]) (by simp [results, Tryz.results54, go_sem, D1.c 0 rfl, D1.c 1 rfl, D1.c 2 rfl, D1.c 3 rfl, D1.c 4 rfl]) rfl ?_
 exact ⟨rfl, D.out.2⟩
theorem evid_e3 (j : Nat) (id pr : ByteArray) (h : Int) (c1 c2 : ByteArray) (c3 : Int) (c4 : Bool) (x1 : Int) (x2 : ByteArray) (x : Pf) (e : Int) (w : World) (he : e ≠ 0)
  (C : Hid (∀ W, Since w W → Calls qP 48 #[.pointer (some ⟨j, 0, none⟩), .string id] W fun en w' => en = .returned (.tuple #[.agg #[.string c1, .string c2, .int .i64 c3, .bool c4], .int .i64 0]) ∧ Since W w'))
  (X : Hid (∀ W, Since w W → Calls qP 21 #[.pointer (some ⟨j, 0, none⟩), .string id, .int .i64 h] W fun en w' => en = .returned (.tuple #[.agg #[.int .i64 x1, .string x2], .int .i64 0]) ∧ Since W w'))
  (R : Hid (∀ W, Since w W → Calls qP 99 #[.string pr] W fun en w' => ∃ n pos there A1 m1 k1 A2 m2 k2, en = .returned (.tuple #[.agg #[.int .i64 n, .int .i64 pos, .bool there, .slice A1 m1 k1, .slice A2 m2 k2], .int .i64 e]) ∧ Prf w' (.agg #[.int .i64 n, .int .i64 pos, .bool there, .slice A1 m1 k1, .slice A2 m2 k2]) x ∧ Since W w' ∧ FreshP W.heap.size (.agg #[.int .i64 n, .int .i64 pos, .bool there, .slice A1 m1 k1, .slice A2 m2 k2]))) :
  Calls qP 54 #[.pointer (some ⟨j, 0, none⟩), .string id, .agg #[.int .i64 h, .string pr]] w fun en w' => en = .returned (.tuple #[.string ⟨#[]⟩, .agg #[.int .i64 0, .int .i64 0, .bool false, .slice none 0 0, .slice none 0 0], .int .i64 11]) ∧ Since w w' := by
 have hb : (e != 0) = true := by rw [bne_iff_ne]; exact he
 clear he
 have z0 : (w.alloc (.cells #[.int .i64 h, .string pr] 58)).heap.size = w.heap.size + 1 := by simp
 have A0 := qH ((Blk.new w 58 #[.int .i64 h, .string pr]).alloc (.cells #[.int .i64 0, .int .i64 0, .bool false, .slice none 0 0, .slice none 0 0] 112))
 have O := Blk.new (w.alloc (.cells #[.int .i64 h, .string pr] 58)) 112 #[.int .i64 0, .int .i64 0, .bool false, .slice none 0 0, .slice none 0 0]
 rw [z0] at O
 have O0 := qH O
 have S0 := qH (since_alloc (since_alloc (Since.refl w) (.cells #[.int .i64 h, .string pr] 58)) (.cells #[.int .i64 0, .int .i64 0, .bool false, .slice none 0 0, .slice none 0 0] 112))
 clear z0 O
 go_enter Tryz.func54, Tryz.ntmps54
 go_wp2_with fail
 refine (C.out _ S0.out).mono ?_
 rintro en w1 ⟨rfl, q⟩
 have A1' := qH ((A0.out.next q.below).alloc (.cells #[.string c1, .string c2, .int .i64 c3, .bool c4] 41))
 have O1 := qH ((O0.out.next q.below).alloc (.cells #[.string c1, .string c2, .int .i64 c3, .bool c4] 41))
 have S1 := qH (since_alloc (since_two S0.out q) (.cells #[.string c1, .string c2, .int .i64 c3, .bool c4] 41))
 have C1 := qH (Blk.new w1 41 #[.string c1, .string c2, .int .i64 c3, .bool c4])
 clear A0 O0 S0 C q
 have a0 : (w1.alloc (.cells #[.string c1, .string c2, .int .i64 c3, .bool c4] 41)).cell? ⟨w.heap.size, 0, none⟩ = some (.int .i64 h) := A1'.out.c 0 rfl
 go_wp2_with fail
 clear a0
 refine (X.out _ S1.out).mono ?_
 rintro en w2 ⟨rfl, q⟩
 have n2 : w.heap.size + 1 ≠ w2.heap.size := Nat.ne_of_lt (Nat.lt_of_lt_of_le O1.out.lt q.below.size)
 have A2' := qH ((A1'.out.next q.below).alloc (.cells #[.int .i64 x1, .string x2] 62))
 have O2 := qH ((O1.out.next q.below).alloc (.cells #[.int .i64 x1, .string x2] 62))
 have S2 := qH (since_alloc (since_two S1.out q) (.cells #[.int .i64 x1, .string x2] 62))
 have X2 := qH (Blk.new w2 62 #[.int .i64 x1, .string x2])
 clear A1' O1 S1 C1 X q
 have a1 : (w2.alloc (.cells #[.int .i64 x1, .string x2] 62)).cell? ⟨w.heap.size, 1, none⟩ = some (.string pr) := A2'.out.c 1 rfl
 go_wp2_with fail
 clear a1
 refine (R.out _ S2.out).mono ?_
 rintro en w3 ⟨n, pos, there, A1, m1, k1, A2, m2, k2, rfl, hP, q, hF⟩
 have FR := qH hF
 have nb : w.heap.size + 1 < (w2.alloc (.cells #[.int .i64 x1, .string x2] 62)).heap.size := O2.out.lt
 clear hF
 have O3 := qH ((O2.out.next q.below).alloc (.cells #[.int .i64 n, .int .i64 pos, .bool there, .slice A1 m1 k1, .slice A2 m2 k2] 112))
 have X3 := qH ((X2.out.next q.below).alloc (.cells #[.int .i64 n, .int .i64 pos, .bool there, .slice A1 m1 k1, .slice A2 m2 k2] 112))
 have S3 := qH (since_alloc (since_two S2.out q) (.cells #[.int .i64 n, .int .i64 pos, .bool there, .slice A1 m1 k1, .slice A2 m2 k2] 112))
 have Q3 := qH (Blk.new w3 112 #[.int .i64 n, .int .i64 pos, .bool there, .slice A1 m1 k1, .slice A2 m2 k2])
 have P3 := qH (hP.below ((Below.refl _ w3).alloc (Nat.le_refl _) (.cells #[.int .i64 n, .int .i64 pos, .bool there, .slice A1 m1 k1, .slice A2 m2 k2] 112)))
 clear A2' O2 S2 X2 R q hP
 have d0 : (w3.alloc (.cells #[.int .i64 n, .int .i64 pos, .bool there, .slice A1 m1 k1, .slice A2 m2 k2] 112)).cell? ⟨w.heap.size + 1, 0, none⟩ = some (.int .i64 0) := O3.out.c 0 rfl
 have d1 : (w3.alloc (.cells #[.int .i64 n, .int .i64 pos, .bool there, .slice A1 m1 k1, .slice A2 m2 k2] 112)).cell? ⟨w.heap.size + 1, 1, none⟩ = some (.int .i64 0) := O3.out.c 1 rfl
 have d2 : (w3.alloc (.cells #[.int .i64 n, .int .i64 pos, .bool there, .slice A1 m1 k1, .slice A2 m2 k2] 112)).cell? ⟨w.heap.size + 1, 2, none⟩ = some (.bool false) := O3.out.c 2 rfl
 have d3 : (w3.alloc (.cells #[.int .i64 n, .int .i64 pos, .bool there, .slice A1 m1 k1, .slice A2 m2 k2] 112)).cell? ⟨w.heap.size + 1, 3, none⟩ = some (.slice none 0 0) := O3.out.c 3 rfl
 have d4 : (w3.alloc (.cells #[.int .i64 n, .int .i64 pos, .bool there, .slice A1 m1 k1, .slice A2 m2 k2] 112)).cell? ⟨w.heap.size + 1, 4, none⟩ = some (.slice none 0 0) := O3.out.c 4 rfl
 have f0 := O3.out.frozen 0
 have f1 := O3.out.frozen 1
 have f2 := O3.out.frozen 2
 have f3 := O3.out.frozen 3
 have f4 := O3.out.frozen 4
 have D := qH (And.intro (put5 O3.out (.int .i64 0) (.int .i64 0) (.bool false) (.slice none 0 0) (.slice none 0 0)) (since_put5 (b := w.heap.size + 1) S3.out (by omega) (.int .i64 0) (.int .i64 0) (.bool false) (.slice none 0 0) (.slice none 0 0)))
 clear O3 S3 X3 Q3 P3
 go_wp2
 have D1 := D.out.1
 refine bodyPost_ret (v := .tuple #[.string ⟨#[]⟩, .agg #[.int .i64 0, .int .i64 0, .bool false, .slice none 0 0, .slice none 0 0], .int .i64 11]) (by simp [results, Tryz.results54, go_sem, D1.c 0 rfl, D1.c 1 rfl, D1.c 2 rfl, D1.c 3 rfl, D1.c 4 rfl]) rfl ?_
 exact ⟨rfl, D.out.2⟩
theorem evid_ok (j : Nat) (id pr : ByteArray) (h : Int) (c1 c2 : ByteArray) (c3 : Int) (c4 : Bool) (x1 : Int) (x2 : ByteArray) (x : Pf) (w : World)
  (C : Hid (∀ W, Since w W → Calls qP 48 #[.pointer (some ⟨j, 0, none⟩), .string id] W fun en w' => en = .returned (.tuple #[.agg #[.string c1, .string c2, .int .i64 c3, .bool c4], .int .i64 0]) ∧ Since W w'))
  (X : Hid (∀ W, Since w W → Calls qP 21 #[.pointer (some ⟨j, 0, none⟩), .string id, .int .i64 h] W fun en w' => en = .returned (.tuple #[.agg #[.int .i64 x1, .string x2], .int .i64 0]) ∧ Since W w'))
  (R : Hid (∀ W, Since w W → Calls qP 99 #[.string pr] W fun en w' => ∃ n pos there A1 m1 k1 A2 m2 k2, en = .returned (.tuple #[.agg #[.int .i64 n, .int .i64 pos, .bool there, .slice A1 m1 k1, .slice A2 m2 k2], .int .i64 0]) ∧ Prf w' (.agg #[.int .i64 n, .int .i64 pos, .bool there, .slice A1 m1 k1, .slice A2 m2 k2]) x ∧ Since W w' ∧ FreshP W.heap.size (.agg #[.int .i64 n, .int .i64 pos, .bool there, .slice A1 m1 k1, .slice A2 m2 k2]))) :
  Calls qP 54 #[.pointer (some ⟨j, 0, none⟩), .string id, .agg #[.int .i64 h, .string pr]] w fun en w' => ∃ v, en = .returned (.tuple #[.string x2, v, .int .i64 0]) ∧ Prf w' v x ∧ Since w w' := by
 have z0 : (w.alloc (.cells #[.int .i64 h, .string pr] 58)).heap.size = w.heap.size + 1 := by simp
 have A0 := qH ((Blk.new w 58 #[.int .i64 h, .string pr]).alloc (.cells #[.int .i64 0, .int .i64 0, .bool false, .slice none 0 0, .slice none 0 0] 112))
 have O := Blk.new (w.alloc (.cells #[.int .i64 h, .string pr] 58)) 112 #[.int .i64 0, .int .i64 0, .bool false, .slice none 0 0, .slice none 0 0]
 rw [z0] at O
 have O0 := qH O
 have S0 := qH (since_alloc (since_alloc (Since.refl w) (.cells #[.int .i64 h, .string pr] 58)) (.cells #[.int .i64 0, .int .i64 0, .bool false, .slice none 0 0, .slice none 0 0] 112))
 clear z0 O
 go_enter Tryz.func54, Tryz.ntmps54
 go_wp2_with fail
 refine (C.out _ S0.out).mono ?_
 rintro en w1 ⟨rfl, q⟩
 have A1' := qH ((A0.out.next q.below).alloc (.cells #[.string c1, .string c2, .int .i64 c3, .bool c4] 41))
 have O1 := qH ((O0.out.next q.below).alloc (.cells #[.string c1, .string c2, .int .i64 c3, .bool c4] 41))
 have S1 := qH (since_alloc (since_two S0.out q) (.cells #[.string c1, .string c2, .int .i64 c3, .bool c4] 41))
 have C1 := qH (Blk.new w1 41 #[.string c1, .string c2, .int .i64 c3, .bool c4])
 clear A0 O0 S0 C q
 have a0 : (w1.alloc (.cells #[.string c1, .string c2, .int .i64 c3, .bool c4] 41)).cell? ⟨w.heap.size, 0, none⟩ = some (.int .i64 h) := A1'.out.c 0 rfl
 go_wp2_with fail
 clear a0
 refine (X.out _ S1.out).mono ?_
 rintro en w2 ⟨rfl, q⟩
 have n2 : w.heap.size + 1 ≠ w2.heap.size := Nat.ne_of_lt (Nat.lt_of_lt_of_le O1.out.lt q.below.size)
 have A2' := qH ((A1'.out.next q.below).alloc (.cells #[.int .i64 x1, .string x2] 62))
 have O2 := qH ((O1.out.next q.below).alloc (.cells #[.int .i64 x1, .string x2] 62))
 have S2 := qH (since_alloc (since_two S1.out q) (.cells #[.int .i64 x1, .string x2] 62))
 have X2 := qH (Blk.new w2 62 #[.int .i64 x1, .string x2])
 clear A1' O1 S1 C1 X q
 have a1 : (w2.alloc (.cells #[.int .i64 x1, .string x2] 62)).cell? ⟨w.heap.size, 1, none⟩ = some (.string pr) := A2'.out.c 1 rfl
 go_wp2_with fail
 clear a1
 refine (R.out _ S2.out).mono ?_
 rintro en w3 ⟨n, pos, there, A1, m1, k1, A2, m2, k2, rfl, hP, q, hF⟩
 have FR := qH hF
 have nb : w.heap.size + 1 < (w2.alloc (.cells #[.int .i64 x1, .string x2] 62)).heap.size := O2.out.lt
 clear hF
 have O3 := qH ((O2.out.next q.below).alloc (.cells #[.int .i64 n, .int .i64 pos, .bool there, .slice A1 m1 k1, .slice A2 m2 k2] 112))
 have X3 := qH ((X2.out.next q.below).alloc (.cells #[.int .i64 n, .int .i64 pos, .bool there, .slice A1 m1 k1, .slice A2 m2 k2] 112))
 have S3 := qH (since_alloc (since_two S2.out q) (.cells #[.int .i64 n, .int .i64 pos, .bool there, .slice A1 m1 k1, .slice A2 m2 k2] 112))
 have Q3 := qH (Blk.new w3 112 #[.int .i64 n, .int .i64 pos, .bool there, .slice A1 m1 k1, .slice A2 m2 k2])
 have P3 := qH (hP.below ((Below.refl _ w3).alloc (Nat.le_refl _) (.cells #[.int .i64 n, .int .i64 pos, .bool there, .slice A1 m1 k1, .slice A2 m2 k2] 112)))
 clear A2' O2 S2 X2 R q hP
 have d0 : (w3.alloc (.cells #[.int .i64 n, .int .i64 pos, .bool there, .slice A1 m1 k1, .slice A2 m2 k2] 112)).cell? ⟨w.heap.size + 1, 0, none⟩ = some (.int .i64 0) := O3.out.c 0 rfl
 have d1 : (w3.alloc (.cells #[.int .i64 n, .int .i64 pos, .bool there, .slice A1 m1 k1, .slice A2 m2 k2] 112)).cell? ⟨w.heap.size + 1, 1, none⟩ = some (.int .i64 0) := O3.out.c 1 rfl
 have d2 : (w3.alloc (.cells #[.int .i64 n, .int .i64 pos, .bool there, .slice A1 m1 k1, .slice A2 m2 k2] 112)).cell? ⟨w.heap.size + 1, 2, none⟩ = some (.bool false) := O3.out.c 2 rfl
 have d3 : (w3.alloc (.cells #[.int .i64 n, .int .i64 pos, .bool there, .slice A1 m1 k1, .slice A2 m2 k2] 112)).cell? ⟨w.heap.size + 1, 3, none⟩ = some (.slice none 0 0) := O3.out.c 3 rfl
 have d4 : (w3.alloc (.cells #[.int .i64 n, .int .i64 pos, .bool there, .slice A1 m1 k1, .slice A2 m2 k2] 112)).cell? ⟨w.heap.size + 1, 4, none⟩ = some (.slice none 0 0) := O3.out.c 4 rfl
 have f0 := O3.out.frozen 0
 have f1 := O3.out.frozen 1
 have f2 := O3.out.frozen 2
 have f3 := O3.out.frozen 3
 have f4 := O3.out.frozen 4
 have p0 : (w3.alloc (.cells #[.int .i64 n, .int .i64 pos, .bool there, .slice A1 m1 k1, .slice A2 m2 k2] 112)).cell? ⟨w3.heap.size, 0, none⟩ = some (.int .i64 n) := Q3.out.c 0 rfl
 have p1 : (w3.alloc (.cells #[.int .i64 n, .int .i64 pos, .bool there, .slice A1 m1 k1, .slice A2 m2 k2] 112)).cell? ⟨w3.heap.size, 1, none⟩ = some (.int .i64 pos) := Q3.out.c 1 rfl
 have p2 : (w3.alloc (.cells #[.int .i64 n, .int .i64 pos, .bool there, .slice A1 m1 k1, .slice A2 m2 k2] 112)).cell? ⟨w3.heap.size, 2, none⟩ = some (.bool there) := Q3.out.c 2 rfl
 have p3 : (w3.alloc (.cells #[.int .i64 n, .int .i64 pos, .bool there, .slice A1 m1 k1, .slice A2 m2 k2] 112)).cell? ⟨w3.heap.size, 3, none⟩ = some (.slice A1 m1 k1) := Q3.out.c 3 rfl
 have p4 : (w3.alloc (.cells #[.int .i64 n, .int .i64 pos, .bool there, .slice A1 m1 k1, .slice A2 m2 k2] 112)).cell? ⟨w3.heap.size, 4, none⟩ = some (.slice A2 m2 k2) := Q3.out.c 4 rfl
 have b1 : (w3.alloc (.cells #[.int .i64 n, .int .i64 pos, .bool there, .slice A1 m1 k1, .slice A2 m2 k2] 112)).cell? ⟨w2.heap.size, 1, none⟩ = some (.string x2) := X3.out.c 1 rfl
 have D := qH (And.intro (put5 O3.out (.int .i64 n) (.int .i64 pos) (.bool there) (.slice A1 m1 k1) (.slice A2 m2 k2)) (since_put5 (b := w.heap.size + 1) S3.out (by omega) (.int .i64 n) (.int .i64 pos) (.bool there) (.slice A1 m1 k1) (.slice A2 m2 k2)))
 have X4 := blk_put5 X3.out n2.symm (.int .i64 n) (.int .i64 pos) (.bool there) (.slice A1 m1 k1) (.slice A2 m2 k2)
 have b2 := X4.c 1 (v := .string x2) rfl
 have P4 := qH (P3.out.kept5 FR.out nb O3.out (.int .i64 n) (.int .i64 pos) (.bool there) (.slice A1 m1 k1) (.slice A2 m2 k2))
 clear S3 X3 Q3 O3 X4 n2 nb P3 FR
 go_wp2_with fail
 generalize w3.alloc (.cells #[.int .i64 n, .int .i64 pos, .bool there, .slice A1 m1 k1, .slice A2 m2 k2] 112) = V at *
 go_region
 all_goals go_wp2
 all_goals have D1 := blk_drew D.out.1
 all_goals refine bodyPost_ret (v := .tuple #[.string x2, .agg #[.int .i64 n, .int .i64 pos, .bool there, .slice A1 m1 k1, .slice A2 m2 k2], .int .i64 0]) (by simp [results, Tryz.results54, go_sem, D1.c 0 rfl, D1.c 1 rfl, D1.c 2 rfl, D1.c 3 rfl, D1.c 4 rfl]) rfl ?_
 all_goals exact ⟨_, rfl, prf_drew P4.out, since_drew D.out.2⟩
section
variable {w : World} {S : Nat → Prop} {j m : Nat} {Lv : List (List KV)} {L : List KV}
theorem activeC (hJ : Jr w S j Lv L m) (hs : Sized L) (hL : PLay w) (id : ByteArray) (hid : id.size ≤ 1000000) :
  Calls qP 48 #[.pointer (some ⟨j, 0, none⟩), .string id] w fun e w' => e = .returned (retCE (cAct L id)) ∧ Since w w' :=
 act_this j id (cGet L id).1.chain (cGet L id).1.key (cGet L id).1.height (cGet L id).1.frozen (cGet L id).2 w (qH fun _ hW => clGet (hJ.below hW.below) hs (hL.next hW.below) id hid)
theorem open_act (id : ByteArray) (h : Int) (pr : ByteArray) : cOpen L id h pr = if (cAct L id).2 ≠ 0 then ((Pf.zero, ⟨#[]⟩), (cAct L id).2) else if (cSee L id h).2 ≠ 0 then ((Pf.zero, ⟨#[]⟩), (cSee L id h).2) else if (rdPf pr).2 ≠ 0 then ((Pf.zero, ⟨#[]⟩), 11) else (((rdPf pr).1, (cSee L id h).1.root), 0) := by
 unfold cOpen cAct
 by_cases h1 : (cGet L id).2 ≠ 0
 ·rw [if_pos h1, if_pos h1, if_pos h1]
 ·rw [if_neg h1, if_neg h1]
  by_cases h2 : (cGet L id).1.frozen = true
  ·rw [if_pos h2, if_pos h2, if_pos (by decide)]
  ·rw [if_neg h2, if_neg h2, if_neg (show ¬ ((cGet L id).1, (0 : Int)).2 ≠ 0 by simp)]
theorem evidenceC (hJ : Jr w S j Lv L m) (hs : Sized L) (hL : PLay w) (id : ByteArray) (hid : id.size ≤ 1000000) (h : Int) (pr : ByteArray) (hpr : pr.size ≤ 9223372036854775807) :
  Calls qP 54 #[.pointer (some ⟨j, 0, none⟩), .string id, .agg #[.int .i64 h, .string pr]] w fun en w' => ∃ v, en = .returned (.tuple #[.string (cOpen L id h pr).1.2, v, .int .i64 (cOpen L id h pr).2]) ∧ Prf w' v (cOpen L id h pr).1.1 ∧ Since w w' := by
 have C := qH (fun W (hW : Since w W) => activeC (hJ.below hW.below) hs (hL.next hW.below) id hid)
 have X := qH (fun W (hW : Since w W) => seeC (hJ.below hW.below) hs (hL.next hW.below) id hid h)
 have R := qH (fun W (_ : Since w W) => readF pr W hpr)
 rw [open_act]
 unfold retCE cltV at C
 unfold retNE snV at X
 obtain ⟨⟨⟨c1, c2, c3, c4⟩, e⟩, hc⟩ : ∃ x, cAct L id = x := ⟨_, rfl⟩
 obtain ⟨⟨⟨x1, x2⟩, f⟩, hx⟩ : ∃ x, cSee L id h = x := ⟨_, rfl⟩
 obtain ⟨⟨p, g⟩, hg⟩ : ∃ x, rdPf pr = x := ⟨_, rfl⟩
 rw [hc] at C
 rw [hx] at X
 rw [hg] at R
 rw [hc, hx, hg]
 simp only at C X R ⊢
 have zero : ∀ {er : Int} {e : Ending} {w' : World}, e = .returned (.tuple #[.string ⟨#[]⟩, .agg #[.int .i64 0, .int .i64 0, .bool false, .slice none 0 0, .slice none 0 0], .int .i64 er]) ∧ Since w w' → ∃ v, e = .returned (.tuple #[.string ⟨#[]⟩, v, .int .i64 er]) ∧ Prf w' v Pf.zero ∧ Since w w' := fun ⟨he, hs⟩ => ⟨_, he, Prf.zero _, hs⟩
 by_cases he : e = 0
 ·subst he
  rw [if_neg (by simp)]
  by_cases hf : f = 0
  ·subst hf
   rw [if_neg (by simp)]
   have R2 := qH (fun W hW => (R.out W hW).mono fun en w' (k : ∃ v, en = .returned (.tuple #[v, .int .i64 g]) ∧ Prf w' v p ∧ Since W w' ∧ FreshP W.heap.size v) => show ∃ n pos there A1 m1 k1 A2 m2 k2, en = .returned (.tuple #[.agg #[.int .i64 n, .int .i64 pos, .bool there, .slice A1 m1 k1, .slice A2 m2 k2], .int .i64 g]) ∧ Prf w' (.agg #[.int .i64 n, .int .i64 pos, .bool there, .slice A1 m1 k1, .slice A2 m2 k2]) p ∧ Since W w' ∧ FreshP W.heap.size (.agg #[.int .i64 n, .int .i64 pos, .bool there, .slice A1 m1 k1, .slice A2 m2 k2]) from by
    obtain ⟨v, k1, k2, k3, k4⟩ := k
    have k2' := k2
    obtain ⟨nv, pv, rfl, ⟨B1, r1, rfl, _, _⟩, ⟨B2, r2, rfl, _, _⟩⟩ := k2'
    exact ⟨_, _, _, _, _, _, _, _, _, k1, k2, k3, k4⟩)
   by_cases hgz : g = 0
   ·subst hgz
    rw [if_neg (by simp)]
    exact evid_ok j id pr h c1 c2 c3 c4 x1 x2 p w C X R2
   ·rw [if_pos hgz]
    exact (evid_e3 j id pr h c1 c2 c3 c4 x1 x2 p g w hgz C X R2).mono fun _ _ k => zero k
  ·rw [if_pos hf]
   exact (evid_e2 j id pr h c1 c2 c3 c4 x1 x2 f w hf C X).mono fun _ _ k => zero k
 ·rw [if_pos he]
  exact (evid_e1 j id pr h c1 c2 c3 c4 e w he C).mono fun _ _ k => zero k
theorem evid_form (hJ : Jr w S j Lv L m) (hs : Sized L) (hL : PLay w) (id : ByteArray) (hid : id.size ≤ 1000000) (h : Int) (pr : ByteArray) (hpr : pr.size ≤ 9223372036854775807) (W : World) (hW : Since w W) :
  Calls qP 54 #[.pointer (some ⟨j, 0, none⟩), .string id, .agg #[.int .i64 h, .string pr]] W fun en w' => ∃ n pos there A1 m1 k1 A2 m2 k2, en = .returned (.tuple #[.string (cOpen L id h pr).1.2, .agg #[.int .i64 n, .int .i64 pos, .bool there, .slice A1 m1 k1, .slice A2 m2 k2], .int .i64 (cOpen L id h pr).2]) ∧ Prf w' (.agg #[.int .i64 n, .int .i64 pos, .bool there, .slice A1 m1 k1, .slice A2 m2 k2]) (cOpen L id h pr).1.1 ∧ Since W w' :=
 (evidenceC (hJ.below hW.below) hs (hL.next hW.below) id hid h pr hpr).mono fun en w' ⟨v, k1, k2, k3⟩ => by
   have k2' := k2
   obtain ⟨nv, pv, rfl, ⟨B1, r1, rfl, _, _⟩, ⟨B2, r2, rfl, _, _⟩⟩ := k2'
   exact ⟨_, _, _, _, _, _, _, _, _, k1, k2, k3⟩
end
structure HdAt (w : World) (s : ByteArray) (e n1 n2 : Int) (t : Bool) (W : World) : Prop where
 r : Blk W w.heap.size 93 #[.string s, .int .i64 e]
 rr : Blk W (w.heap.size + 1) 93 #[.string ⟨#[]⟩, .int .i64 0]
 rx : Blk W (w.heap.size + 1 + 1) 112 #[.int .i64 0, .int .i64 0, .bool false, .slice none 0 0, .slice none 0 0]
 x : Blk W (w.heap.size + 1 + 1 + 1) 112 #[.int .i64 n1, .int .i64 n2, .bool t, .slice none 0 0, .slice none 0 0]
 s : Since w W
section
variable {w W W' : World} {s s' : ByteArray} {e e' n1 n2 : Int} {t : Bool}
theorem HdAt.next (h : HdAt w s e n1 n2 t W) (k : Below W.heap.size W W') : HdAt w s e n1 n2 t W' := ⟨h.r.below k h.r.lt, h.rr.below k h.rr.lt, h.rx.below k h.rx.lt, h.x.below k h.x.lt, since_of (step_below h.s.below k)⟩
theorem HdAt.setR (h : HdAt w s e n1 n2 t W) (s' : ByteArray) (e' : Int) : HdAt w s' e' n1 n2 t ((W.setCell ⟨w.heap.size, 0, none⟩ (.string s')).setCell ⟨w.heap.size, 1, none⟩ (.int .i64 e')) :=
 ⟨(h.r.set_ 0 _).set_ 1 _, (h.rr.far (p := ⟨w.heap.size, 0, none⟩) (by simp only; omega) _).far (p := ⟨w.heap.size, 1, none⟩) (by simp only; omega) _, (h.rx.far (p := ⟨w.heap.size, 0, none⟩) (by simp only; omega) _).far (p := ⟨w.heap.size, 1, none⟩) (by simp only; omega) _, (h.x.far (p := ⟨w.heap.size, 0, none⟩) (by simp only; omega) _).far (p := ⟨w.heap.size, 1, none⟩) (by simp only; omega) _, since_put (since_put h.s (by simp only; omega) _) (by simp only; omega) _⟩
theorem HdAt.setX (h : HdAt w s e n1 n2 t W) (i : Nat) (v : Value) (n1' n2' : Int) (t' : Bool) (hx : (#[.int .i64 n1, .int .i64 n2, .bool t, .slice none 0 0, .slice none 0 0] : Array Value).setIfInBounds i v = #[.int .i64 n1', .int .i64 n2', .bool t', .slice none 0 0, .slice none 0 0]) :
  HdAt w s e n1' n2' t' (W.setCell ⟨w.heap.size + 1 + 1 + 1, i, none⟩ v) := by
 have hxs := h.x.set_ i v
 rw [hx] at hxs
 exact ⟨h.r.far (p := ⟨w.heap.size + 1 + 1 + 1, i, none⟩) (by simp only; omega) _, h.rr.far (p := ⟨w.heap.size + 1 + 1 + 1, i, none⟩) (by simp only; omega) _, h.rx.far (p := ⟨w.heap.size + 1 + 1 + 1, i, none⟩) (by simp only; omega) _, hxs, since_put h.s (by simp only; omega) _⟩
end
def Lk (a b : ByteArray × Int) : Prop := a.2 = b.2 ∧ (a.2 = 0 → a.1 = b.1)
theorem Lk.refl (a : ByteArray × Int) : Lk a a := ⟨rfl, fun _ => rfl⟩
theorem Lk.trans {a b c : ByteArray × Int} (h : Lk a b) (k : Lk b c) : Lk a c := ⟨h.1.trans k.1, fun e => (h.2 e).trans (k.2 (h.1 ▸ e))⟩
structure Core (w : World) (br bx : Nat) (s : ByteArray) (e n1 n2 : Int) (t : Bool) (nv pv : Value) (W : World) : Prop where
 res : Blk W w.heap.size 112 #[.int .i64 0, .int .i64 0, .bool false, .slice none 0 0, .slice none 0 0]
 rd : Blk W br 93 #[.string s, .int .i64 e]
 x : Blk W bx 112 #[.int .i64 n1, .int .i64 n2, .bool t, nv, pv]
 s_ : Since w W
 l1 : w.heap.size < br
 l2 : br < bx
section
variable {w W W' : World} {br bx : Nat} {s s' : ByteArray} {e e' n1 n2 : Int} {t : Bool} {nv pv : Value}
theorem Core.next (h : Core w br bx s e n1 n2 t nv pv W) (k : Below W.heap.size W W') : Core w br bx s e n1 n2 t nv pv W' := ⟨h.res.below k h.res.lt, h.rd.below k h.rd.lt, h.x.below k h.x.lt, since_of (step_below h.s_.below k), h.l1, h.l2⟩
theorem Core.alloc (h : Core w br bx s e n1 n2 t nv pv W) (o : Obj) : Core w br bx s e n1 n2 t nv pv (W.alloc o) := h.next ((Below.refl _ W).alloc (Nat.le_refl _) o)
theorem Core.setR (h : Core w br bx s e n1 n2 t nv pv W) (s' : ByteArray) (e' : Int) : Core w br bx s' e' n1 n2 t nv pv ((W.setCell ⟨br, 0, none⟩ (.string s')).setCell ⟨br, 1, none⟩ (.int .i64 e')) := by
 have h1 := h.l1
 have h2 := h.l2
 exact ⟨(h.res.far (p := ⟨br, 0, none⟩) (by simp only; omega) _).far (p := ⟨br, 1, none⟩) (by simp only; omega) _, (h.rd.set_ 0 _).set_ 1 _, (h.x.far (p := ⟨br, 0, none⟩) (by simp only; omega) _).far (p := ⟨br, 1, none⟩) (by simp only; omega) _, since_put (since_put h.s_ (by simp only; omega) _) (by simp only; omega) _, h1, h2⟩
theorem Core.far (h : Core w br bx s e n1 n2 t nv pv W) {p : Addr} (hp : bx < p.block) (v : Value) : Core w br bx s e n1 n2 t nv pv (W.setCell p v) := by
 have h1 := h.l1
 have h2 := h.l2
 exact ⟨h.res.far (by omega) _, h.rd.far (by omega) _, h.x.far (by omega) _, since_put h.s_ (by omega) _, h1, h2⟩
theorem Core.put3 (h : Core w br bx s e n1 n2 t nv pv W) (v : Value) : Core w br bx s e n1 n2 t v pv (W.setCell ⟨bx, 3, none⟩ v) := by
 have h1 := h.l1
 have h2 := h.l2
 exact ⟨h.res.far (p := ⟨bx, 3, none⟩) (by simp only; omega) _, h.rd.far (p := ⟨bx, 3, none⟩) (by simp only; omega) _, h.x.set_ 3 v, since_put h.s_ (by simp only; omega) _, h1, h2⟩
theorem Core.put4 (h : Core w br bx s e n1 n2 t nv pv W) (v : Value) : Core w br bx s e n1 n2 t nv v (W.setCell ⟨bx, 4, none⟩ v) := by
 have h1 := h.l1
 have h2 := h.l2
 exact ⟨h.res.far (p := ⟨bx, 4, none⟩) (by simp only; omega) _, h.rd.far (p := ⟨bx, 4, none⟩) (by simp only; omega) _, h.x.set_ 4 v, since_put h.s_ (by simp only; omega) _, h1, h2⟩
theorem Core.grown (h : Core w br bx s e n1 n2 t nv pv W) {row : Option Nat} (k : W.grownBy W' row) (hr : ∀ g, row = some g → bx < g) : Core w br bx s e n1 n2 t nv pv W' := by
 have h1 := h.l1
 have h2 := h.l2
 exact ⟨h.res.grown k (fun e => by have := hr _ e.symm; omega), h.rd.grown k (fun e => by have := hr _ e.symm; omega), h.x.grown k (fun e => by have := hr _ e.symm; omega), since_of (h.s_.below.grown k h.s_.2.2.2.1 (fun g hg => by have := hr g hg; omega)), h1, h2⟩
theorem Core.lt (h : Core w br bx s e n1 n2 t nv pv W) : bx < W.heap.size := h.x.lt
theorem Core.r0 (h : Core w br bx s e n1 n2 t nv pv W) : W.cell? ⟨br, 0, none⟩ = some (.string s) := h.rd.c 0 rfl
theorem Core.r1 (h : Core w br bx s e n1 n2 t nv pv W) : W.cell? ⟨br, 1, none⟩ = some (.int .i64 e) := h.rd.c 1 rfl
theorem Core.x3 (h : Core w br bx s e n1 n2 t nv pv W) : W.cell? ⟨bx, 3, none⟩ = some nv := h.x.c 3 rfl
theorem Core.x4 (h : Core w br bx s e n1 n2 t nv pv W) : W.cell? ⟨bx, 4, none⟩ = some pv := h.x.c 4 rfl
theorem Core.xf (h : Core w br bx s e n1 n2 t nv pv W) (i : Nat) : W.frozen? ⟨bx, i, none⟩ = false := h.x.frozen i
end
structure Mid (w : World) (br bx B g : Nat) (s : ByteArray) (e n1 n2 : Int) (t : Bool) (nv : Value) (k : Nat) (acc : List KV) (x y : ByteArray) (W : World) : Prop where
 core : Core w br bx s e n1 n2 t nv (.slice none 0 0) W
 row : W.ownsRow B 36 2 nv k (prVals acc)
 p : Blk W g 36 #[.string x, .string y]
 lt : bx < B
 bg : B ≤ g
 off : ∀ j, nv.ownBlock = some j → j < g
section
variable {w W W' : World} {br bx B g k : Nat} {s s' : ByteArray} {e e' n1 n2 : Int} {t : Bool} {nv : Value} {acc : List KV} {x y : ByteArray}
theorem mid_row (h : Mid w br bx B g s e n1 n2 t nv k acc x y W) {b i : Nat} (hb : b < B ∨ b = g) (v : Value) : (W.setCell ⟨b, i, none⟩ v).ownsRow B 36 2 nv k (prVals acc) := by
 refine h.row.kept (row := some b) ⟨rfl, rfl, rfl, by simp [World.setCell], fun k _ hk => Below.heap_setCell _ _ _ _ (fun e => hk (by simp [e]))⟩ (.inr fun e => ?_)
 have h1 := h.row.lt b e
 have h2 := h.off b e
 omega
theorem Mid.next (h : Mid w br bx B g s e n1 n2 t nv k acc x y W) (b : Below W.heap.size W W') : Mid w br bx B g s e n1 n2 t nv k acc x y W' := ⟨h.core.next b, own_kept h.row b, h.p.below b h.p.lt, h.lt, h.bg, h.off⟩
theorem Mid.alloc (h : Mid w br bx B g s e n1 n2 t nv k acc x y W) (o : Obj) : Mid w br bx B g s e n1 n2 t nv k acc x y (W.alloc o) := h.next ((Below.refl _ W).alloc (Nat.le_refl _) o)
theorem Mid.setR (h : Mid w br bx B g s e n1 n2 t nv k acc x y W) (s' : ByteArray) (e' : Int) : Mid w br bx B g s' e' n1 n2 t nv k acc x y ((W.setCell ⟨br, 0, none⟩ (.string s')).setCell ⟨br, 1, none⟩ (.int .i64 e')) := by
 have h1 := h.core.l2
 have h2 := h.lt
 have h3 := h.bg
 have r1 := mid_row h (b := br) (i := 0) (.inl (by omega)) (.string s')
 refine ⟨h.core.setR s' e', r1.kept (row := some br) ⟨rfl, rfl, rfl, by simp [World.setCell], fun k _ hk => Below.heap_setCell _ _ _ _ (fun e => hk (by simp [e]))⟩ (.inr fun e => by have := (h.row.lt br e).1; omega), (h.p.far (p := ⟨br, 0, none⟩) (by simp only; omega) _).far (p := ⟨br, 1, none⟩) (by simp only; omega) _, h2, h3, h.off⟩
theorem Mid.setX (h : Mid w br bx B g s e n1 n2 t nv k acc x y W) (z : ByteArray) : Mid w br bx B g s e n1 n2 t nv k acc z y (W.setCell ⟨g, 0, none⟩ (.string z)) :=
 ⟨h.core.far (p := ⟨g, 0, none⟩) (by have := h.lt; have := h.bg; simp only; omega) _, mid_row h (.inr rfl) _, h.p.set_ 0 _, h.lt, h.bg, h.off⟩
theorem Mid.p0 (h : Mid w br bx B g s e n1 n2 t nv k acc x y W) : W.cell? ⟨g, 0, none⟩ = some (.string x) := h.p.c 0 rfl
theorem Mid.p1 (h : Mid w br bx B g s e n1 n2 t nv k acc x y W) : W.cell? ⟨g, 1, none⟩ = some (.string y) := h.p.c 1 rfl
theorem Mid.pf (h : Mid w br bx B g s e n1 n2 t nv k acc x y W) (i : Nat) : W.frozen? ⟨g, i, none⟩ = false := h.p.frozen i
end
theorem Lk.symm {a b : ByteArray × Int} (h : Lk a b) : Lk b a := ⟨h.1.symm, fun e => (h.2 (h.1.trans e)).symm⟩
theorem rShaC (l out : List UInt8) (HO : Hid (shaOf l = out)) (w : World) (hl : l.length ≤ 1000000) :
  Calls qP 76 #[.string (bs l)] w fun e w' => e = .returned (.string (bs out)) ∧ Below w.heap.size w w' := by
 have h := rsum (bs l) w (by rw [bs_size]; omega)
 rw [bs_data, HO.out] at h
 exact h
theorem rTextC (k : ByteArray) (x1 : List UInt8) (x2 : Int) (h1 : encText k = (x1, x2)) (W : World) :
  Calls qP 93 #[.string k] W fun e w' => e = .returned (.tuple #[.string (bs x1), .int .i64 x2]) ∧ Below W.heap.size W w' := by
 have := rText k W
 rw [h1] at this
 exact this
theorem rNumC (n : Int) (x1 : List UInt8) (x2 : Int) (h1 : encNum n = (x1, x2)) (W : World) :
  Calls qP 123 #[.int .i64 n] W fun e w' => e = .returned (.tuple #[.string (bs x1), .int .i64 x2]) ∧ Below W.heap.size W w' := by
 have := rNum n W
 rw [h1] at this
 exact this
theorem rLeaf_this (k v : ByteArray) (x1 y1 : List UInt8) (x2 y2 : Int) (h1 : encText k = (x1, x2)) (h2 : encText v = (y1, y2)) (w : World) :
  Calls qP 120 #[.agg #[.string k, .string v]] w fun e w' => e = .returned (.string (bs (0 :: (x1 ++ y1)))) ∧ Below w.heap.size w w' := by
 have lx : x1.length ≤ 65544 := by have := encText_len k; rw [h1] at this; exact this
 have ly : y1.length ≤ 65544 := by have := encText_len v; rw [h2] at this; exact this
 have K1 := qH (rTextC k x1 x2 h1)
 have K2 := qH (rTextC v y1 y2 h2)
 have a1 : ∀ W, (Op.stringOp .add ⟨#[0]⟩ (bs x1)).run qP W = .ok (.string (bs (0 :: x1))) W := fun W => run_add W [0] x1 (by simp; omega)
 have a2 : ∀ W, (Op.stringOp .add (bs (0 :: x1)) (bs y1)).run qP W = .ok (.string (bs (0 :: (x1 ++ y1)))) W := fun W => run_add W (0 :: x1) y1 (by simp; omega)
 have HB := qH (Blk.new w 36 #[.string k, .string v])
 have HW := qH ((Below.refl w.heap.size w).alloc (Nat.le_refl _) (.cells #[.string k, .string v] 36))
 clear lx ly h1 h2
 go_enter Tryz.func120, Tryz.ntmps120
 go_wp2_with fail
 refine (K1.out _).mono ?_
 rintro e w1 ⟨rfl, b1⟩
 have c1 : w1.cell? ⟨w.heap.size, 1, none⟩ = some (.string v) := (HB.out.next b1).cell 1
 have B1 := qH (HW.out.trans (b1.mono (by simp)))
 clear b1 HB HW K1
 go_wp2_with fail
 refine (K2.out _).mono ?_
 rintro e w2 ⟨rfl, b2⟩
 have B2 := qH (step_below B1.out b2)
 clear b2 B1 K2 c1
 go_wp2
 go_ret
 exact ⟨rfl, B2.out⟩
theorem rLeafC (p : KV) (w : World) :
  Calls qP 120 #[.agg #[.string p.1, .string p.2]] w fun e w' => e = .returned (.string (bs (leafOf p))) ∧ Below w.heap.size w w' :=
 rLeaf_this p.1 p.2 _ _ _ _ rfl rfl w
theorem rNodeC (a b : List UInt8) (w : World) (ha : a.length ≤ 70000) (hb : b.length ≤ 70000) :
  Calls qP 122 #[.string (bs a), .string (bs b)] w fun e w' => e = .returned (.string (bs (nodeOf a b))) ∧ Below w.heap.size w w' := by
 have a1 : ∀ W, (Op.stringOp .add ⟨#[1]⟩ (bs a)).run qP W = .ok (.string (bs (1 :: a))) W := fun W => run_add W [1] a (by simp; omega)
 have a2 : ∀ W, (Op.stringOp .add (bs (1 :: a)) (bs b)).run qP W = .ok (.string (bs (1 :: (a ++ b)))) W := fun W => run_add W (1 :: a) b (by simp; omega)
 clear ha hb
 go_enter Tryz.func122, Tryz.ntmps122
 go_wp2
 go_ret
 exact ⟨rfl, Below.refl _ _⟩
theorem rTop_this (n : Int) (t : List UInt8) (x1 : List UInt8) (x2 : Int) (h1 : encNum n = (x1, x2)) (w : World) (ht : t.length ≤ 70000) :
  Calls qP 75 #[.int .i64 n, .string (bs t)] w fun e w' => e = .returned (.string (bs (2 :: (x1 ++ t)))) ∧ Below w.heap.size w w' := by
 have lx : x1.length ≤ 8 := by have := encNum_len n; rw [h1] at this; exact this
 have K1 := qH (rNumC n x1 x2 h1)
 have a1 : ∀ W, (Op.stringOp .add ⟨#[2]⟩ (bs x1)).run qP W = .ok (.string (bs (2 :: x1))) W := fun W => run_add W [2] x1 (by simp; omega)
 have a2 : ∀ W, (Op.stringOp .add (bs (2 :: x1)) (bs t)).run qP W = .ok (.string (bs (2 :: (x1 ++ t)))) W := fun W => run_add W (2 :: x1) t (by simp; omega)
 clear lx ht h1
 go_enter Tryz.func75, Tryz.ntmps75
 go_wp2_with fail
 refine (K1.out _).mono ?_
 rintro e w1 ⟨rfl, b1⟩
 go_wp2
 go_ret
 exact ⟨rfl, b1⟩
theorem rTopC (n : Int) (t : List UInt8) (w : World) (ht : t.length ≤ 70000) :
  Calls qP 75 #[.int .i64 n, .string (bs t)] w fun e w' => e = .returned (.string (bs (topOf n t))) ∧ Below w.heap.size w w' :=
 rTop_this n t _ _ rfl w ht
end Go.Proofs.YtkejaepmoabikaaGreatDoor.W
