import Derived.Deep.RegionHeld3
import Derived.IntWalk
import Derived.Test.YtkejaepmoabikaaGreatDoorP1a
import Derived.Test.YtkejaepmoabikaaGreatDoorPXRRead
import Derived.Test.YtkejaepmoabikaaGreatDoorP0d
import Derived.Test.YtkejaepmoabikaaGreatDoorP1c
import Derived.Test.YtkejaepmoabikaaGreatDoorPXRLacks
import Derived.Test.YtkejaepmoabikaaGreatDoorP0e
import Derived.Test.YtkejaepmoabikaaGreatDoorPXRBuild
import Derived.Test.YtkejaepmoabikaaGreatDoorP0f
import Derived.Test.YtkejaepmoabikaaGreatDoorP1b
namespace Go.Proofs.YtkejaepmoabikaaGreatDoor.W
open Go.RowKit
open List renaming getElem_toArray → qA, getElem_cons_succ → qB, getElem_cons_zero → qC, setIfInBounds_toArray → qD, set_cons_zero → qE, set_cons_succ → qF
open Lib renaming hid → qH
open _root_.Go.Proofs.Tryz renaming prog → qP
set_option maxHeartbeats 8000000
set_option maxRecDepth 100000
theorem XC (A:Option Addr) (m c:Nat) (id pr:ByteArray) (h:Int) (c1 c2:ByteArray) (c3:Int) (c4:Bool) (e:Int) (w:World) (he:e≠0)
  (C:Hid (∀ W,Aa w W→Calls qP 12 #[.slice A m c,.string id] W fun en w'=>en=.returned (.tuple #[.agg #[.string c1,.string c2,.int .i64 c3,.bool c4],.int .i64 e])∧Aa W w')) :
  Calls qP 80 #[.slice A m c,.string id,.agg #[.int .i64 h,.string pr]] w fun en w'=>en=.returned (.tuple #[.agg #[.int .i64 0,.int .i64 0,.bool false,.slice none 0 0,.slice none 0 0],.string ⟨#[]⟩,.int .i64 e])∧Aa w w':=by
 have hb:(e != 0)=true:=by rw [bne_iff_ne];exact he
 clear he
 have z0:(w.alloc (.cells #[.int .i64 h,.string pr] 58)).heap.size=w.heap.size+1:=by simp
 have A0:=qH ((Blk.new w 58 #[.int .i64 h,.string pr]).alloc (.cells #[.int .i64 0,.int .i64 0,.bool false,.slice none 0 0,.slice none 0 0] 112));have O:=Blk.new (w.alloc (.cells #[.int .i64 h,.string pr] 58)) 112 #[.int .i64 0,.int .i64 0,.bool false,.slice none 0 0,.slice none 0 0];rw [z0] at O;have O0:=qH O;have S0:=qH (Ab (Ab (Aa.refl w) (.cells #[.int .i64 h,.string pr] 58)) (.cells #[.int .i64 0,.int .i64 0,.bool false,.slice none 0 0,.slice none 0 0] 112));clear z0 O;go_enter Tryz.func80,Tryz.ntmps80
 go_wp2_with fail
 refine(C.out _ S0.out).mono ?_;rintro en w1 ⟨rfl,q⟩;have A1':=qH ((A0.out.next q.below).alloc (.cells #[.string c1,.string c2,.int .i64 c3,.bool c4] 41));have O1:=qH ((O0.out.next q.below).alloc (.cells #[.string c1,.string c2,.int .i64 c3,.bool c4] 41));have S1:=qH (Ab (Ac S0.out q) (.cells #[.string c1,.string c2,.int .i64 c3,.bool c4] 41));have C1:=qH (Blk.new w1 41 #[.string c1,.string c2,.int .i64 c3,.bool c4]);clear A0 O0 S0 C q;have d0:(w1.alloc (.cells #[.string c1,.string c2,.int .i64 c3,.bool c4] 41)).cell? ⟨w.heap.size+1,0,none⟩=some (.int .i64 0):=O1.out.c 0 rfl;have d1:(w1.alloc (.cells #[.string c1,.string c2,.int .i64 c3,.bool c4] 41)).cell? ⟨w.heap.size+1,1,none⟩=some (.int .i64 0):=O1.out.c 1 rfl;have d2:(w1.alloc (.cells #[.string c1,.string c2,.int .i64 c3,.bool c4] 41)).cell? ⟨w.heap.size+1,2,none⟩=some (.bool false):=O1.out.c 2 rfl;have d3:(w1.alloc (.cells #[.string c1,.string c2,.int .i64 c3,.bool c4] 41)).cell? ⟨w.heap.size+1,3,none⟩=some (.slice none 0 0):=O1.out.c 3 rfl;have d4:(w1.alloc (.cells #[.string c1,.string c2,.int .i64 c3,.bool c4] 41)).cell? ⟨w.heap.size+1,4,none⟩=some (.slice none 0 0):=O1.out.c 4 rfl;have f0:=O1.out.frozen 0;have f1:=O1.out.frozen 1;have f2:=O1.out.frozen 2;have f3:=O1.out.frozen 3;have f4:=O1.out.frozen 4;have D:=qH (And.intro (CK O1.out (.int .i64 0) (.int .i64 0) (.bool false) (.slice none 0 0) (.slice none 0 0)) (AE (b:=w.heap.size+1) S1.out (by omega) (.int .i64 0) (.int .i64 0) (.bool false) (.slice none 0 0) (.slice none 0 0)));clear A1' O1 S1 C1;go_wp2;have D1:=D.out.1;refine bodyPost_ret (v:=.tuple #[.agg #[.int .i64 0,.int .i64 0,.bool false,.slice none 0 0,.slice none 0 0],.string ⟨#[]⟩,.int .i64 e]) (by simp [results,Tryz.results80,go_sem,D1.c 0 rfl,D1.c 1 rfl,D1.c 2 rfl,D1.c 3 rfl,D1.c 4 rfl]) rfl ?_;exact⟨rfl,D.out.2⟩
theorem XD (A:Option Addr) (m c:Nat) (id pr:ByteArray) (h:Int) (c1 c2:ByteArray) (c3:Int) (w:World)
  (C:Hid (∀ W,Aa w W→Calls qP 12 #[.slice A m c,.string id] W fun en w'=>en=.returned (.tuple #[.agg #[.string c1,.string c2,.int .i64 c3,.bool true],.int .i64 0])∧Aa W w')) :
  Calls qP 80 #[.slice A m c,.string id,.agg #[.int .i64 h,.string pr]] w fun en w'=>en=.returned (.tuple #[.agg #[.int .i64 0,.int .i64 0,.bool false,.slice none 0 0,.slice none 0 0],.string ⟨#[]⟩,.int .i64 12])∧Aa w w':=by
 have z0:(w.alloc (.cells #[.int .i64 h,.string pr] 58)).heap.size=w.heap.size+1:=by simp
 have A0:=qH ((Blk.new w 58 #[.int .i64 h,.string pr]).alloc (.cells #[.int .i64 0,.int .i64 0,.bool false,.slice none 0 0,.slice none 0 0] 112));have O:=Blk.new (w.alloc (.cells #[.int .i64 h,.string pr] 58)) 112 #[.int .i64 0,.int .i64 0,.bool false,.slice none 0 0,.slice none 0 0];rw [z0] at O;have O0:=qH O;have S0:=qH (Ab (Ab (Aa.refl w) (.cells #[.int .i64 h,.string pr] 58)) (.cells #[.int .i64 0,.int .i64 0,.bool false,.slice none 0 0,.slice none 0 0] 112));clear z0 O;go_enter Tryz.func80,Tryz.ntmps80
 go_wp2_with fail
 refine(C.out _ S0.out).mono ?_;rintro en w1 ⟨rfl,q⟩;have A1':=qH ((A0.out.next q.below).alloc (.cells #[.string c1,.string c2,.int .i64 c3,.bool true] 41));have O1:=qH ((O0.out.next q.below).alloc (.cells #[.string c1,.string c2,.int .i64 c3,.bool true] 41));have S1:=qH (Ab (Ac S0.out q) (.cells #[.string c1,.string c2,.int .i64 c3,.bool true] 41));have C1:=qH (Blk.new w1 41 #[.string c1,.string c2,.int .i64 c3,.bool true]);clear A0 O0 S0 C q;have d0:(w1.alloc (.cells #[.string c1,.string c2,.int .i64 c3,.bool true] 41)).cell? ⟨w.heap.size+1,0,none⟩=some (.int .i64 0):=O1.out.c 0 rfl;have d1:(w1.alloc (.cells #[.string c1,.string c2,.int .i64 c3,.bool true] 41)).cell? ⟨w.heap.size+1,1,none⟩=some (.int .i64 0):=O1.out.c 1 rfl;have d2:(w1.alloc (.cells #[.string c1,.string c2,.int .i64 c3,.bool true] 41)).cell? ⟨w.heap.size+1,2,none⟩=some (.bool false):=O1.out.c 2 rfl;have d3:(w1.alloc (.cells #[.string c1,.string c2,.int .i64 c3,.bool true] 41)).cell? ⟨w.heap.size+1,3,none⟩=some (.slice none 0 0):=O1.out.c 3 rfl;have d4:(w1.alloc (.cells #[.string c1,.string c2,.int .i64 c3,.bool true] 41)).cell? ⟨w.heap.size+1,4,none⟩=some (.slice none 0 0):=O1.out.c 4 rfl;have f0:=O1.out.frozen 0;have f1:=O1.out.frozen 1;have f2:=O1.out.frozen 2;have f3:=O1.out.frozen 3;have f4:=O1.out.frozen 4;have y3:(w1.alloc (.cells #[.string c1,.string c2,.int .i64 c3,.bool true] 41)).cell? ⟨w1.heap.size,3,none⟩=some (.bool true):=C1.out.c 3 rfl;have D:=qH (And.intro (CK O1.out (.int .i64 0) (.int .i64 0) (.bool false) (.slice none 0 0) (.slice none 0 0)) (AE (b:=w.heap.size+1) S1.out (by omega) (.int .i64 0) (.int .i64 0) (.bool false) (.slice none 0 0) (.slice none 0 0)));clear A1' O1 S1 C1;go_wp2;have D1:=D.out.1;refine bodyPost_ret (v:=.tuple #[.agg #[.int .i64 0,.int .i64 0,.bool false,.slice none 0 0,.slice none 0 0],.string ⟨#[]⟩,.int .i64 12]) (by simp [results,Tryz.results80,go_sem,D1.c 0 rfl,D1.c 1 rfl,D1.c 2 rfl,D1.c 3 rfl,D1.c 4 rfl]) rfl ?_;exact⟨rfl,D.out.2⟩
theorem XE (A:Option Addr) (m c:Nat) (id pr:ByteArray) (h:Int) (c1 c2:ByteArray) (c3:Int) (x1:Int) (x2:ByteArray) (e:Int) (w:World) (he:e≠0)
  (C:Hid (∀ W,Aa w W→Calls qP 12 #[.slice A m c,.string id] W fun en w'=>en=.returned (.tuple #[.agg #[.string c1,.string c2,.int .i64 c3,.bool false],.int .i64 0])∧Aa W w'))
  (X:Hid (∀ W,Aa w W→Calls qP 32 #[.slice A m c,.string id,.int .i64 h] W fun en w'=>en=.returned (.tuple #[.agg #[.int .i64 x1,.string x2],.int .i64 e])∧Aa W w')) :
  Calls qP 80 #[.slice A m c,.string id,.agg #[.int .i64 h,.string pr]] w fun en w'=>en=.returned (.tuple #[.agg #[.int .i64 0,.int .i64 0,.bool false,.slice none 0 0,.slice none 0 0],.string ⟨#[]⟩,.int .i64 e])∧Aa w w':=by
 have hb:(e != 0)=true:=by rw [bne_iff_ne];exact he
 clear he
 have z0:(w.alloc (.cells #[.int .i64 h,.string pr] 58)).heap.size=w.heap.size+1:=by simp
 have A0:=qH ((Blk.new w 58 #[.int .i64 h,.string pr]).alloc (.cells #[.int .i64 0,.int .i64 0,.bool false,.slice none 0 0,.slice none 0 0] 112));have O:=Blk.new (w.alloc (.cells #[.int .i64 h,.string pr] 58)) 112 #[.int .i64 0,.int .i64 0,.bool false,.slice none 0 0,.slice none 0 0];rw [z0] at O;have O0:=qH O;have S0:=qH (Ab (Ab (Aa.refl w) (.cells #[.int .i64 h,.string pr] 58)) (.cells #[.int .i64 0,.int .i64 0,.bool false,.slice none 0 0,.slice none 0 0] 112));clear z0 O;go_enter Tryz.func80,Tryz.ntmps80
 go_wp2_with fail
 refine(C.out _ S0.out).mono ?_;rintro en w1 ⟨rfl,q⟩;have A1':=qH ((A0.out.next q.below).alloc (.cells #[.string c1,.string c2,.int .i64 c3,.bool false] 41));have O1:=qH ((O0.out.next q.below).alloc (.cells #[.string c1,.string c2,.int .i64 c3,.bool false] 41));have S1:=qH (Ab (Ac S0.out q) (.cells #[.string c1,.string c2,.int .i64 c3,.bool false] 41));have C1:=qH (Blk.new w1 41 #[.string c1,.string c2,.int .i64 c3,.bool false]);clear A0 O0 S0 C q;have y3:(w1.alloc (.cells #[.string c1,.string c2,.int .i64 c3,.bool false] 41)).cell? ⟨w1.heap.size,3,none⟩=some (.bool false):=C1.out.c 3 rfl;have a0:(w1.alloc (.cells #[.string c1,.string c2,.int .i64 c3,.bool false] 41)).cell? ⟨w.heap.size,0,none⟩=some (.int .i64 h):=A1'.out.c 0 rfl
 go_wp2_with fail
 clear y3 a0;refine(X.out _ S1.out).mono ?_;rintro en w2 ⟨rfl,q⟩;have n2:w.heap.size+1≠w2.heap.size:=Nat.ne_of_lt (Nat.lt_of_lt_of_le O1.out.lt q.below.size);have A2':=qH ((A1'.out.next q.below).alloc (.cells #[.int .i64 x1,.string x2] 62));have O2:=qH ((O1.out.next q.below).alloc (.cells #[.int .i64 x1,.string x2] 62));have S2:=qH (Ab (Ac S1.out q) (.cells #[.int .i64 x1,.string x2] 62));have X2:=qH (Blk.new w2 62 #[.int .i64 x1,.string x2]);clear A1' O1 S1 C1 X q;have d0:(w2.alloc (.cells #[.int .i64 x1,.string x2] 62)).cell? ⟨w.heap.size+1,0,none⟩=some (.int .i64 0):=O2.out.c 0 rfl;have d1:(w2.alloc (.cells #[.int .i64 x1,.string x2] 62)).cell? ⟨w.heap.size+1,1,none⟩=some (.int .i64 0):=O2.out.c 1 rfl;have d2:(w2.alloc (.cells #[.int .i64 x1,.string x2] 62)).cell? ⟨w.heap.size+1,2,none⟩=some (.bool false):=O2.out.c 2 rfl;have d3:(w2.alloc (.cells #[.int .i64 x1,.string x2] 62)).cell? ⟨w.heap.size+1,3,none⟩=some (.slice none 0 0):=O2.out.c 3 rfl;have d4:(w2.alloc (.cells #[.int .i64 x1,.string x2] 62)).cell? ⟨w.heap.size+1,4,none⟩=some (.slice none 0 0):=O2.out.c 4 rfl;have f0:=O2.out.frozen 0;have f1:=O2.out.frozen 1;have f2:=O2.out.frozen 2;have f3:=O2.out.frozen 3;have f4:=O2.out.frozen 4;have D:=qH (And.intro (CK O2.out (.int .i64 0) (.int .i64 0) (.bool false) (.slice none 0 0) (.slice none 0 0)) (AE (b:=w.heap.size+1) S2.out (by omega) (.int .i64 0) (.int .i64 0) (.bool false) (.slice none 0 0) (.slice none 0 0)));clear A2' O2 S2 X2;go_wp2;have D1:=D.out.1;refine bodyPost_ret (v:=.tuple #[.agg #[.int .i64 0,.int .i64 0,.bool false,.slice none 0 0,.slice none 0 0],.string ⟨#[]⟩,.int .i64 e]) (by simp [results,Tryz.results80,go_sem,D1.c 0 rfl,D1.c 1 rfl,D1.c 2 rfl,D1.c 3 rfl,D1.c 4 rfl]) rfl ?_;exact⟨rfl,D.out.2⟩
theorem XF (A:Option Addr) (m c:Nat) (id pr:ByteArray) (h:Int) (c1 c2:ByteArray) (c3:Int) (x1:Int) (x2:ByteArray) (x:Pf) (e:Int) (w:World) (he:e≠0)
  (C:Hid (∀ W,Aa w W→Calls qP 12 #[.slice A m c,.string id] W fun en w'=>en=.returned (.tuple #[.agg #[.string c1,.string c2,.int .i64 c3,.bool false],.int .i64 0])∧Aa W w'))
  (X:Hid (∀ W,Aa w W→Calls qP 32 #[.slice A m c,.string id,.int .i64 h] W fun en w'=>en=.returned (.tuple #[.agg #[.int .i64 x1,.string x2],.int .i64 0])∧Aa W w'))
  (R:Hid (∀ W,Aa w W→Calls qP 129 #[.string pr] W fun en w'=>∃ n pos there A1 m1 k1 A2 m2 k2,en=.returned (.tuple #[.agg #[.int .i64 n,.int .i64 pos,.bool there,.slice A1 m1 k1,.slice A2 m2 k2],.int .i64 e])∧Prf w' (.agg #[.int .i64 n,.int .i64 pos,.bool there,.slice A1 m1 k1,.slice A2 m2 k2]) x∧Aa W w'∧BP W.heap.size (.agg #[.int .i64 n,.int .i64 pos,.bool there,.slice A1 m1 k1,.slice A2 m2 k2]))) :
  Calls qP 80 #[.slice A m c,.string id,.agg #[.int .i64 h,.string pr]] w fun en w'=>en=.returned (.tuple #[.agg #[.int .i64 0,.int .i64 0,.bool false,.slice none 0 0,.slice none 0 0],.string ⟨#[]⟩,.int .i64 11])∧Aa w w':=by
 have hb:(e != 0)=true:=by rw [bne_iff_ne];exact he
 clear he
 have z0:(w.alloc (.cells #[.int .i64 h,.string pr] 58)).heap.size=w.heap.size+1:=by simp
 have A0:=qH ((Blk.new w 58 #[.int .i64 h,.string pr]).alloc (.cells #[.int .i64 0,.int .i64 0,.bool false,.slice none 0 0,.slice none 0 0] 112));have O:=Blk.new (w.alloc (.cells #[.int .i64 h,.string pr] 58)) 112 #[.int .i64 0,.int .i64 0,.bool false,.slice none 0 0,.slice none 0 0];rw [z0] at O;have O0:=qH O;have S0:=qH (Ab (Ab (Aa.refl w) (.cells #[.int .i64 h,.string pr] 58)) (.cells #[.int .i64 0,.int .i64 0,.bool false,.slice none 0 0,.slice none 0 0] 112));clear z0 O;go_enter Tryz.func80,Tryz.ntmps80
 go_wp2_with fail
 refine(C.out _ S0.out).mono ?_;rintro en w1 ⟨rfl,q⟩;have A1':=qH ((A0.out.next q.below).alloc (.cells #[.string c1,.string c2,.int .i64 c3,.bool false] 41));have O1:=qH ((O0.out.next q.below).alloc (.cells #[.string c1,.string c2,.int .i64 c3,.bool false] 41));have S1:=qH (Ab (Ac S0.out q) (.cells #[.string c1,.string c2,.int .i64 c3,.bool false] 41));have C1:=qH (Blk.new w1 41 #[.string c1,.string c2,.int .i64 c3,.bool false]);clear A0 O0 S0 C q;have y3:(w1.alloc (.cells #[.string c1,.string c2,.int .i64 c3,.bool false] 41)).cell? ⟨w1.heap.size,3,none⟩=some (.bool false):=C1.out.c 3 rfl;have a0:(w1.alloc (.cells #[.string c1,.string c2,.int .i64 c3,.bool false] 41)).cell? ⟨w.heap.size,0,none⟩=some (.int .i64 h):=A1'.out.c 0 rfl
 go_wp2_with fail
 clear y3 a0;refine(X.out _ S1.out).mono ?_;rintro en w2 ⟨rfl,q⟩;have n2:w.heap.size+1≠w2.heap.size:=Nat.ne_of_lt (Nat.lt_of_lt_of_le O1.out.lt q.below.size);have A2':=qH ((A1'.out.next q.below).alloc (.cells #[.int .i64 x1,.string x2] 62));have O2:=qH ((O1.out.next q.below).alloc (.cells #[.int .i64 x1,.string x2] 62));have S2:=qH (Ab (Ac S1.out q) (.cells #[.int .i64 x1,.string x2] 62));have X2:=qH (Blk.new w2 62 #[.int .i64 x1,.string x2]);clear A1' O1 S1 C1 X q;have a1:(w2.alloc (.cells #[.int .i64 x1,.string x2] 62)).cell? ⟨w.heap.size,1,none⟩=some (.string pr):=A2'.out.c 1 rfl
 go_wp2_with fail
 clear a1;refine(R.out _ S2.out).mono ?_;rintro en w3 ⟨n,pos,there,A1,m1,k1,A2,m2,k2,rfl,hP,q,hF⟩;have FR:=qH hF;have nb:w.heap.size+1<(w2.alloc (.cells #[.int .i64 x1,.string x2] 62)).heap.size:=O2.out.lt;clear hF;have O3:=qH ((O2.out.next q.below).alloc (.cells #[.int .i64 n,.int .i64 pos,.bool there,.slice A1 m1 k1,.slice A2 m2 k2] 112));have X3:=qH ((X2.out.next q.below).alloc (.cells #[.int .i64 n,.int .i64 pos,.bool there,.slice A1 m1 k1,.slice A2 m2 k2] 112));have S3:=qH (Ab (Ac S2.out q) (.cells #[.int .i64 n,.int .i64 pos,.bool there,.slice A1 m1 k1,.slice A2 m2 k2] 112));have Q3:=qH (Blk.new w3 112 #[.int .i64 n,.int .i64 pos,.bool there,.slice A1 m1 k1,.slice A2 m2 k2]);have P3:=qH (hP.below ((Below.refl _ w3).alloc (Nat.le_refl _) (.cells #[.int .i64 n,.int .i64 pos,.bool there,.slice A1 m1 k1,.slice A2 m2 k2] 112)));clear A2' O2 S2 X2 R q hP;have d0:(w3.alloc (.cells #[.int .i64 n,.int .i64 pos,.bool there,.slice A1 m1 k1,.slice A2 m2 k2] 112)).cell? ⟨w.heap.size+1,0,none⟩=some (.int .i64 0):=O3.out.c 0 rfl;have d1:(w3.alloc (.cells #[.int .i64 n,.int .i64 pos,.bool there,.slice A1 m1 k1,.slice A2 m2 k2] 112)).cell? ⟨w.heap.size+1,1,none⟩=some (.int .i64 0):=O3.out.c 1 rfl;have d2:(w3.alloc (.cells #[.int .i64 n,.int .i64 pos,.bool there,.slice A1 m1 k1,.slice A2 m2 k2] 112)).cell? ⟨w.heap.size+1,2,none⟩=some (.bool false):=O3.out.c 2 rfl;have d3:(w3.alloc (.cells #[.int .i64 n,.int .i64 pos,.bool there,.slice A1 m1 k1,.slice A2 m2 k2] 112)).cell? ⟨w.heap.size+1,3,none⟩=some (.slice none 0 0):=O3.out.c 3 rfl;have d4:(w3.alloc (.cells #[.int .i64 n,.int .i64 pos,.bool there,.slice A1 m1 k1,.slice A2 m2 k2] 112)).cell? ⟨w.heap.size+1,4,none⟩=some (.slice none 0 0):=O3.out.c 4 rfl;have f0:=O3.out.frozen 0;have f1:=O3.out.frozen 1;have f2:=O3.out.frozen 2;have f3:=O3.out.frozen 3;have f4:=O3.out.frozen 4
 have D:=qH (And.intro (CK O3.out (.int .i64 0) (.int .i64 0) (.bool false) (.slice none 0 0) (.slice none 0 0)) (AE (b:=w.heap.size+1) S3.out (by omega) (.int .i64 0) (.int .i64 0) (.bool false) (.slice none 0 0) (.slice none 0 0)));clear O3 S3 X3 Q3 P3;go_wp2;have D1:=D.out.1;refine bodyPost_ret (v:=.tuple #[.agg #[.int .i64 0,.int .i64 0,.bool false,.slice none 0 0,.slice none 0 0],.string ⟨#[]⟩,.int .i64 11]) (by simp [results,Tryz.results80,go_sem,D1.c 0 rfl,D1.c 1 rfl,D1.c 2 rfl,D1.c 3 rfl,D1.c 4 rfl]) rfl ?_;exact⟨rfl,D.out.2⟩
theorem XG (A:Option Addr) (m c:Nat) (id pr:ByteArray) (h:Int) (c1 c2:ByteArray) (c3:Int) (x1:Int) (x2:ByteArray) (x:Pf) (w:World)
  (C:Hid (∀ W,Aa w W→Calls qP 12 #[.slice A m c,.string id] W fun en w'=>en=.returned (.tuple #[.agg #[.string c1,.string c2,.int .i64 c3,.bool false],.int .i64 0])∧Aa W w'))
  (X:Hid (∀ W,Aa w W→Calls qP 32 #[.slice A m c,.string id,.int .i64 h] W fun en w'=>en=.returned (.tuple #[.agg #[.int .i64 x1,.string x2],.int .i64 0])∧Aa W w'))
  (R:Hid (∀ W,Aa w W→Calls qP 129 #[.string pr] W fun en w'=>∃ n pos there A1 m1 k1 A2 m2 k2,en=.returned (.tuple #[.agg #[.int .i64 n,.int .i64 pos,.bool there,.slice A1 m1 k1,.slice A2 m2 k2],.int .i64 0])∧Prf w' (.agg #[.int .i64 n,.int .i64 pos,.bool there,.slice A1 m1 k1,.slice A2 m2 k2]) x∧Aa W w'∧BP W.heap.size (.agg #[.int .i64 n,.int .i64 pos,.bool there,.slice A1 m1 k1,.slice A2 m2 k2]))) :
  Calls qP 80 #[.slice A m c,.string id,.agg #[.int .i64 h,.string pr]] w fun en w'=>∃ v,en=.returned (.tuple #[v,.string x2,.int .i64 0])∧Prf w' v x∧Aa w w':=by
 have z0:(w.alloc (.cells #[.int .i64 h,.string pr] 58)).heap.size=w.heap.size+1:=by simp
 have A0:=qH ((Blk.new w 58 #[.int .i64 h,.string pr]).alloc (.cells #[.int .i64 0,.int .i64 0,.bool false,.slice none 0 0,.slice none 0 0] 112));have O:=Blk.new (w.alloc (.cells #[.int .i64 h,.string pr] 58)) 112 #[.int .i64 0,.int .i64 0,.bool false,.slice none 0 0,.slice none 0 0];rw [z0] at O;have O0:=qH O;have S0:=qH (Ab (Ab (Aa.refl w) (.cells #[.int .i64 h,.string pr] 58)) (.cells #[.int .i64 0,.int .i64 0,.bool false,.slice none 0 0,.slice none 0 0] 112));clear z0 O;go_enter Tryz.func80,Tryz.ntmps80
 go_wp2_with fail
 refine(C.out _ S0.out).mono ?_;rintro en w1 ⟨rfl,q⟩;have A1':=qH ((A0.out.next q.below).alloc (.cells #[.string c1,.string c2,.int .i64 c3,.bool false] 41));have O1:=qH ((O0.out.next q.below).alloc (.cells #[.string c1,.string c2,.int .i64 c3,.bool false] 41));have S1:=qH (Ab (Ac S0.out q) (.cells #[.string c1,.string c2,.int .i64 c3,.bool false] 41));have C1:=qH (Blk.new w1 41 #[.string c1,.string c2,.int .i64 c3,.bool false]);clear A0 O0 S0 C q;have y3:(w1.alloc (.cells #[.string c1,.string c2,.int .i64 c3,.bool false] 41)).cell? ⟨w1.heap.size,3,none⟩=some (.bool false):=C1.out.c 3 rfl;have a0:(w1.alloc (.cells #[.string c1,.string c2,.int .i64 c3,.bool false] 41)).cell? ⟨w.heap.size,0,none⟩=some (.int .i64 h):=A1'.out.c 0 rfl
 go_wp2_with fail
 clear y3 a0;refine(X.out _ S1.out).mono ?_;rintro en w2 ⟨rfl,q⟩;have n2:w.heap.size+1≠w2.heap.size:=Nat.ne_of_lt (Nat.lt_of_lt_of_le O1.out.lt q.below.size);have A2':=qH ((A1'.out.next q.below).alloc (.cells #[.int .i64 x1,.string x2] 62));have O2:=qH ((O1.out.next q.below).alloc (.cells #[.int .i64 x1,.string x2] 62));have S2:=qH (Ab (Ac S1.out q) (.cells #[.int .i64 x1,.string x2] 62));have X2:=qH (Blk.new w2 62 #[.int .i64 x1,.string x2]);clear A1' O1 S1 C1 X q;have a1:(w2.alloc (.cells #[.int .i64 x1,.string x2] 62)).cell? ⟨w.heap.size,1,none⟩=some (.string pr):=A2'.out.c 1 rfl
 go_wp2_with fail
 clear a1;refine(R.out _ S2.out).mono ?_;rintro en w3 ⟨n,pos,there,A1,m1,k1,A2,m2,k2,rfl,hP,q,hF⟩;have FR:=qH hF;have nb:w.heap.size+1<(w2.alloc (.cells #[.int .i64 x1,.string x2] 62)).heap.size:=O2.out.lt;clear hF;have O3:=qH ((O2.out.next q.below).alloc (.cells #[.int .i64 n,.int .i64 pos,.bool there,.slice A1 m1 k1,.slice A2 m2 k2] 112));have X3:=qH ((X2.out.next q.below).alloc (.cells #[.int .i64 n,.int .i64 pos,.bool there,.slice A1 m1 k1,.slice A2 m2 k2] 112));have S3:=qH (Ab (Ac S2.out q) (.cells #[.int .i64 n,.int .i64 pos,.bool there,.slice A1 m1 k1,.slice A2 m2 k2] 112));have Q3:=qH (Blk.new w3 112 #[.int .i64 n,.int .i64 pos,.bool there,.slice A1 m1 k1,.slice A2 m2 k2]);have P3:=qH (hP.below ((Below.refl _ w3).alloc (Nat.le_refl _) (.cells #[.int .i64 n,.int .i64 pos,.bool there,.slice A1 m1 k1,.slice A2 m2 k2] 112)));clear A2' O2 S2 X2 R q hP;have d0:(w3.alloc (.cells #[.int .i64 n,.int .i64 pos,.bool there,.slice A1 m1 k1,.slice A2 m2 k2] 112)).cell? ⟨w.heap.size+1,0,none⟩=some (.int .i64 0):=O3.out.c 0 rfl;have d1:(w3.alloc (.cells #[.int .i64 n,.int .i64 pos,.bool there,.slice A1 m1 k1,.slice A2 m2 k2] 112)).cell? ⟨w.heap.size+1,1,none⟩=some (.int .i64 0):=O3.out.c 1 rfl;have d2:(w3.alloc (.cells #[.int .i64 n,.int .i64 pos,.bool there,.slice A1 m1 k1,.slice A2 m2 k2] 112)).cell? ⟨w.heap.size+1,2,none⟩=some (.bool false):=O3.out.c 2 rfl;have d3:(w3.alloc (.cells #[.int .i64 n,.int .i64 pos,.bool there,.slice A1 m1 k1,.slice A2 m2 k2] 112)).cell? ⟨w.heap.size+1,3,none⟩=some (.slice none 0 0):=O3.out.c 3 rfl;have d4:(w3.alloc (.cells #[.int .i64 n,.int .i64 pos,.bool there,.slice A1 m1 k1,.slice A2 m2 k2] 112)).cell? ⟨w.heap.size+1,4,none⟩=some (.slice none 0 0):=O3.out.c 4 rfl;have f0:=O3.out.frozen 0;have f1:=O3.out.frozen 1;have f2:=O3.out.frozen 2;have f3:=O3.out.frozen 3;have f4:=O3.out.frozen 4
 have p0:(w3.alloc (.cells #[.int .i64 n,.int .i64 pos,.bool there,.slice A1 m1 k1,.slice A2 m2 k2] 112)).cell? ⟨w3.heap.size,0,none⟩=some (.int .i64 n):=Q3.out.c 0 rfl;have p1:(w3.alloc (.cells #[.int .i64 n,.int .i64 pos,.bool there,.slice A1 m1 k1,.slice A2 m2 k2] 112)).cell? ⟨w3.heap.size,1,none⟩=some (.int .i64 pos):=Q3.out.c 1 rfl;have p2:(w3.alloc (.cells #[.int .i64 n,.int .i64 pos,.bool there,.slice A1 m1 k1,.slice A2 m2 k2] 112)).cell? ⟨w3.heap.size,2,none⟩=some (.bool there):=Q3.out.c 2 rfl;have p3:(w3.alloc (.cells #[.int .i64 n,.int .i64 pos,.bool there,.slice A1 m1 k1,.slice A2 m2 k2] 112)).cell? ⟨w3.heap.size,3,none⟩=some (.slice A1 m1 k1):=Q3.out.c 3 rfl;have p4:(w3.alloc (.cells #[.int .i64 n,.int .i64 pos,.bool there,.slice A1 m1 k1,.slice A2 m2 k2] 112)).cell? ⟨w3.heap.size,4,none⟩=some (.slice A2 m2 k2):=Q3.out.c 4 rfl;have b1:(w3.alloc (.cells #[.int .i64 n,.int .i64 pos,.bool there,.slice A1 m1 k1,.slice A2 m2 k2] 112)).cell? ⟨w2.heap.size,1,none⟩=some (.string x2):=X3.out.c 1 rfl;have D:=qH (And.intro (CK O3.out (.int .i64 n) (.int .i64 pos) (.bool there) (.slice A1 m1 k1) (.slice A2 m2 k2)) (AE (b:=w.heap.size+1) S3.out (by omega) (.int .i64 n) (.int .i64 pos) (.bool there) (.slice A1 m1 k1) (.slice A2 m2 k2)));have X4:=IN X3.out n2.symm (.int .i64 n) (.int .i64 pos) (.bool there) (.slice A1 m1 k1) (.slice A2 m2 k2);have b2:=X4.c 1 (v:=.string x2) rfl;have P4:=qH (P3.out.kept5 FR.out nb O3.out (.int .i64 n) (.int .i64 pos) (.bool there) (.slice A1 m1 k1) (.slice A2 m2 k2));clear S3 X3 Q3 O3 X4 n2 nb P3 FR
 go_wp2_with fail
 generalize w3.alloc (.cells #[.int .i64 n,.int .i64 pos,.bool there,.slice A1 m1 k1,.slice A2 m2 k2] 112)=V at *
 go_region
 all_goals go_wp2
 all_goals have D1:=CL D.out.1
 all_goals refine bodyPost_ret (v:=.tuple #[.agg #[.int .i64 n,.int .i64 pos,.bool there,.slice A1 m1 k1,.slice A2 m2 k2],.string x2,.int .i64 0]) (by simp [results,Tryz.results80,go_sem,D1.c 0 rfl,D1.c 1 rfl,D1.c 2 rfl,D1.c 3 rfl,D1.c 4 rfl]) rfl ?_
 all_goals exact⟨_,rfl,PR P4.out,Bg D.out.2⟩
section
variable {s:Value} {L:List KV} {w:World}
theorem ZX (hP:Prs w s L) (hu:Up L) (hz:L.length≤1000000000) (hL:BD L) (id:ByteArray) (hid:id.size≤1000000) (h:Int) (pr:ByteArray) (hpr:pr.size≤9223372036854775807) :
  Calls qP 80 #[s,.string id,.agg #[.int .i64 h,.string pr]] w fun en w'=>∃ v,en=.returned (.tuple #[v,.string (AX L id h pr).1.2,.int .i64 (AX L id h pr).2])∧Prf w' v (AX L id h pr).1.1∧Aa w w':=by
 have C:=qH (fun W (hW:Aa w W)=>Nt (hP.below hW.below) hu hz hL id hid);have X:=qH (fun W (hW:Aa w W)=>Ro (hP.below hW.below) hu hz hL id hid h);have R:=qH (fun W (_:Aa w W)=>eU pr W hpr);unfold AX;obtain⟨A,c,rfl,_,_⟩:=hP;unfold Cb FZ at C;unfold Ck snV at X;obtain⟨⟨⟨c1,c2,c3,c4⟩,e⟩,hc⟩:∃ x,AA L id=x:=⟨_,rfl⟩;obtain⟨⟨⟨x1,x2⟩,f⟩,hx⟩:∃ x,Dn L id h=x:=⟨_,rfl⟩;obtain⟨⟨p,g⟩,hg⟩:∃ x,FU pr=x:=⟨_,rfl⟩;rw [hc] at C;rw [hx] at X;rw [hg] at R;rw [hc,hx,hg];simp only at C X R ⊢;have zero:∀ {er:Int} {e:Ending} {w':World},e=.returned (.tuple #[.agg #[.int .i64 0,.int .i64 0,.bool false,.slice none 0 0,.slice none 0 0],.string ⟨#[]⟩,.int .i64 er])∧Aa w w'→∃ v,e=.returned (.tuple #[v,.string ⟨#[]⟩,.int .i64 er])∧Prf w' v Pf.zero∧Aa w w':=fun⟨he,hs⟩=>⟨_,he,Prf.zero _,hs⟩;by_cases he:e=0
 ·subst he
  rw [if_neg (by simp)]
  cases c4 with
  | true =>
    rw [if_pos rfl];exact(XD A _ c id pr h c1 c2 c3 w C).mono fun _ _ k=>zero k
  | false =>
    rw [if_neg (by simp)];by_cases hf:f=0
    ·subst hf
     rw [if_neg (by simp)]
     have R2:=qH (fun W hW=>(R.out W hW).mono fun en w' (k:∃ v,en=.returned (.tuple #[v,.int .i64 g])∧Prf w' v p∧Aa W w'∧BP W.heap.size v)=>show ∃ n pos there A1 m1 k1 A2 m2 k2,en=.returned (.tuple #[.agg #[.int .i64 n,.int .i64 pos,.bool there,.slice A1 m1 k1,.slice A2 m2 k2],.int .i64 g])∧Prf w' (.agg #[.int .i64 n,.int .i64 pos,.bool there,.slice A1 m1 k1,.slice A2 m2 k2]) p∧Aa W w'∧BP W.heap.size (.agg #[.int .i64 n,.int .i64 pos,.bool there,.slice A1 m1 k1,.slice A2 m2 k2]) from by
      obtain⟨v,k1,k2,k3,k4⟩:=k;have k2':=k2;obtain⟨nv,pv,rfl,⟨B1,r1,rfl,_,_⟩,⟨B2,r2,rfl,_,_⟩⟩:=k2'
      exact⟨_,_,_,_,_,_,_,_,_,k1,k2,k3,k4⟩)
     by_cases hgz:g=0
     ·subst hgz
      rw [if_neg (by simp)];exact XG A _ c id pr h c1 c2 c3 x1 x2 p w C X R2
     ·rw [if_pos hgz]
      exact(XF A _ c id pr h c1 c2 c3 x1 x2 p g w hgz C X R2).mono fun _ _ k=>zero k
    ·rw [if_pos hf]
     exact(XE A _ c id pr h c1 c2 c3 x1 x2 f w hf C X).mono fun _ _ k=>zero k
 ·rw [if_pos he]
  exact(XC A _ c id pr h c1 c2 c3 c4 e w he C).mono fun _ _ k=>zero k
end
theorem Vi (A:Option Addr) (m c:Nat) (id pr root:ByteArray) (h:Int) (p1 p2:ByteArray) (x:Pf) (e:Int) (b:Bool) (w:World)
  (OP:Hid (∀ W,Aa w W→Calls qP 80 #[.slice A m c,.string id,.agg #[.int .i64 h,.string pr]] W fun en w'=>∃ n pos there A1 m1 k1 A2 m2 k2,en=.returned (.tuple #[.agg #[.int .i64 n,.int .i64 pos,.bool there,.slice A1 m1 k1,.slice A2 m2 k2],.string root,.int .i64 e])∧Prf w' (.agg #[.int .i64 n,.int .i64 pos,.bool there,.slice A1 m1 k1,.slice A2 m2 k2]) x∧Aa W w'))
  (TL:Hid (∀ W n pos there A1 m1 k1 A2 m2 k2,Aa w W→Prf W (.agg #[.int .i64 n,.int .i64 pos,.bool there,.slice A1 m1 k1,.slice A2 m2 k2]) x→Calls qP 81 #[.string root,.agg #[.string p1,.string p2],.agg #[.int .i64 n,.int .i64 pos,.bool there,.slice A1 m1 k1,.slice A2 m2 k2]] W fun en w'=>∃ B q r,en=.returned (.tuple #[.bool b,.slice B q r])∧Aa W w')) :
  Calls qP 30 #[.slice A m c,.string id,.agg #[.int .i64 h,.string pr],.agg #[.string p1,.string p2]] w fun en w'=>en=.returned (.int .i64 (if e≠0 then e else if b=true then 0 else 11))∧Aa w w':=by
 obtain⟨ans,hr⟩:∃ y:Int,y=(if e≠0 then e else if b=true then 0 else 11):=⟨_,rfl⟩;rw [←hr];have HR:=qH hr;clear hr
 have z0:(w.alloc (.cells #[.int .i64 h,.string pr] 58)).heap.size=w.heap.size+1:=by simp
 have Q:=Blk.new (w.alloc (.cells #[.int .i64 h,.string pr] 58)) 36 #[.string p1,.string p2];rw [z0] at Q;have Q0:=qH Q;have A0:=qH ((Blk.new w 58 #[.int .i64 h,.string pr]).alloc (.cells #[.string p1,.string p2] 36));have S0:=qH (Ab (Ab (Aa.refl w) (.cells #[.int .i64 h,.string pr] 58)) (.cells #[.string p1,.string p2] 36));clear z0 Q;have a0:((w.alloc (.cells #[.int .i64 h,.string pr] 58)).alloc (.cells #[.string p1,.string p2] 36)).cell? ⟨w.heap.size,0,none⟩=some (.int .i64 h):=A0.out.c 0 rfl;have a1:((w.alloc (.cells #[.int .i64 h,.string pr] 58)).alloc (.cells #[.string p1,.string p2] 36)).cell? ⟨w.heap.size,1,none⟩=some (.string pr):=A0.out.c 1 rfl;go_enter Tryz.func30,Tryz.ntmps30
 go_wp2_with fail
 clear a0 a1;refine(OP.out _ S0.out).mono ?_;rintro en w1 ⟨n,pos,there,A1,m1,k1,A2,m2,k2,rfl,hP,q⟩;have B1:=qH (Blk.new w1 112 #[.int .i64 n,.int .i64 pos,.bool there,.slice A1 m1 k1,.slice A2 m2 k2]);have S1:=qH (Ab (Ac S0.out q) (.cells #[.int .i64 n,.int .i64 pos,.bool there,.slice A1 m1 k1,.slice A2 m2 k2] 112));have P1:=qH (hP.below ((Below.refl _ w1).alloc (Nat.le_refl _) (.cells #[.int .i64 n,.int .i64 pos,.bool there,.slice A1 m1 k1,.slice A2 m2 k2] 112)));have Q1:=qH ((Q0.out.next q.below).alloc (.cells #[.int .i64 n,.int .i64 pos,.bool there,.slice A1 m1 k1,.slice A2 m2 k2] 112));clear Q0;clear A0 S0 OP q hP;by_cases he:e=0
 ·subst he
  have y0:(w1.alloc (.cells #[.int .i64 n,.int .i64 pos,.bool there,.slice A1 m1 k1,.slice A2 m2 k2] 112)).cell? ⟨w1.heap.size,0,none⟩=some (.int .i64 n):=B1.out.c 0 rfl;have y1:(w1.alloc (.cells #[.int .i64 n,.int .i64 pos,.bool there,.slice A1 m1 k1,.slice A2 m2 k2] 112)).cell? ⟨w1.heap.size,1,none⟩=some (.int .i64 pos):=B1.out.c 1 rfl;have y2:(w1.alloc (.cells #[.int .i64 n,.int .i64 pos,.bool there,.slice A1 m1 k1,.slice A2 m2 k2] 112)).cell? ⟨w1.heap.size,2,none⟩=some (.bool there):=B1.out.c 2 rfl;have y3:(w1.alloc (.cells #[.int .i64 n,.int .i64 pos,.bool there,.slice A1 m1 k1,.slice A2 m2 k2] 112)).cell? ⟨w1.heap.size,3,none⟩=some (.slice A1 m1 k1):=B1.out.c 3 rfl;have y4:(w1.alloc (.cells #[.int .i64 n,.int .i64 pos,.bool there,.slice A1 m1 k1,.slice A2 m2 k2] 112)).cell? ⟨w1.heap.size,4,none⟩=some (.slice A2 m2 k2):=B1.out.c 4 rfl;have z0:(w1.alloc (.cells #[.int .i64 n,.int .i64 pos,.bool there,.slice A1 m1 k1,.slice A2 m2 k2] 112)).cell? ⟨w.heap.size+1,0,none⟩=some (.string p1):=Q1.out.c 0 rfl;have z1:(w1.alloc (.cells #[.int .i64 n,.int .i64 pos,.bool there,.slice A1 m1 k1,.slice A2 m2 k2] 112)).cell? ⟨w.heap.size+1,1,none⟩=some (.string p2):=Q1.out.c 1 rfl
  go_wp2_with fail
  refine(TL.out _ _ _ _ _ _ _ _ _ _ S1.out P1.out).mono ?_;rintro en w2 ⟨B,q1,r1,rfl,q⟩;have S2:=qH (Ac S1.out q);clear TL S1 P1 B1 q y0 y1 y2 y3 y4 Q1 z0 z1
  cases b with
  | true =>
    have hr:=HR.out;rw [if_neg (by simp),if_pos rfl] at hr;subst hr;clear HR;go_wp2
    go_ret
    exact⟨rfl,S2.out⟩
  | false =>
    have hr:=HR.out;rw [if_neg (by simp),if_neg (by simp)] at hr;subst hr;clear HR;go_wp2
    go_ret
    exact⟨rfl,S2.out⟩
 ·have heb:(e != 0)=true:=by rw [bne_iff_ne];exact he
  have hr:=HR.out;rw [if_pos he] at hr;subst hr;clear HR he TL B1 P1 Q1;go_wp2
  go_ret
  exact⟨rfl,S1.out⟩
theorem PZ (A:Option Addr) (m c:Nat) (id pr root:ByteArray) (h:Int) (p1:ByteArray) (x:Pf) (e:Int) (b:Bool) (w:World)
  (OP:Hid (∀ W,Aa w W→Calls qP 80 #[.slice A m c,.string id,.agg #[.int .i64 h,.string pr]] W fun en w'=>∃ n pos there A1 m1 k1 A2 m2 k2,en=.returned (.tuple #[.agg #[.int .i64 n,.int .i64 pos,.bool there,.slice A1 m1 k1,.slice A2 m2 k2],.string root,.int .i64 e])∧Prf w' (.agg #[.int .i64 n,.int .i64 pos,.bool there,.slice A1 m1 k1,.slice A2 m2 k2]) x∧Aa W w'))
  (TL:Hid (∀ W n pos there A1 m1 k1 A2 m2 k2,Aa w W→Prf W (.agg #[.int .i64 n,.int .i64 pos,.bool there,.slice A1 m1 k1,.slice A2 m2 k2]) x→Calls qP 82 #[.string root,.string p1,.agg #[.int .i64 n,.int .i64 pos,.bool there,.slice A1 m1 k1,.slice A2 m2 k2]] W fun en w'=>∃ B q r,en=.returned (.tuple #[.bool b,.slice B q r])∧Aa W w')) :
  Calls qP 31 #[.slice A m c,.string id,.agg #[.int .i64 h,.string pr],.string p1] w fun en w'=>en=.returned (.int .i64 (if e≠0 then e else if b=true then 0 else 11))∧Aa w w':=by
 obtain⟨ans,hr⟩:∃ y:Int,y=(if e≠0 then e else if b=true then 0 else 11):=⟨_,rfl⟩;rw [←hr];have HR:=qH hr;clear hr;have A0:=qH (Blk.new w 58 #[.int .i64 h,.string pr]);have S0:=qH (Ab (Aa.refl w) (.cells #[.int .i64 h,.string pr] 58));have a0:(w.alloc (.cells #[.int .i64 h,.string pr] 58)).cell? ⟨w.heap.size,0,none⟩=some (.int .i64 h):=A0.out.c 0 rfl;have a1:(w.alloc (.cells #[.int .i64 h,.string pr] 58)).cell? ⟨w.heap.size,1,none⟩=some (.string pr):=A0.out.c 1 rfl;go_enter Tryz.func31,Tryz.ntmps31
 go_wp2_with fail
 clear a0 a1;refine(OP.out _ S0.out).mono ?_;rintro en w1 ⟨n,pos,there,A1,m1,k1,A2,m2,k2,rfl,hP,q⟩;have B1:=qH (Blk.new w1 112 #[.int .i64 n,.int .i64 pos,.bool there,.slice A1 m1 k1,.slice A2 m2 k2]);have S1:=qH (Ab (Ac S0.out q) (.cells #[.int .i64 n,.int .i64 pos,.bool there,.slice A1 m1 k1,.slice A2 m2 k2] 112));have P1:=qH (hP.below ((Below.refl _ w1).alloc (Nat.le_refl _) (.cells #[.int .i64 n,.int .i64 pos,.bool there,.slice A1 m1 k1,.slice A2 m2 k2] 112)));clear A0 S0 OP q hP;by_cases he:e=0
 ·subst he
  have y0:(w1.alloc (.cells #[.int .i64 n,.int .i64 pos,.bool there,.slice A1 m1 k1,.slice A2 m2 k2] 112)).cell? ⟨w1.heap.size,0,none⟩=some (.int .i64 n):=B1.out.c 0 rfl;have y1:(w1.alloc (.cells #[.int .i64 n,.int .i64 pos,.bool there,.slice A1 m1 k1,.slice A2 m2 k2] 112)).cell? ⟨w1.heap.size,1,none⟩=some (.int .i64 pos):=B1.out.c 1 rfl;have y2:(w1.alloc (.cells #[.int .i64 n,.int .i64 pos,.bool there,.slice A1 m1 k1,.slice A2 m2 k2] 112)).cell? ⟨w1.heap.size,2,none⟩=some (.bool there):=B1.out.c 2 rfl;have y3:(w1.alloc (.cells #[.int .i64 n,.int .i64 pos,.bool there,.slice A1 m1 k1,.slice A2 m2 k2] 112)).cell? ⟨w1.heap.size,3,none⟩=some (.slice A1 m1 k1):=B1.out.c 3 rfl;have y4:(w1.alloc (.cells #[.int .i64 n,.int .i64 pos,.bool there,.slice A1 m1 k1,.slice A2 m2 k2] 112)).cell? ⟨w1.heap.size,4,none⟩=some (.slice A2 m2 k2):=B1.out.c 4 rfl
  go_wp2_with fail
  refine(TL.out _ _ _ _ _ _ _ _ _ _ S1.out P1.out).mono ?_;rintro en w2 ⟨B,q1,r1,rfl,q⟩;have S2:=qH (Ac S1.out q);clear TL S1 P1 B1 q y0 y1 y2 y3 y4
  cases b with
  | true =>
    have hr:=HR.out;rw [if_neg (by simp),if_pos rfl] at hr;subst hr;clear HR;go_wp2
    go_ret
    exact⟨rfl,S2.out⟩
  | false =>
    have hr:=HR.out;rw [if_neg (by simp),if_neg (by simp)] at hr;subst hr;clear HR;go_wp2
    go_ret
    exact⟨rfl,S2.out⟩
 ·have heb:(e != 0)=true:=by rw [bne_iff_ne];exact he
  have hr:=HR.out;rw [if_pos he] at hr;subst hr;clear HR he TL B1 P1;go_wp2
  go_ret
  exact⟨rfl,S1.out⟩
theorem cOpen_holds (L:List KV) (id:ByteArray) (h:Int) (pr:ByteArray):Xl (AX L id h pr).1.1∧∀ q ∈ (AX L id h pr).1.1.paths,q.length≤1000000∧∀ y ∈ q,y.length≤70000:=by
 have hz:Xl Pf.zero∧∀ q ∈ Pf.zero.paths,q.length≤1000000∧∀ y ∈ q,y.length≤70000:=⟨⟨by decide,by decide,by decide,by decide,Nat.zero_le _,Nat.zero_le _⟩,fun q hq=>by cases hq⟩;unfold AX
 split
 ·exact hz
 ·split
  ·exact hz
  ·split
   ·exact hz
   ·split
    ·exact hz
    ·exact rd_holds pr
theorem MM {W w':World} {b:Bool} {M:List (List UInt8)} {en:Ending} (h:Dh W b M en w'):∃ B q r,en=.returned (.tuple #[.bool b,.slice B q r])∧Aa W w':=by
 obtain⟨u,N,rfl,ho,_⟩:=h;have hb:=ho.below;obtain⟨B,c,rfl,_⟩:=Db ho.1;exact⟨B,_,c,rfl,Ad hb⟩
section
variable {s:Value} {L:List KV} {w:World}
theorem XS (hP:Prs w s L) (hu:Up L) (hz:L.length≤1000000000) (hL:BD L) (id:ByteArray) (hid:id.size≤1000000) (h:Int) (pr:ByteArray) (hpr:pr.size≤9223372036854775807) (W:World) (hW:Aa w W) :
  Calls qP 80 #[s,.string id,.agg #[.int .i64 h,.string pr]] W fun en w'=>∃ n pos there A1 m1 k1 A2 m2 k2,en=.returned (.tuple #[.agg #[.int .i64 n,.int .i64 pos,.bool there,.slice A1 m1 k1,.slice A2 m2 k2],.string (AX L id h pr).1.2,.int .i64 (AX L id h pr).2])∧Prf w' (.agg #[.int .i64 n,.int .i64 pos,.bool there,.slice A1 m1 k1,.slice A2 m2 k2]) (AX L id h pr).1.1∧Aa W w' :=
 (ZX (hP.below hW.below) hu hz hL id hid h pr hpr).mono fun en w' ⟨v,k1,k2,k3⟩=>by
   have k2':=k2;obtain⟨nv,pv,rfl,⟨B1,r1,rfl,_,_⟩,⟨B2,r2,rfl,_,_⟩⟩:=k2';exact⟨_,_,_,_,_,_,_,_,_,k1,k2,k3⟩
theorem eZ (hP:Prs w s L) (hu:Up L) (hz:L.length≤1000000000) (hL:BD L) (id:ByteArray) (hid:id.size≤1000000) (h:Int) (pr:ByteArray) (hpr:pr.size≤9223372036854775807) (p:KV) :
  Calls qP 30 #[s,.string id,.agg #[.int .i64 h,.string pr],.agg #[.string p.1,.string p.2]] w fun en w'=>en=.returned (.int .i64 (QW L id h pr p))∧Aa w w':=by
 have OP:=qH (fun W hW=>XS hP hu hz hL id hid h pr hpr W hW);obtain⟨hI,hq⟩:=cOpen_holds L id h pr;unfold QW;obtain⟨A,c,rfl,_,_⟩:=hP
 have k:=Vi A _ c id pr (AX L id h pr).1.2 h p.1 p.2 (AX L id h pr).1.1 (AX L id h pr).2 (OH (AX L id h pr).1.2.data.toList p (AX L id h pr).1.1) w OP (qH fun W n pos there A1 m1 k1 A2 m2 k2 _ hp=>by
  have k:=iK (AX L id h pr).1.2.data.toList p _ _ W hp hI.n1 hq;rw [Ch] at k
  exact k.mono fun _ _ h=>MM h)
 exact k
theorem XT (hP:Prs w s L) (hu:Up L) (hz:L.length≤1000000000) (hL:BD L) (id:ByteArray) (hid:id.size≤1000000) (h:Int) (pr:ByteArray) (hpr:pr.size≤9223372036854775807) (key:ByteArray) :
  Calls qP 31 #[s,.string id,.agg #[.int .i64 h,.string pr],.string key] w fun en w'=>en=.returned (.int .i64 (Ga L id h pr key))∧Aa w w':=by
 have OP:=qH (fun W hW=>XS hP hu hz hL id hid h pr hpr W hW);obtain⟨hI,hq⟩:=cOpen_holds L id h pr;unfold Ga;obtain⟨A,c,rfl,_,_⟩:=hP
 have k:=PZ A _ c id pr (AX L id h pr).1.2 h key (AX L id h pr).1.1 (AX L id h pr).2 (CC (AX L id h pr).1.2.data.toList key (AX L id h pr).1.1) w OP (qH fun W n pos there A1 m1 k1 A2 m2 k2 _ hp=>by
  have k:=aC (AX L id h pr).1.2.data.toList key _ _ W hp hI (fun _ _=>hq);rw [Ch] at k
  exact k.mono fun _ _ h=>MM h)
 exact k
end
theorem aO (v:Value) (l:List KV) (key:ByteArray) (w:World) (hP:Prs w v l) (hz:l.length≤900000) :
  Calls qP 57 #[v,.string key] w fun e w'=>∃ u,e=.returned u∧Prf w' u (LK l key)∧Aa w w':=by
 have hP0:=hP;obtain⟨A,cap,rfl,hcap,hc⟩:=hP0;have HI:∀ W,Aa w W→Calls qP 104 #[.slice A l.length cap] W fun e w'=>e=.returned (.bool (decide (Up l)))∧Aa W w':=fun W hW=>eS _ l W (hP.below hW.below) (by omega)
 have hp:∀(i:Nat),i<1000000→∀ W,Aa w W→Calls qP 105 #[.slice A l.length cap,.int .i64 i] W fun e w'=>∃ A m c,m≤c∧e=.returned (.slice A m c)∧Aq W.heap.size (.slice A m c) (bss (pth l i)) W w':=fun i hi W hW=>(eP _ l _ i W rfl hi (hP.below hW.below) (by omega)).mono fun e w' ⟨u,he,ho⟩=>by
  obtain⟨A,m,c,rfl,h⟩:=GY ho.1;exact⟨A,m,c,h,he,ho⟩
 by_cases hu:Up l
 ·rw [decide_eq_true hu] at HI
  have e0:LK l key=bld l key:=if_pos hu;rw [e0];have hle:=Ng (l:=l) (key:=key)
  cases hg:AD l key with
  | some x =>
    have hat:=OJ hu hg;obtain⟨hlt,hel⟩:=List.getElem?_eq_some_iff.1 hat;rw [II hg];refine(Yj A l.length cap (BA l key) key l (bss (pth l (BA l key))) w rfl hlt (by omega) (by rw [hel]) hc (fun k h hk=>Fr l key k h hk) (qH HI) (qH fun W hW=>(hp (BA l key) (by omega) W hW).mono fun e w' ⟨A,m,c,_,he,ho⟩=>⟨A,m,c,he,ho⟩)).mono ?_;rintro e w' ⟨pv,rfl,⟨g,pu,rfl,hB,hT,hR⟩,hs⟩;exact⟨_,rfl,⟨_,_,rfl,Prs.nil _ _ _,Xj hB hT hR⟩,hs⟩
  | none =>
    have hlh:=EJ hle;rw [GH hg];have hno:=Vc hle;rw [←hno];refine Vu A l.length cap (BA l key) (DA (BA l key)) (CA (BA l key) l.length-DA (BA l key)) key l w rfl hle (by omega) rfl (by omega) (fun h=>⟨Hb l key h,fun e=>?_⟩) hc (fun k h hk=>Fr l key k h hk) (qH HI) (qH fun k hk W hW=>hp (DA (BA l key)+k) (by omega) W hW)
    rcases EI hu key with⟨h1,_⟩|⟨_,h2,_⟩|⟨_,_,h3,_⟩
    ·omega
    ·exact h2 e
    ·rw [h3] at hg;cases hg
 ·rw [decide_eq_false hu] at HI
  have e0:LK l key=Pf.zero:=if_neg hu;rw [e0];refine(Yi A l.length cap key w (qH HI)).mono ?_;rintro e w' ⟨rfl,hs⟩;exact⟨_,rfl,Prf.zero w',hs⟩
theorem Qg (j:Nat) (A A2:Option Addr) (m c m2 c2:Nat) (N:Int) (L:List KV) (b:Bool) (w:World)
  (K1:Hid (∀ V W,Aa w V→Aa V W→Calls qP 44 #[.pointer (some ⟨j,0,none⟩)] W fun en w'=>∃ B q r,en=.returned (.slice B q r)∧Prs w' (.slice B q r) L∧Aa V w'))
  (K2:Hid (∀ V W B q r,Aa w V→Aa V W→Prs W (.slice B q r) L→Calls qP 43 #[.slice B q r,.slice A m c] W fun en w'=>en=.returned (.bool b)∧Aa V w')) :
  Calls qP 13 #[.agg #[.pointer (some ⟨j,0,none⟩),.slice A m c,.slice A2 m2 c2,.int .i64 N]] w fun en w'=>en=.returned (.bool b)∧Aa w w':=by
 have HB:=qH (Blk.new w 29 #[.pointer (some ⟨j,0,none⟩),.slice A m c,.slice A2 m2 c2,.int .i64 N]);have S0:=qH (Ab (Aa.refl w) (.cells #[.pointer (some ⟨j,0,none⟩),.slice A m c,.slice A2 m2 c2,.int .i64 N] 29));go_enter Tryz.func13,Tryz.ntmps13;go_wp2;generalize w.alloc (.cells #[.pointer (some ⟨j,0,none⟩),.slice A m c,.slice A2 m2 c2,.int .i64 N] 29)=V at *;have k0:V.cell? ⟨w.heap.size,0,none⟩=some (.pointer (some ⟨j,0,none⟩)):=HB.out.c 0 rfl;have k1:V.cell? ⟨w.heap.size,1,none⟩=some (.slice A m c):=HB.out.c 1 rfl;have r0:=Aa.refl V;have K1':=qH (fun W=>K1.out V W S0.out);have K2':=qH (fun W B q r=>K2.out V W B q r S0.out);clear K1 K2 HB
 go_region_held3 (fun W=>W.cell? ⟨w.heap.size,0,none⟩=some (.pointer (some ⟨j,0,none⟩))∧W.cell? ⟨w.heap.size,1,none⟩=some (.slice A m c))
  (first|exact⟨s3.cell k0,s3.cell k1⟩|exact⟨s4.cell k0,s4.cell k1⟩|go_keep)
  (first
    | (go_at_call 44;refine(K1'.out _ (by exact r0)).mono ?_;clear K1';rintro en w3 ⟨B,q,r,rfl,hP,s3⟩)
    | (go_at_call 43;refine(K2'.out _ _ _ _ (by exact s3) (by exact hP)).mono ?_;clear K2';rintro en w4 ⟨rfl,s4⟩))
 all_goals go_wp2
 all_goals go_ret
 all_goals exact⟨rfl,Ac S0.out s4⟩
theorem Qh {W w':World} {L:List KV} {en:Ending} (h:LH L W en w'):∃ B q r,en=.returned (.slice B q r)∧Prs w' (.slice B q r) L∧Aa W w':=by
 obtain⟨v,rfl,ho,hb⟩:=h;have hp:=Prs.of_own ho;have hp':=hp;obtain⟨B,r,rfl,_,_⟩:=hp';exact⟨B,_,r,rfl,hp,Ad hb⟩
theorem Yl {w:World} {S:Nat→Prop} {j m':Nat} {L L':List KV} {s:Value} {A2:Option Addr} {m2 c2:Nat} {N:Int} (hJ:Jr w S j [] L m') (hP:Prs w s L') (hm:m'≤1000000000) :
  Calls qP 13 #[.agg #[.pointer (some ⟨j,0,none⟩),s,.slice A2 m2 c2,.int .i64 N]] w fun en w'=>en=.returned (.bool (decide (L=L')))∧Aa w w':=by
 have hl:=hJ.len.1;have hP0:=hP;obtain⟨A,c,rfl,_,_⟩:=hP0;exact Qg j A A2 _ c m2 c2 N L _ w
  (qH fun V W hV hW=>(iX (hJ.below (Ac hV hW).below) hm).mono fun en w' h=>by
    obtain⟨B,q,r,h1,h2,h3⟩:=Qh h
    exact⟨B,q,r,h1,h2,Ac hW h3⟩)
  (qH fun V W B q r hV hW hp=>(iY _ _ L L' W hp (hP.below (Ac hV hW).below) (by omega)).mono fun _ _ ⟨he,hb⟩=>⟨he,Ac hW (Ad hb)⟩)
theorem Ym (j:Option Addr) (A A2:Option Addr) (m c m2 c2:Nat) (N:Int) (key raw:ByteArray) (w:World) (h:raw≠⟨#[]⟩) :
  Calls qP 19 #[.agg #[.pointer j,.slice A m c,.slice A2 m2 c2,.int .i64 N],.string key,.string raw] w fun en w'=>en=.returned (.agg #[.int .i64 N,.string raw])∧Aa w w':=by
 have z0:(w.alloc (.cells #[.pointer j,.slice A m c,.slice A2 m2 c2,.int .i64 N] 29)).heap.size=w.heap.size+1:=by simp
 have HB:=qH ((Blk.new w 29 #[.pointer j,.slice A m c,.slice A2 m2 c2,.int .i64 N]).alloc (.cells #[.int .i64 0,.string ⟨#[]⟩] 58));have O:=Blk.new (w.alloc (.cells #[.pointer j,.slice A m c,.slice A2 m2 c2,.int .i64 N] 29)) 58 #[.int .i64 N,.string raw];rw [z0] at O;have D:=qH (And.intro O (Ab (Ab (Aa.refl w) (.cells #[.pointer j,.slice A m c,.slice A2 m2 c2,.int .i64 N] 29)) (.cells #[.int .i64 N,.string raw] 58)));have y3:((w.alloc (.cells #[.pointer j,.slice A m c,.slice A2 m2 c2,.int .i64 N] 29)).alloc (.cells #[.int .i64 0,.string ⟨#[]⟩] 58)).cell? ⟨w.heap.size,3,none⟩=some (.int .i64 N):=HB.out.c 3 rfl
 have hs:raw.toList.isEmpty=false:=by
  cases hl:raw.toList with
  | nil=>exact absurd (Fg (by simpa using hl)) h
  | cons a r=>rfl
 clear z0 O HB h;go_enter Tryz.func19,Tryz.ntmps19;go_wp2;have D1:=D.out.1;refine bodyPost_ret (v:=.agg #[.int .i64 N,.string raw]) (by simp [results,Tryz.results19,go_sem,D1.c 0 rfl,D1.c 1 rfl]) rfl ?_;exact⟨rfl,D.out.2⟩
theorem Yn (j:Option Addr) (A A2:Option Addr) (m c m2 c2:Nat) (N:Int) (key pr:ByteArray) (e:Int) (x:Pf) (w:World)
  (K1:Hid (∀ W,Aa w W→Calls qP 57 #[.slice A2 m2 c2,.string key] W fun en w'=>∃ n pos there A1 m1 k1 A3 m3 k3,en=.returned (.agg #[.int .i64 n,.int .i64 pos,.bool there,.slice A1 m1 k1,.slice A3 m3 k3])∧Prf w' (.agg #[.int .i64 n,.int .i64 pos,.bool there,.slice A1 m1 k1,.slice A3 m3 k3]) x∧Aa W w'))
  (K2:Hid (∀ W v,Aa w W→Prf W v x→Calls qP 56 #[v] W fun en w'=>en=.returned (.tuple #[.string pr,.int .i64 e])∧Aa W w')) :
  Calls qP 19 #[.agg #[.pointer j,.slice A m c,.slice A2 m2 c2,.int .i64 N],.string key,.string ⟨#[]⟩] w fun en w'=>en=.returned (.agg #[.int .i64 N,.string pr])∧Aa w w':=by
 have z0:(w.alloc (.cells #[.pointer j,.slice A m c,.slice A2 m2 c2,.int .i64 N] 29)).heap.size=w.heap.size+1:=by simp
 have HB:=qH ((Blk.new w 29 #[.pointer j,.slice A m c,.slice A2 m2 c2,.int .i64 N]).alloc (.cells #[.int .i64 0,.string ⟨#[]⟩] 58));have O:=Blk.new (w.alloc (.cells #[.pointer j,.slice A m c,.slice A2 m2 c2,.int .i64 N] 29)) 58 #[.int .i64 0,.string ⟨#[]⟩];rw [z0] at O;have HO:=qH O;have S0:=qH (Ab (Ab (Aa.refl w) (.cells #[.pointer j,.slice A m c,.slice A2 m2 c2,.int .i64 N] 29)) (.cells #[.int .i64 0,.string ⟨#[]⟩] 58));have y2:((w.alloc (.cells #[.pointer j,.slice A m c,.slice A2 m2 c2,.int .i64 N] 29)).alloc (.cells #[.int .i64 0,.string ⟨#[]⟩] 58)).cell? ⟨w.heap.size,2,none⟩=some (.slice A2 m2 c2):=HB.out.c 2 rfl;clear z0 O;go_enter Tryz.func19,Tryz.ntmps19
 go_wp2_with fail
 clear y2;refine(K1.out _ S0.out).mono ?_;rintro en w1 ⟨n,pos,there,A1,m1,k1,A3,m3,k3,rfl,hP,q⟩;have B1:=qH (HB.out.next q.below);have O1:=qH (HO.out.next q.below);have S1:=qH (Ac S0.out q);have P1:=qH hP;clear K1 HB HO S0 hP q
 go_wp2_with fail
 refine(K2.out _ _ S1.out P1.out).mono ?_;rintro en w2 ⟨rfl,q⟩;have B2:=qH (B1.out.next q.below);have O2:=qH (O1.out.next q.below);have S2:=qH (Ac S1.out q);clear K2 B1 O1 S1 P1 q;have y3:w2.cell? ⟨w.heap.size,3,none⟩=some (.int .i64 N):=B2.out.c 3 rfl;have d0:w2.cell? ⟨w.heap.size+1,0,none⟩=some (.int .i64 0):=O2.out.c 0 rfl;have d1:w2.cell? ⟨w.heap.size+1,1,none⟩=some (.string ⟨#[]⟩):=O2.out.c 1 rfl;have f0:=O2.out.frozen 0;have f1:=O2.out.frozen 1;have D:=qH (And.intro (put2 O2.out (.int .i64 N) (.string pr)) (Cp (b:=w.heap.size+1) S2.out (by omega) (.int .i64 N) (.string pr)));clear B2 O2 S2;go_wp2;have D1:=D.out.1;refine bodyPost_ret (v:=.agg #[.int .i64 N,.string pr]) (by simp [results,Tryz.results19,go_sem,D1.c 0 rfl,D1.c 1 rfl]) rfl ?_;exact⟨rfl,D.out.2⟩
abbrev wdV (j:Nat) (A:Option Addr) (m c:Nat) (A2:Option Addr) (m2 c2:Nat) (N:Int):Value:=.agg #[.pointer (some ⟨j,0,none⟩),.slice A m c,.slice A2 m2 c2,.int .i64 N]
def jF (B:Nat) (S:Nat→Prop) (j:Nat) (L:List KV) (m:Nat) (w:World):Prop:=Jr w S j [] L m∧∀ i,S i→B≤i
def Hm (w:World) (en:Ending) (w':World):Prop :=
 ∃ S j B q r,en=.returned (.tuple #[wdV j B q r none 0 0 0,.bool true])∧jF w.heap.size S j Bq 14 w'∧Prs w' (.slice B q r) Bq∧Aa w w'∧∀ g,(Value.slice B q r).ownBlock=some g→¬S g
theorem aT (w:World)
  (CN:Hid (∀ W S j,Aa w W→Jr W S j [] [] 0→Calls qP 23 #[.pointer (some ⟨j,0,none⟩),.string ⟨#[111,116,104,101,114]⟩,.string ⟨#[107]⟩] W fun en w'=>en=.returned (.tuple #[.string ⟨#[99,108,105,101,110,116,45,48]⟩,.int .i64 0])∧Jm W S j [] Bq 14 w'))
  (RN:Hid (∀ W,Calls qP 25 #[.slice none 0 0,.string ⟨#[111,116,104,101,114]⟩,.string ⟨#[107]⟩] W fun en w'=>∃ B q r,en=.returned (.tuple #[.slice B q r,.string ⟨#[99,108,105,101,110,116,45,48]⟩,.int .i64 0])∧Prs w' (.slice B q r) Bq∧Aa W w'∧∀ g,(Value.slice B q r).ownBlock=some g→W.heap.size≤g)) :
  Calls qP 8 #[] w (Hm w):=by
 have O0:=qH (Blk.new w 29 #[.pointer none,.slice none 0 0,.slice none 0 0,.int .i64 0]);have S0:=qH (Ab (Aa.refl w) (.cells #[.pointer none,.slice none 0 0,.slice none 0 0,.int .i64 0] 29));go_enter Tryz.func8,Tryz.ntmps8
 go_wp2_with fail
 refine(aN _).mono ?_;rintro en w1 ⟨j,T,rfl,hJ,hb,hT⟩;have hlt:w.heap.size<w1.heap.size:=Nat.lt_of_lt_of_le O0.out.lt hb.size;have O1:=qH (O0.out.next hb);have S1:=qH (Ad (Ae S0.out.below hb));have J1:=qH hJ;have T1:=qH (fun i (hi:T i)=>show w.heap.size<i from Nat.lt_of_lt_of_le O0.out.lt (hT i hi));clear O0 S0 hJ hb hT
 go_wp2_with fail
 refine(CN.out _ _ _ S1.out J1.out).mono ?_;rintro en w2 ⟨rfl,hm⟩;have O2:Hid (Blk w2 w.heap.size 29 #[.pointer none,.slice none 0 0,.slice none 0 0,.int .i64 0]):=qH ((hm.1.block w.heap.size hlt (fun h=>by have:=T1.out _ h;omega)).trans O1.out);obtain⟨S',g',hj'⟩:=hm.2;have hb:=S1.out.below.trans (hm.1.below S1.out.below.size (fun i hi=>Nat.le_of_lt (T1.out i hi)));have N2:=qH (fun i (hi:S' i)=>show w.heap.size<i from(g' i hi).elim (T1.out i) (fun h=>Nat.lt_of_lt_of_le hlt h));have hS:∀ i,S' i→w.heap.size≤i:=fun i hi=>Nat.le_of_lt (N2.out i hi);have hJ:=hj';have J2:=qH (And.intro hJ hS);have S2:=qH (Ad hb);clear CN O1 S1 J1 T1 hm hJ hb hS hlt g' hj'
 go_wp2_with fail
 refine(RN.out _).mono ?_;rintro en w3 ⟨B,q,r,rfl,hP,s,hg⟩;have NB:=qH (fun g (e:(Value.slice B q r).ownBlock=some g)=>show ¬S' g from fun hs=>by have h1:=hg g e;have h2:=J2.out.1.bound g hs;omega);clear hg;have O3:=qH (O2.out.next s.below);have J3:=qH (And.intro (J2.out.1.below s.below) J2.out.2);have S3:=qH (Ac S2.out s);have P3:=qH hP;have N3:=N2;clear RN N2 O2 J2 S2 hP s;have d0:w3.cell? ⟨w.heap.size,0,none⟩=some (.pointer none):=O3.out.c 0 rfl;have d1:w3.cell? ⟨w.heap.size,1,none⟩=some (.slice none 0 0):=O3.out.c 1 rfl;have d2:w3.cell? ⟨w.heap.size,2,none⟩=some (.slice none 0 0):=O3.out.c 2 rfl;have d3:w3.cell? ⟨w.heap.size,3,none⟩=some (.int .i64 0):=O3.out.c 3 rfl;have f0:=O3.out.frozen 0;have f1:=O3.out.frozen 1;have f2:=O3.out.frozen 2;have f3:=O3.out.frozen 3;have D:=qH (And.intro (put4 O3.out (.pointer (some ⟨j,0,none⟩)) (.slice B q r) (.slice none 0 0) (.int .i64 0)) (Bv S3.out (Nat.le_refl _) (.pointer (some ⟨j,0,none⟩)) (.slice B q r) (.slice none 0 0) (.int .i64 0)));have J4:=qH (J3.out.1.put4 O3.out (by decide) (fun h=>by have:=N3.out _ h;omega) (.pointer (some ⟨j,0,none⟩)) (.slice B q r) (.slice none 0 0) (.int .i64 0));have P4:=qH (P3.out.put4 O3.out (.pointer (some ⟨j,0,none⟩)) (.slice B q r) (.slice none 0 0) (.int .i64 0));have T4:=qH J3.out.2;clear J3 P3 S3 O3 N3;go_wp2;have D1:=D.out.1;refine bodyPost_ret (v:=.tuple #[wdV j B q r none 0 0 0,.bool true]) (by simp [results,Tryz.results8,go_sem,D1.c 0 rfl,D1.c 1 rfl,D1.c 2 rfl,D1.c 3 rfl]) rfl ?_;exact⟨_,j,B,q,r,rfl,⟨J4.out,T4.out⟩,P4.out,D.out.2,NB.out⟩
def AY (l:List KV):List KV:=l.foldl (fun s p=>Az s p.1 p.2) []
theorem Yt {l:List KV} {k:Nat} (h:k<l.length):AY (l.take (k+1))=Az (AY (l.take k)) l[k].1 l[k].2:=by
 unfold AY;rw [List.take_succ_eq_append_getElem h,List.foldl_append]
 rfl
theorem Yu (l:List KV):Up (AY l):=by
 unfold AY
 suffices h:∀ s,Up s→Up (l.foldl (fun s p=>Az s p.1 p.2) s) from h [] List.Pairwise.nil
 induction l with
 | nil=>exact fun s h=>h
 | cons p l ih=>exact fun s h=>ih _ (FP h)
theorem NL (l:List KV):(AY l).length≤l.length:=by
 unfold AY
 suffices h:∀ s:List KV,(l.foldl (fun s p=>Az s p.1 p.2) s).length≤s.length+l.length by simpa using h []
 induction l with
 | nil=>exact fun s=>Nat.le_refl _
 | cons p l ih =>
   intro s;have h1:=ih (Az s p.1 p.2);have h2:=CJ (k:=p.1) (v:=p.2) s;rw [List.foldl_cons,List.length_cons]
   omega
def Eg (S:Nat→Prop) (v:Value) (l:List KV):Prop:=l=[]∨∀ g,v.ownBlock=some g→¬S g
theorem Eg.of {S S':Nat→Prop} {W:World} {v:Value} {l:List KV} (h:Prs W v l) (hn:∀ g,v.ownBlock=some g→¬S g) (gr:AR S S' W):Eg S' v l:=by
 by_cases hl:l=[]
 ·exact .inl hl
 ·exact .inr fun g hg=>gr.not (h.lt hl g hg) (hn g hg)
def EN (w:World) (S:Nat→Prop) (j:Nat) (L1:List KV) (m:Nat) (F:List KV) (N:Int) (en:Ending) (w':World):Prop :=
 ∃ S' B q r B2 q2 r2,en=.returned (.tuple #[wdV j B q r B2 q2 r2 N,.bool true])∧Jr w' S' j [] L1 m∧Prs w' (.slice B q r) L1∧Prs w' (.slice B2 q2 r2) F∧At S w w'∧AR S S' w∧Eg S' (.slice B q r) L1∧Eg S' (.slice B2 q2 r2) F
structure jG (w:World) (S:Nat→Prop) (j:Nat) (A:Option Addr) (m c:Nat) (N:Int) (F:List KV) (W:World):Prop where
 b:∃ A2 m2 c2,Blk W w.heap.size 29 #[.pointer (some ⟨j,0,none⟩),.slice A m c,.slice A2 m2 c2,.int .i64 N]∧Prs W (.slice A2 m2 c2) F∧∀ g,(Value.slice A2 m2 c2).ownBlock=some g→¬S g
 r:Blk W (w.heap.size+1) 29 #[.pointer none,.slice none 0 0,.slice none 0 0,.int .i64 0]
 s:Aa w W
theorem Qi (j mm:Nat) (S:Nat→Prop) (A A2 Al:Option Addr) (m c m2 c2 cl:Nat) (N time:Int) (l L L1:List KV) (rt raw:ByteArray) (h1:ByteArray) (h2 h3:Int) (h4 h5:ByteArray) (w:World) (hl:l.length≤1000) (hN0:0≤N) (hN1:N≤1000000) (hmm:mm+14≤1000000000) (hJ:Jr w S j [] L mm) (hL:Prs w (.slice Al l.length cl) l)
  (PUT:Hid (∀(k:Nat) (h:k<l.length) W B q r,Aa w W→Prs W (.slice B q r) (AY (l.take k))→Calls qP 26 #[.slice B q r,.string l[k].1,.string l[k].2] W fun en w'=>∃ B q r,en=.returned (.slice B q r)∧Prs w' (.slice B q r) (AY (l.take (k+1)))∧Aa W w'∧∀ g,(Value.slice B q r).ownBlock=some g→¬S g))
  (ROOT:Hid (∀ W B q r,Aa w W→Prs W (.slice B q r) (AY l)→Calls qP 27 #[.slice B q r] W fun en w'=>∃ C x y,en=.returned (.tuple #[.string rt,.slice C x y])∧Aa W w'))
  (SIGN:Hid (∀ W,Aa w W→Calls qP 14 #[.string ⟨#[107]⟩,.agg #[.string ⟨#[111,116,104,101,114]⟩,.int .i64 (N+1),.int .i64 time,.string rt,.string ⟨#[]⟩]] W fun en w'=>en=.returned (.tuple #[.agg #[.string h1,.int .i64 h2,.int .i64 h3,.string h4,.string h5],.int .i64 0])∧Aa W w'))
  (HPUT:Hid (∀ W,Aa w W→Calls qP 15 #[.agg #[.string h1,.int .i64 h2,.int .i64 h3,.string h4,.string h5]] W fun en w'=>en=.returned (.tuple #[.string raw,.int .i64 0])∧Aa W w'))
  (RUP:Hid (∀ W,Aa w W→Calls qP 28 #[.slice A m c,.string ⟨#[99,108,105,101,110,116,45,48]⟩,.string raw] W fun en w'=>∃ B q r,en=.returned (.tuple #[.slice B q r,.int .i64 0])∧Prs w' (.slice B q r) L1∧Aa W w'∧∀ g,(Value.slice B q r).ownBlock=some g→¬S g))
  (CUP:Hid (∀ W,Aa w W→Calls qP 16 #[.pointer (some ⟨j,0,none⟩),.string ⟨#[99,108,105,101,110,116,45,48]⟩,.string raw] W fun en w'=>en=.returned (.int .i64 0)∧Jm W S j [] L1 (mm+14) w')) :
  Calls qP 9 #[wdV j A m c A2 m2 c2 N,.slice Al l.length cl,.int .i64 time] w (EN w S j L1 (mm+14) (AY l) (N+1)):=by
 obtain⟨Al',cap',e,_,hc⟩:=hL
 cases e
 have HC:=qH hc;clear hc
 have z0:(w.alloc (.cells #[.pointer (some ⟨j,0,none⟩),.slice A m c,.slice none 0 0,.int .i64 N] 29)).heap.size=w.heap.size+1:=by simp
 have R0:=Blk.new (w.alloc (.cells #[.pointer (some ⟨j,0,none⟩),.slice A m c,.slice none 0 0,.int .i64 N] 29)) 29 #[.pointer none,.slice none 0 0,.slice none 0 0,.int .i64 0];rw [z0] at R0;have H0:Hid (jG w S j A m c N (AY (l.take 0)) ((w.alloc (.cells #[.pointer (some ⟨j,0,none⟩),.slice A m c,.slice none 0 0,.int .i64 N] 29)).alloc (.cells #[.pointer none,.slice none 0 0,.slice none 0 0,.int .i64 0] 29))):=qH ⟨⟨none,0,0,(Blk.new w _ _).alloc _,Prs.nil _ _ _,fun g hg=>by simp [Value.ownBlock] at hg⟩,R0,Ab (Ab (Aa.refl w) _) _⟩;clear z0 R0;go_enter Tryz.func9,Tryz.ntmps9;go_wp2;generalize (w.alloc (.cells #[.pointer (some ⟨j,0,none⟩),.slice A m c,.slice none 0 0,.int .i64 N] 29)).alloc (.cells #[.pointer none,.slice none 0 0,.slice none 0 0,.int .i64 0] 29)=W0 at *
 go_loopw [8] (fun i wr=>∃ k:Nat,k≤l.length∧i=.int .i64 k∧Hid (jG w S j A m c N (AY (l.take k)) wr)) (fun i _=>l.length-(intOf i).toNat)
 case atStart=>exact⟨0,Nat.zero_le _,rfl,H0⟩
 case round =>
  clear H0;obtain⟨k,hk,rfl,HT⟩:=hrel;by_cases hlt:k<l.length
  ·obtain⟨b,off,rfl,d0,d1⟩:=HC.out k hlt
   have hi0:(0:Int)≤k:=by omega
   have hi1:(k:Int)<(l.length:Int):=by omega
   have hwr:IntKind.i64.wrap ((k:Int)+1)=(k:Int)+1:=IntWalk.i64_in _ (by omega);have SW:=qH HT.out.s;have c0:=HT.out.s.cell d0;have c1:=HT.out.s.cell d1;have PK:=qH (fun W B q r=>PUT.out k hlt W B q r);obtain⟨A3,m3,c3,hB,hF,_⟩:=HT.out.b;have HB:=qH hB;have HF:=qH hF;have HR:=qH HT.out.r;obtain⟨p1,hp1⟩:∃ p1,p1=l[k].1:=⟨_,rfl⟩;obtain⟨p2,hp2⟩:∃ p2,p2=l[k].2:=⟨_,rfl⟩;rw [←hp1,←hp2] at PK;rw [←hp1] at c0 d0;rw [←hp2] at c1 d1;have e2:wr.cell? ⟨w.heap.size,2,none⟩=some (.slice A3 m3 c3):=HB.out.c 2 rfl;clear hp1 hp2 hB hF HT PUT HC;go_wp2;refine wp_region_held_drew (S:=(fun W=>W.cell? ⟨b,off+k*2,none⟩=some (.string p1)∧W.cell? ⟨b,off+k*2+1,none⟩=some (.string p2))) (by kernel_rfl) ⟨c0,c1⟩ (fun hHeld=>?_);simp only [List.size_toArray,List.length_cons,List.length_nil,Nat.reduceAdd,Array.replicate_succ,Array.replicate_zero,List.push_toArray,List.nil_append,List.cons_append]
   refine' wpAnyH_take (i:=0) (v:=_) rfl (by kernel_rfl) (by kernel_rfl) (by kernel_rfl) (fun _ _ _ h=>h) (Or.inl ⟨by rfl,fun w hSw=>by(try dsimp only at hSw);go_simp;rfl⟩) (by assumption) ?_
   simp only [qA,qC,Act.put,qD,qE,qF]
   refine' wpAnyH_take (i:=2) (v:=_) rfl (by kernel_rfl) (by kernel_rfl) (by kernel_rfl) (fun _ _ _ h=>h) (Or.inl ⟨by rfl,fun w hSw=>by(try dsimp only at hSw);go_simp;rfl⟩) (by assumption) ?_
   simp only [qA,qB,qC,Act.put,qD,qE,qF]
   refine' wpAnyH_take (i:=3) (v:=_) rfl (by kernel_rfl) (by kernel_rfl) (by kernel_rfl) (fun _ _ _ h=>h) (Or.inl ⟨by rfl,fun w hSw=>by(try dsimp only at hSw);go_simp;rfl⟩) (by assumption) ?_
   simp only [qA,qB,qC,Act.put,qD,qE,qF]
   refine' wpAnyH_take (i:=4) (v:=_) rfl (by kernel_rfl) (by kernel_rfl) (by kernel_rfl) (fun _ _ _ h=>h) (Or.inl ⟨by rfl,fun w hSw=>by(try dsimp only at hSw);go_simp;rfl⟩) (by assumption) ?_
   simp only [qA,qB,qC,Act.put,qD,qE,qF]
   refine' wpAnyH_take (i:=5) (v:=_) rfl (by kernel_rfl) (by kernel_rfl) (by kernel_rfl) (fun _ _ _ h=>h) (Or.inl ⟨by rfl,fun w hSw=>by(try dsimp only at hSw);go_simp;rfl⟩) (by assumption) ?_
   simp only [qA,qB,qC,Act.put,qD,qE,qF]
   refine' wpAnyH_take (i:=6) (v:=_) rfl (by kernel_rfl) (by kernel_rfl) (by kernel_rfl) (fun _ _ _ h=>h) (Or.inl ⟨by rfl,fun w hSw=>by(try dsimp only at hSw);go_simp;rfl⟩) (by assumption) ?_
   simp only [qA,qB,qC,Act.put,qD,qE,qF]
   refine' wpAnyH_take (i:=7) (v:=_) rfl (by kernel_rfl) (by kernel_rfl) (by kernel_rfl) (fun _ _ _ h=>h) (Or.inl ⟨by rfl,fun w hSw=>by(try dsimp only at hSw);go_simp;rfl⟩) (by assumption) ?_
   simp only [qA,qB,qC,Act.put,qD,qE,qF]
   refine' wpAnyH_take (i:=8) (v:=_) rfl (by kernel_rfl) (by kernel_rfl) (by kernel_rfl) (fun _ _ _ h=>h) (Or.inl ⟨by rfl,fun w hSw=>by(try dsimp only at hSw);go_simp;rfl⟩) (by assumption) ?_
   simp only [qA,qB,qC,Act.put,qD,qE,qF]
   refine' wpAnyH_take (i:=9) (v:=_) rfl (by kernel_rfl) (by kernel_rfl) (by kernel_rfl) (fun _ _ _ h=>h) (Or.inl ⟨by rfl,fun w hSw=>by(try dsimp only at hSw);go_simp;rfl⟩) (by assumption) ?_
   simp only [qA,qB,qC,Act.put,qD,qE,qF]
   refine' wpAnyH_take (i:=10) (v:=_) rfl (by kernel_rfl) (by kernel_rfl) (by kernel_rfl) (fun _ _ _ h=>h) (Or.inl ⟨by rfl,fun w hSw=>by(try dsimp only at hSw);go_simp;rfl⟩) (by assumption) ?_
   simp only [qA,qB,qC,Act.put,qD,qE,qF]
   refine' wpAnyH_take (i:=11) (v:=_) rfl (by kernel_rfl) (by kernel_rfl) (by kernel_rfl) (fun _ _ _ h=>h) (Or.inl ⟨by rfl,fun w hSw=>by(try dsimp only at hSw);go_simp;rfl⟩) (by assumption) ?_
   simp only [qA,qB,qC,Act.put,qD,qE,qF];refine wpAnyH_ready (rs:=[1]) (by kernel_rfl) (by simp) (AllReadyH.cons rfl (fun K hK=>?_) AllReadyH.nil);go_simp;refine hK.out _ _ ⟨c0,c1⟩ (fun hHeld=>?_);clear hK K;simp only [qD,qE,qF];refine wpAnyH_ready (rs:=[12]) (by kernel_rfl) (by simp) (AllReadyH.cons rfl (fun K hK=>?_) AllReadyH.nil);go_simp;go_at_call 26;refine(PK.out _ _ _ _ (Bg SW.out) (HF.out.below ((Below.refl _ wr).drew))).mono ?_;rintro en w5 ⟨B5,q5,r5,rfl,P5,s5,n5⟩;have N5:=qH n5;clear n5;have HB5:=qH ((CL HB.out).next s5.below);have HR5:=qH ((CL HR.out).next s5.below);have S5:=qH (Ac (Bg SW.out) s5);have P6:=qH (P5.set1 HB5.out 2 (.slice B5 q5 r5));have S6:=qH (Ak S5.out (p:=⟨w.heap.size,2,none⟩) (Nat.le_refl _) (.slice B5 q5 r5));have HB6:=qH (HB5.out.set_ 2 (.slice B5 q5 r5));have HR6:=qH (HR5.out.far (p:=⟨w.heap.size,2,none⟩) (by simp) (.slice B5 q5 r5));have x2:w5.cell? ⟨w.heap.size,2,none⟩=some (.slice A3 m3 c3):=HB5.out.c 2 rfl;have xf:=HB5.out.frozen 2;clear PK HB HR HF SW P5 s5 HB5 HR5 e2;refine hK.out _ _ ⟨S5.out.cell d0,S5.out.cell d1⟩ (fun hHeld=>?_);clear hK K S5;simp only [qD,qE,qF]
   refine' wpAnyH_take (i:=13) (v:=_) rfl (by kernel_rfl) (by kernel_rfl) (by kernel_rfl) (fun _ _ _ h=>h) (Or.inl ⟨by rfl,fun w hSw=>by(try dsimp only at hSw);go_simp;rfl⟩) (by assumption) ?_
   simp only [qA,qB,qC,Act.put,qD,qE,qF];refine wpAnyH_ready (rs:=[14]) (by kernel_rfl) (by simp) (AllReadyH.cons rfl (fun K hK=>?_) AllReadyH.nil);go_simp;refine hK.out _ _ ⟨S6.out.cell d0,S6.out.cell d1⟩ (fun hHeld=>?_);clear hK K;simp only [qD,qE,qF];refine wpAnyH_done (by kernel_rfl) ?_ _;go_wp2
   go_roundw
   case rel=>exact⟨k+1,by omega,by go_num,qH ⟨⟨B5,q5,r5,HB6.out,P6.out,N5.out⟩,HR6.out,S6.out⟩⟩
   case measure=>simp [intOf];omega
  ·obtain rfl:k=l.length:=by omega
   have hwr:IntKind.i64.wrap (N+1)=N+1:=IntWalk.i64_in _ (by omega);rw [List.take_length] at HT;obtain⟨A3,m3,c3,hB,hF,nF⟩:=HT.out.b;have NF:=qH nF;have HB:=qH hB;have HF:=qH hF;have HR:=qH HT.out.r;have SW:=qH HT.out.s;clear HT PUT HC hB hF nF;have e3:wr.cell? ⟨w.heap.size,3,none⟩=some (.int .i64 N):=HB.out.c 3 rfl;have e3f:=HB.out.frozen 3;have HB1:=qH (HB.out.set_ 3 (.int .i64 (N+1)));have HF1:=qH (HF.out.set1 HB.out 3 (.int .i64 (N+1)));have HR1:=qH (HR.out.far (p:=⟨w.heap.size,3,none⟩) (by simp) (.int .i64 (N+1)));have S1:=qH (Ak SW.out (p:=⟨w.heap.size,3,none⟩) (Nat.le_refl _) (.int .i64 (N+1)));have x2:(wr.setCell ⟨w.heap.size,3,none⟩ (.int .i64 (N+1))).cell? ⟨w.heap.size,2,none⟩=some (.slice A3 m3 c3):=HB1.out.c 2 rfl;clear HB HF HR SW
   go_wp2_with fail
   clear e3 e3f x2 hwr;refine(ROOT.out _ _ _ _ S1.out HF1.out).mono ?_;rintro en w7 ⟨C7,x7,y7,rfl,q⟩;have HB7:=qH (HB1.out.next q.below);have HR7:=qH (HR1.out.next q.below);have HF7:=qH (HF1.out.below q.below);have S7:=qH (Ac S1.out q);clear ROOT HB1 HR1 HF1 S1 q;have x3:w7.cell? ⟨w.heap.size,3,none⟩=some (.int .i64 (N+1)):=HB7.out.c 3 rfl
   go_wp2_with fail
   clear x3;refine(SIGN.out _ S7.out).mono ?_;rintro en w8 ⟨rfl,q⟩;have HB8:=qH ((HB7.out.next q.below).alloc (.cells #[.string h1,.int .i64 h2,.int .i64 h3,.string h4,.string h5] 34));have HR8:=qH ((HR7.out.next q.below).alloc (.cells #[.string h1,.int .i64 h2,.int .i64 h3,.string h4,.string h5] 34));have HF8:=qH ((HF7.out.below q.below).below ((Below.refl _ w8).alloc (Nat.le_refl _) (.cells #[.string h1,.int .i64 h2,.int .i64 h3,.string h4,.string h5] 34)));have S8:=qH (Ab (Ac S7.out q) (.cells #[.string h1,.int .i64 h2,.int .i64 h3,.string h4,.string h5] 34));have X8:=qH (Blk.new w8 34 #[.string h1,.int .i64 h2,.int .i64 h3,.string h4,.string h5]);clear SIGN HB7 HR7 HF7 S7 q;have y0:(w8.alloc (.cells #[.string h1,.int .i64 h2,.int .i64 h3,.string h4,.string h5] 34)).cell? ⟨w8.heap.size,0,none⟩=some (.string h1):=X8.out.c 0 rfl;have y1:(w8.alloc (.cells #[.string h1,.int .i64 h2,.int .i64 h3,.string h4,.string h5] 34)).cell? ⟨w8.heap.size,1,none⟩=some (.int .i64 h2):=X8.out.c 1 rfl;have y2:(w8.alloc (.cells #[.string h1,.int .i64 h2,.int .i64 h3,.string h4,.string h5] 34)).cell? ⟨w8.heap.size,2,none⟩=some (.int .i64 h3):=X8.out.c 2 rfl;have y3:(w8.alloc (.cells #[.string h1,.int .i64 h2,.int .i64 h3,.string h4,.string h5] 34)).cell? ⟨w8.heap.size,3,none⟩=some (.string h4):=X8.out.c 3 rfl;have y4:(w8.alloc (.cells #[.string h1,.int .i64 h2,.int .i64 h3,.string h4,.string h5] 34)).cell? ⟨w8.heap.size,4,none⟩=some (.string h5):=X8.out.c 4 rfl
   go_wp2_with fail
   clear y0 y1 y2 y3 y4 X8;refine(HPUT.out _ S8.out).mono ?_;rintro en w9 ⟨rfl,q⟩;have HB9:=qH (HB8.out.next q.below);have HR9:=qH (HR8.out.next q.below);have HF9:=qH (HF8.out.below q.below);have S9:=qH (Ac S8.out q);clear HPUT HB8 HR8 HF8 S8 q;have x1:w9.cell? ⟨w.heap.size,1,none⟩=some (.slice A m c):=HB9.out.c 1 rfl
   go_wp2_with fail
   clear x1;refine(RUP.out _ S9.out).mono ?_;rintro en w10 ⟨B,q,r,rfl,hP,s10,nP⟩;have NP:=qH nP;clear nP;have HB10:=qH (HB9.out.next s10.below);have P11:=qH (hP.set1 HB10.out 1 (.slice B q r));have F11:=qH ((HF9.out.below s10.below).set1 HB10.out 1 (.slice B q r));have HR11:=qH ((HR9.out.next s10.below).far (p:=⟨w.heap.size,1,none⟩) (by simp) (.slice B q r));have S11:=qH (Ak (Ac S9.out s10) (p:=⟨w.heap.size,1,none⟩) (Nat.le_refl _) (.slice B q r));have HB11:=qH (HB10.out.set_ 1 (.slice B q r));have x1:w10.cell? ⟨w.heap.size,1,none⟩=some (.slice A m c):=HB10.out.c 1 rfl;have x1f:=HB10.out.frozen 1;clear RUP HB9 HR9 HF9 S9 hP s10 HB10;go_wp2;generalize w10.setCell ⟨w.heap.size,1,none⟩ (.slice B q r)=V at *;have k0:V.cell? ⟨w.heap.size,0,none⟩=some (.pointer (some ⟨j,0,none⟩)):=HB11.out.c 0 rfl;have k1:V.cell? ⟨w.heap.size,1,none⟩=some (.slice B q r):=HB11.out.c 1 rfl;have k2:V.cell? ⟨w.heap.size,2,none⟩=some (.slice A3 m3 c3):=HB11.out.c 2 rfl;have k3:V.cell? ⟨w.heap.size,3,none⟩=some (.int .i64 (N+1)):=HB11.out.c 3 rfl;have ltB:=qH HB11.out.lt;have ltR:=qH HR11.out.lt;have JV:=qH (hJ.below S11.out.below);have bdS:=qH hJ.bound;have SZ:=qH S11.out.below.size;clear x1 x1f hJ
   go_region_held3 (fun W=>W.cell? ⟨w.heap.size,0,none⟩=some (.pointer (some ⟨j,0,none⟩))∧W.cell? ⟨w.heap.size,1,none⟩=some (.slice B q r)∧W.cell? ⟨w.heap.size,2,none⟩=some (.slice A3 m3 c3)∧W.cell? ⟨w.heap.size,3,none⟩=some (.int .i64 (N+1)))
    (first|exact⟨BX.out.c 0 rfl,BX.out.c 1 rfl,BX.out.c 2 rfl,BX.out.c 3 rfl⟩|exact⟨BY.out.c 0 rfl,BY.out.c 1 rfl,BY.out.c 2 rfl,BY.out.c 3 rfl⟩|exact⟨BZ.out.c 0 rfl,BZ.out.c 1 rfl,BZ.out.c 2 rfl,BZ.out.c 3 rfl⟩|go_keep)
    (first
      | (go_at_call 16;refine(CUP.out _ (by first|exact Bg S11.out|exact S11.out)).mono ?_;clear CUP;rintro en w12 ⟨rfl,hm⟩;have BX:=qH (show Blk w12 w.heap.size 29 #[.pointer (some ⟨j,0,none⟩),.slice B q r,.slice A3 m3 c3,.int .i64 (N+1)] from(hm.1.block w.heap.size ltB.out (fun h=>by have:=bdS.out _ h;omega)).trans HB11.out);have RX:=qH (show Blk w12 (w.heap.size+1) 29 #[.pointer none,.slice none 0 0,.slice none 0 0,.int .i64 0] from(hm.1.block (w.heap.size+1) ltR.out (fun h=>by have:=bdS.out _ h;omega)).trans HR11.out);have PX:=qH (show Prs w12 (.slice B q r) L1 from by first|exact P11.out.out_of hm.1.undrew NP.out|exact P11.out.out_of hm.1 NP.out);have FX:=qH (show Prs w12 (.slice A3 m3 c3) (AY l) from by first|exact F11.out.out_of hm.1.undrew NF.out|exact F11.out.out_of hm.1 NF.out);have HX:=qH hm;clear hm)
      | (go_at_call 13;obtain⟨kX,S',gX,jX⟩:=HX.out;refine(Yl (m':=mm+14) jX PX.out hmm).mono ?_;rintro en w13 ⟨rfl,s13⟩;have BY:=qH (BX.out.next s13.below);have RY:=qH (RX.out.next s13.below);have u0:w13.cell? ⟨w.heap.size+1,0,none⟩=some (.pointer none):=RY.out.c 0 rfl;have v0:=RY.out.frozen 0;have u1:w13.cell? ⟨w.heap.size+1,1,none⟩=some (.slice none 0 0):=RY.out.c 1 rfl;have v1:=RY.out.frozen 1;have u2:w13.cell? ⟨w.heap.size+1,2,none⟩=some (.slice none 0 0):=RY.out.c 2 rfl;have v2:=RY.out.frozen 2;have u3:w13.cell? ⟨w.heap.size+1,3,none⟩=some (.int .i64 0):=RY.out.c 3 rfl;have v3:=RY.out.frozen 3;have BZ:=qH (show Blk ((((w13.setCell ⟨w.heap.size+1,0,none⟩ (.pointer (some ⟨j,0,none⟩))).setCell ⟨w.heap.size+1,1,none⟩ (.slice B q r)).setCell ⟨w.heap.size+1,2,none⟩ (.slice A3 m3 c3)).setCell ⟨w.heap.size+1,3,none⟩ (.int .i64 (N+1))) w.heap.size 29 #[.pointer (some ⟨j,0,none⟩),.slice B q r,.slice A3 m3 c3,.int .i64 (N+1)] from(Ey w13 (b:=w.heap.size+1) (by omega) (.pointer (some ⟨j,0,none⟩)) (.slice B q r) (.slice A3 m3 c3) (.int .i64 (N+1))).trans BY.out)))
   have DD:=qH (put4 RY.out (.pointer (some ⟨j,0,none⟩)) (.slice B q r) (.slice A3 m3 c3) (.int .i64 (N+1)))
   have nR:∀ i,i=w.heap.size+1→¬S' i:=fun i e h=>by
    rcases gX i h with h2|h2
    ·have:=bdS.out _ h2;omega
    ·have h3:V.heap.size≤i:=h2
     have:=ltR.out;omega
   have JD:=qH ((jX.below s13.below).put4 RY.out (by decide) (nR _ rfl) (.pointer (some ⟨j,0,none⟩)) (.slice B q r) (.slice A3 m3 c3) (.int .i64 (N+1)));have PD:=qH ((PX.out.below s13.below).put4 RY.out (.pointer (some ⟨j,0,none⟩)) (.slice B q r) (.slice A3 m3 c3) (.int .i64 (N+1)));have FD:=qH ((FX.out.below s13.below).put4 RY.out (.pointer (some ⟨j,0,none⟩)) (.slice B q r) (.slice A3 m3 c3) (.int .i64 (N+1)))
   have KD:=qH ((((At.of_below S S11.out.below).step (by first|exact kX.undrew|exact kX)).step (At.of_below S s13.below)).put4 (b:=w.heap.size+1) (by omega) (.pointer (some ⟨j,0,none⟩)) (.slice B q r) (.slice A3 m3 c3) (.int .i64 (N+1)))
   have GD:=qH (show AR S S' w from fun i hi=>(gX i hi).imp id (fun h=>Nat.le_trans SZ.out h));go_wp2;have D1:=DD.out;refine bodyPost_ret (v:=.tuple #[wdV j B q r A3 m3 c3 (N+1),.bool true]) (by simp [results,Tryz.results9,go_sem,D1.c 0 rfl,D1.c 1 rfl,D1.c 2 rfl,D1.c 3 rfl]) rfl ?_;exact⟨S',B,q,r,A3,m3,c3,rfl,JD.out,PD.out,FD.out,KD.out,GD.out,Eg.of P11.out NP.out (show AR S S' V from gX),Eg.of F11.out NF.out (show AR S S' V from gX)⟩
theorem Prs.offS {w w':World} {S:Nat→Prop} {v:Value} {l:List KV} (h:Prs w v l) (k:At S w w') (o:Eg S v l):Prs w' v l:=by
 rcases o with o|o
 ·subst o
  obtain⟨A,cap,rfl,hc,_⟩:=h;exact⟨A,cap,rfl,hc,fun i hi=>by simp at hi⟩
 ·exact h.out_of k o
theorem Eg.grows {S S':Nat→Prop} {W:World} {v:Value} {l:List KV} (o:Eg S v l) (h:Prs W v l) (g:AR S S' W):Eg S' v l:=by
 rcases o with o|o
 ·exact .inl o
 ·exact Eg.of h o g
structure Kj (w:World) (b j:Nat) (S:Nat→Prop) (L M F:List KV) (m:Nat) (A A2:Option Addr) (q r q2 r2:Nat) (W:World):Prop where
 bx:Blk W b 29 #[.pointer (some ⟨j,0,none⟩),.slice A q r,.slice A2 q2 r2,.int .i64 1]
 jr:Jr W S j [] L m
 st:Prs W (.slice A q r) M
 far:Prs W (.slice A2 q2 r2) F
 lo:∀ i,S i→w.heap.size≤i
 nb:¬S b
 os:Eg S (.slice A q r) M
 oF:Eg S (.slice A2 q2 r2) F
 sn:Aa w W
 wb:w.heap.size≤b
section
variable {w:World} {b j:Nat} {S:Nat→Prop} {L M F:List KV} {m:Nat} {A A2:Option Addr} {q r q2 r2:Nat} {W W':World}
theorem Kj.next (h:Kj w b j S L M F m A A2 q r q2 r2 W) (k:Aa W W'):Kj w b j S L M F m A A2 q r q2 r2 W' :=
 ⟨h.bx.next k.below,h.jr.below k.below,h.st.below k.below,h.far.below k.below,h.lo,h.nb,h.os,h.oF,Ac h.sn k,h.wb⟩
theorem Kj.step (h:Kj w b j S L M F m A A2 q r q2 r2 W) {L':List KV} {m':Nat} (k:Jm W S j [] L' m' W'):∃ S',Kj w b j S' L' M F m' A A2 q r q2 r2 W'∧AR S S' W:=by
 obtain⟨k,S',g,hj⟩:=k;have hs:=h.sn.below.size;exact⟨S',⟨k.blk h.bx h.nb,hj,h.st.offS k h.os,h.far.offS k h.oF,fun i hi=>(g i hi).elim (h.lo i) (fun h2=>by omega),g.not h.bx.lt h.nb,h.os.grows h.st g,h.oF.grows h.far g,Ad (h.sn.below.trans (k.below hs h.lo)),h.wb⟩,g⟩
end
theorem Kj.put {w V w2:World} {b j:Nat} {L M F:List KV} {m:Nat} {A A0 A1 A2:Option Addr} {q r q0 r0 q1 r1 q2 r2:Nat} {N0:Int} {S S':Nat→Prop} (hV:Aa w V) (hB:Blk V b 29 #[.pointer (some ⟨j,0,none⟩),.slice A0 q0 r0,.slice A1 q1 r1,.int .i64 N0]) (hwb:w.heap.size≤b) (hb:¬S b) (hS:∀ i,S i→w.heap.size≤i)
  (hJ:Jr w2 S' j [] L m) (hM:Prs w2 (.slice A q r) M) (hF:Prs w2 (.slice A2 q2 r2) F) (hk:At S V w2) (hg:AR S S' V) (oM:Eg S' (.slice A q r) M) (oF:Eg S' (.slice A2 q2 r2) F) :
  Blk w2 b 29 #[.pointer (some ⟨j,0,none⟩),.slice A0 q0 r0,.slice A1 q1 r1,.int .i64 N0] ∧
  Kj w b j S' L M F m A A2 q r q2 r2 ((((w2.setCell ⟨b,0,none⟩ (.pointer (some ⟨j,0,none⟩))).setCell ⟨b,1,none⟩ (.slice A q r)).setCell ⟨b,2,none⟩ (.slice A2 q2 r2)).setCell ⟨b,3,none⟩ (.int .i64 1)):=by
 have hB2:=hk.blk hB hb;have h1:Aa w w2:=Ad (hV.below.trans (hk.below hV.below.size hS));have hs:=hV.below.size;exact⟨hB2,put4 hB2 _ _ _ _,hJ.put4 hB2 (by decide) (hg.not hB.lt hb) _ _ _ _,hM.put4 hB2 _ _ _ _,hF.put4 hB2 _ _ _ _,fun i hi=>(hg i hi).elim (hS i) (fun h2=>by omega),hg.not hB.lt hb,oM,oF,Bv h1 hwb _ _ _ _,hwb⟩
structure Iq (w:World) (j:Nat) (A:Option Addr) (q r:Nat) (A2:Option Addr) (q2 r2:Nat) (dc:Array Value) (ht:Int) (pr:ByteArray) (W:World):Prop where
 bw:Blk W w.heap.size 29 #[.pointer (some ⟨j,0,none⟩),.slice A q r,.slice A2 q2 r2,.int .i64 1]
 bd:Blk W (w.heap.size+1) 38 dc
 br:Blk W (w.heap.size+2) 29 #[.pointer none,.slice none 0 0,.slice none 0 0,.int .i64 0]
 ba:Blk W (w.heap.size+3) 58 #[.int .i64 ht,.string pr]
 lt:w.heap.size+3<W.heap.size
section
variable {w W W':World} {j:Nat} {A A2:Option Addr} {q r q2 r2:Nat} {dc:Array Value} {ht:Int} {pr:ByteArray} {S:Nat→Prop}
theorem Iq.next (h:Iq w j A q r A2 q2 r2 dc ht pr W) (k:Aa W W'):Iq w j A q r A2 q2 r2 dc ht pr W' :=
 ⟨h.bw.next k.below,h.bd.next k.below,h.br.next k.below,h.ba.next k.below,Nat.lt_of_lt_of_le h.lt k.below.size⟩
theorem Iq.keep (h:Iq w j A q r A2 q2 r2 dc ht pr W) (k:At S W W') (hS:∀ i,S i→i<w.heap.size):Iq w j A q r A2 q2 r2 dc ht pr W' :=
 ⟨k.blk h.bw (fun x=>by have:=hS _ x;omega),k.blk h.bd (fun x=>by have:=hS _ x;omega),k.blk h.br (fun x=>by have:=hS _ x;omega),k.blk h.ba (fun x=>by have:=hS _ x;omega),Nat.lt_of_lt_of_le h.lt k.size⟩
theorem Iq.setA (h:Iq w j A q r A2 q2 r2 dc ht pr W) (p:ByteArray):Iq w j A q r A2 q2 r2 dc ht p (W.setCell ⟨w.heap.size+3,1,none⟩ (.string p)) :=
 ⟨h.bw.far (p:=⟨w.heap.size+3,1,none⟩) (by simp) _,h.bd.far (p:=⟨w.heap.size+3,1,none⟩) (by simp) _,h.br.far (p:=⟨w.heap.size+3,1,none⟩) (by simp) _,h.ba.set_ 1 _,by have:=h.lt;simpa [World.setCell] using this⟩
theorem Iq.setS (h:Iq w j A q r A2 q2 r2 dc ht pr W) (B:Option Addr) (x y:Nat):Iq w j B x y A2 q2 r2 dc ht pr (W.setCell ⟨w.heap.size,1,none⟩ (.slice B x y)) :=
 ⟨h.bw.set_ 1 _,h.bd.far (p:=⟨w.heap.size,1,none⟩) (by simp) _,h.br.far (p:=⟨w.heap.size,1,none⟩) (by simp) _,h.ba.far (p:=⟨w.heap.size,1,none⟩) (by simp) _,by have:=h.lt;simpa [World.setCell] using this⟩
end
theorem Cg (w:World) (v0 v1 v2 v3:Value) (dc:Array Value):Blk (((w.alloc (.cells #[v0,v1,v2,v3] 29)).alloc (.cells dc 38)).alloc (.cells #[.pointer none,.slice none 0 0,.slice none 0 0,.int .i64 0] 29)) (w.heap.size+1) 38 dc:=by
 have z0:(w.alloc (.cells #[v0,v1,v2,v3] 29)).heap.size=w.heap.size+1:=by simp
 have h1:=Blk.new (w.alloc (.cells #[v0,v1,v2,v3] 29)) 38 dc;rw [z0] at h1;exact h1.alloc _
theorem Bj (w:World) (j:Nat) (A:Option Addr) (q r:Nat) (A2:Option Addr) (q2 r2:Nat) (dc:Array Value) (ht:Int) (pr:ByteArray) :
  Iq w j A q r A2 q2 r2 dc ht pr ((((w.alloc (.cells #[.pointer (some ⟨j,0,none⟩),.slice A q r,.slice A2 q2 r2,.int .i64 1] 29)).alloc (.cells dc 38)).alloc (.cells #[.pointer none,.slice none 0 0,.slice none 0 0,.int .i64 0] 29)).alloc (.cells #[.int .i64 ht,.string pr] 58)) ∧
  Aa w ((((w.alloc (.cells #[.pointer (some ⟨j,0,none⟩),.slice A q r,.slice A2 q2 r2,.int .i64 1] 29)).alloc (.cells dc 38)).alloc (.cells #[.pointer none,.slice none 0 0,.slice none 0 0,.int .i64 0] 29)).alloc (.cells #[.int .i64 ht,.string pr] 58)):=by
 have h0:=Blk.new w 29 #[.pointer (some ⟨j,0,none⟩),.slice A q r,.slice A2 q2 r2,.int .i64 1];have s0:=Ab (Aa.refl w) (.cells #[.pointer (some ⟨j,0,none⟩),.slice A q r,.slice A2 q2 r2,.int .i64 1] 29)
 have z0:(w.alloc (.cells #[.pointer (some ⟨j,0,none⟩),.slice A q r,.slice A2 q2 r2,.int .i64 1] 29)).heap.size=w.heap.size+1:=by simp
 generalize w.alloc (.cells #[.pointer (some ⟨j,0,none⟩),.slice A q r,.slice A2 q2 r2,.int .i64 1] 29)=W0 at *;have h1:=Blk.new W0 38 dc;rw [z0] at h1
 have z1:(W0.alloc (.cells dc 38)).heap.size=w.heap.size+2:=by rw [World.size_alloc,z0]
 have g0:=h0.alloc (.cells dc 38);have s1:=Ab s0 (.cells dc 38);generalize W0.alloc (.cells dc 38)=W1 at *;have h2:=Blk.new W1 29 #[.pointer none,.slice none 0 0,.slice none 0 0,.int .i64 0];rw [z1] at h2
 have z2:(W1.alloc (.cells #[.pointer none,.slice none 0 0,.slice none 0 0,.int .i64 0] 29)).heap.size=w.heap.size+3:=by rw [World.size_alloc,z1]
 have g1:=g0.alloc (.cells #[.pointer none,.slice none 0 0,.slice none 0 0,.int .i64 0] 29);have k1:=h1.alloc (.cells #[.pointer none,.slice none 0 0,.slice none 0 0,.int .i64 0] 29);have s2:=Ab s1 (.cells #[.pointer none,.slice none 0 0,.slice none 0 0,.int .i64 0] 29);generalize W1.alloc (.cells #[.pointer none,.slice none 0 0,.slice none 0 0,.int .i64 0] 29)=W2 at *;have h3:=Blk.new W2 58 #[.int .i64 ht,.string pr];rw [z2] at h3;exact⟨⟨g1.alloc _,k1.alloc _,h2.alloc _,h3,by rw [World.size_alloc,z2];omega⟩,Ab s2 _⟩
theorem Hn:∀(a:Int) (s:ByteArray) (W:World),Sem.run qP (Instr.field 58 (Value.agg #[.int .i64 a,.string s]) 1) W=.ok (.string s) W:=fun _ _ _=>by kernel_rfl
def DE (w:World) (S:Nat→Prop) (j:Nat) (L':List KV) (m':Nat) (F:List KV) (A2:Option Addr) (q2 r2:Nat) (en:Ending) (w':World):Prop :=
 ∃ S' B q r,en=.returned (.tuple #[wdV j B q r A2 q2 r2 1,.bool true])∧Jr w' S' j [] L' m'∧Prs w' (.slice B q r) L'∧Prs w' (.slice A2 q2 r2) F∧At S w w'∧AR S S' w∧Eg S' (.slice B q r) L'∧Eg S' (.slice A2 q2 r2) F
theorem Ei {w W w':World} {j:Nat} {B A2:Option Addr} {q r q2 r2:Nat} {dc:Array Value} {ht:Int} {pr:ByteArray} {S:Nat→Prop} {L' F:List KV} {m':Nat} (hW:Aa w W) (hB:Iq w j B q r A2 q2 r2 dc ht pr W) (hS:∀ i,S i→i<w.heap.size) (hm:Jm W S j [] L' m' w') (hP:Prs W (.slice B q r) L') (hF:Prs W (.slice A2 q2 r2) F) (oB:∀ g,(Value.slice B q r).ownBlock=some g→¬S g) (oF:Eg S (.slice A2 q2 r2) F) :
  Iq w j B q r A2 q2 r2 dc ht pr w' ∧
  Blk ((((w'.setCell ⟨w.heap.size+2,0,none⟩ (.pointer (some ⟨j,0,none⟩))).setCell ⟨w.heap.size+2,1,none⟩ (.slice B q r)).setCell ⟨w.heap.size+2,2,none⟩ (.slice A2 q2 r2)).setCell ⟨w.heap.size+2,3,none⟩ (.int .i64 1)) (w.heap.size+2) 29 #[.pointer (some ⟨j,0,none⟩),.slice B q r,.slice A2 q2 r2,.int .i64 1] ∧
  (Blk ((((w'.setCell ⟨w.heap.size+2,0,none⟩ (.pointer (some ⟨j,0,none⟩))).setCell ⟨w.heap.size+2,1,none⟩ (.slice B q r)).setCell ⟨w.heap.size+2,2,none⟩ (.slice A2 q2 r2)).setCell ⟨w.heap.size+2,3,none⟩ (.int .i64 1)) w.heap.size 29 #[.pointer (some ⟨j,0,none⟩),.slice B q r,.slice A2 q2 r2,.int .i64 1]∧Blk ((((w'.setCell ⟨w.heap.size+2,0,none⟩ (.pointer (some ⟨j,0,none⟩))).setCell ⟨w.heap.size+2,1,none⟩ (.slice B q r)).setCell ⟨w.heap.size+2,2,none⟩ (.slice A2 q2 r2)).setCell ⟨w.heap.size+2,3,none⟩ (.int .i64 1)) (w.heap.size+1) 38 dc∧Blk ((((w'.setCell ⟨w.heap.size+2,0,none⟩ (.pointer (some ⟨j,0,none⟩))).setCell ⟨w.heap.size+2,1,none⟩ (.slice B q r)).setCell ⟨w.heap.size+2,2,none⟩ (.slice A2 q2 r2)).setCell ⟨w.heap.size+2,3,none⟩ (.int .i64 1)) (w.heap.size+3) 58 #[.int .i64 ht,.string pr]) ∧
  DE w S j L' m' F A2 q2 r2 (.returned (.tuple #[wdV j B q r A2 q2 r2 1,.bool true])) ((((w'.setCell ⟨w.heap.size+2,0,none⟩ (.pointer (some ⟨j,0,none⟩))).setCell ⟨w.heap.size+2,1,none⟩ (.slice B q r)).setCell ⟨w.heap.size+2,2,none⟩ (.slice A2 q2 r2)).setCell ⟨w.heap.size+2,3,none⟩ (.int .i64 1)):=by
 obtain⟨k,S',g,hj⟩:=hm;have hB2:=hB.keep k hS;have hs:=hW.below.size;have n2:¬S' (w.heap.size+2):=g.not (by have:=hB.lt;omega) (fun x=>by have:=hS _ x;omega);have oB':Eg S (.slice B q r) L':=.inr oB;refine⟨hB2,put4 hB2.br _ _ _ _,⟨(Ey w' (by omega) _ _ _ _).trans hB2.bw,(Ey w' (by omega) _ _ _ _).trans hB2.bd,(Ey w' (by omega) _ _ _ _).trans hB2.ba⟩,S',B,q,r,rfl,hj.put4 hB2.br (by decide) n2 _ _ _ _,(hP.offS k oB').put4 hB2.br _ _ _ _,(hF.offS k oF).put4 hB2.br _ _ _ _,((At.of_below S hW.below).step k).put4 (by omega) _ _ _ _,fun i hi=>(g i hi).imp id (fun h=>by omega),oB'.grows hP g,oF.grows hF g⟩
theorem DE.drew {w w':World} {S:Nat→Prop} {j m':Nat} {L' F:List KV} {A2:Option Addr} {q2 r2:Nat} {en:Ending} (h:DE w S j L' m' F A2 q2 r2 en w'):DE w S j L' m' F A2 q2 r2 en w'.drew:=by
 obtain⟨S',B,q,r,he,hj,hp,hf,hk,hg,oB,oF⟩:=h;have b:Below w'.heap.size w' w'.drew:=(Below.refl _ w').drew;exact⟨S',B,q,r,he,hj.below b,hp.below b,hf.below b,⟨hk.os,hk.tape,hk.output,hk.size,hk.block⟩,hg,oB,oF⟩
end Go.Proofs.YtkejaepmoabikaaGreatDoor.W
