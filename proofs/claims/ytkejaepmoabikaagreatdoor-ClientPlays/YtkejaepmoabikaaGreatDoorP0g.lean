import Derived.Deep.RegionHeld3
import Derived.Test.YtkejaepmoabikaaGreatDoorRows
import Derived.Lib.LaidTab
import Derived.KernelRfl
import Derived.LaidEql
import Derived.Stop.Asserts
import Derived.RowKitTokens
import Derived.IntWalk
import Derived.Test.YtkejaepmoabikaaGreatDoorCards
import Derived.Test.YtkejaepmoabikaaGreatDoorTie
import Derived.Deep.DeepHandedRow
import Derived.Test.YtkejaepmoabikaaGreatDoorP0f
import Derived.Test.YtkejaepmoabikaaGreatDoorP0c
import Derived.Test.YtkejaepmoabikaaGreatDoorP0b
import Derived.Test.YtkejaepmoabikaaGreatDoorP0a
import Derived.Test.YtkejaepmoabikaaGreatDoorP0d
namespace Go.Proofs.YtkejaepmoabikaaGreatDoor.W
open Go.RowKit
open Lib renaming hid → qH
open _root_.Go.Proofs.Tryz renaming prog → qP
set_option maxHeartbeats 4000000
set_option maxRecDepth 100000
theorem Vy {w w':World} {base k n:Nat} {e:TypeId} {v:Value} {xs:List Value} (h:w.ownsRow base e k v n xs) (q:Aa w w'):w'.ownsRow base e k v n xs :=
 Cw h fun g hg=>by obtain⟨cs,hb⟩:=En h hg;exact q.2.2.2.2 g hb.lt
theorem Sh (V:World) (S:Nat→Prop) (j:Nat) (id key tx:ByteArray) (c1 c2:ByteArray) (c3:Int) (c4:Bool) (v:Value) (P:List KV) (Q:World→Prop) (w:World) (hV:Aa V w) (own:w.ownsRow V.heap.size 36 2 v P.length (AH P)) (hn:P.length≤5)
  (E:Hid (∀ W,Aa w W→Calls qP 98 #[.agg #[.string c1,.string c2,.int .i64 c3,.bool c4]] W fun e w'=>e=.returned (.tuple #[.string tx,.int .i64 0])∧Aa W w'))
  (K:Hid (∀ W,Aa w W→Calls qP 34 #[.string id] W fun e w'=>e=.returned (.string key)∧Aa W w'))
  (ST:Hid (∀ W A cap,Below V.heap.size V W→Prs W (.slice A (P.length+1) cap) (P++[(key,tx)])→(∀ g,(Value.slice A (P.length+1) cap).ownBlock=some g→V.heap.size≤g∧g<W.heap.size)→Calls qP 97 #[.pointer (some ⟨j,0,none⟩),.slice A (P.length+1) cap] W fun e w'=>e=.returned (.int .i64 0)∧Q w'∧At S W w')) :
  Calls qP 52 #[.pointer (some ⟨j,0,none⟩),.string id,.agg #[.string c1,.string c2,.int .i64 c3,.bool c4],v] w fun e w'=>e=.returned (.int .i64 0)∧Q w'∧∀ g,g<w.heap.size→¬S g→v.ownBlock≠some g→w'.heap[g]?=w.heap[g]?:=by
 obtain⟨A,cap,rfl,hcap⟩:=Du own;have HB:=qH (Blk.new w 41 #[.string c1,.string c2,.int .i64 c3,.bool c4]);have HS:=qH (Ab (Aa.refl w) (.cells #[.string c1,.string c2,.int .i64 c3,.bool c4] 41));have y0:=HB.out.c 0 (v:=.string c1) rfl;have y1:=HB.out.c 1 (v:=.string c2) rfl;have y2:=HB.out.c 2 (v:=.int .i64 c3) rfl;have y3:=HB.out.c 3 (v:=.bool c4) rfl;have HO:=qH own;have HV:=qH hV;clear own hV HB;go_enter Tryz.func52,Tryz.ntmps52
 go_wp2_with fail
 clear y0 y1 y2 y3;refine(E.out _ HS.out).mono ?_;rintro e w1 ⟨rfl,q⟩;have S1:=qH (Ac HS.out q);clear HS E q
 go_wp2_with fail
 refine(K.out _ S1.out).mono ?_;rintro e w2 ⟨rfl,q⟩;have S2:=qH (Ab (Ac S1.out q) (.cells #[.string key,.string tx] 36));have O2:=qH (Vy HO.out S2.out);have B2:=qH (Ac HV.out S2.out).below.size;clear K S1 q HO
 go_wp2_with (at_builtin;refine Dz _ rfl _ _ 22 Tryz.underlying22 rfl V.heap.size (.slice A P.length cap) (.slice (some ⟨w2.heap.size,0,none⟩) 1 1) P [(key,tx)] rfl rfl O2.out (Eu w2 (key,tx)) B2.out (by simp;omega) ?_;intro v' w3 own3 gr3 at3;obtain⟨A3,cap3,rfl,hc3⟩:=Du own3;have P3:=qH (And.intro own3 gr3);have L3:=qH ((Ac HV.out S2.out).below.grown gr3 B2.out (fun k hk=>(O2.out.lt k hk).1));clear own3 gr3 at3 O2 B2)
 have hl:(P++[(key,tx)]).length=P.length+1:=by simp
 have PP:=qH (Prs.of_own P3.out.1);have PL:=qH (fun g hg=>P3.out.1.lt g hg);have PG:=qH P3.out.2;rw [hl] at PP PL;clear hl P3;refine(ST.out _ A3 cap3 L3.out PP.out PL.out).mono ?_;rintro e w4 ⟨rfl,q,k⟩;clear ST PP PL;go_wp2
 go_ret
 refine⟨rfl,q,fun g hg hS ho=>?_⟩;have z2:=S2.out.below.size;exact(k.block g (by have:=PG.out.size;omega) hS).trans ((PG.out.block g (by omega) (fun e=>ho e.symm)).trans (S2.out.2.2.2.2 g hg))
theorem Yz (j:Nat) (id key:ByteArray) (c1 c2:ByteArray) (c3:Int) (c4:Bool) (h1:ByteArray) (h2 h3:Int) (h4 h5:ByteArray) (s1 s2:List UInt8) (Q:World→Prop) (w:World) (l1:s1.length≤100000) (l2:s2.length≤100000)
  (K1:Hid (∀ W,Aa w W→Calls qP 65 #[.int .i64 h3] W fun e w'=>e=.returned (.tuple #[.string (bs s1),.int .i64 0])∧Aa W w'))
  (K2:Hid (∀ W,Aa w W→Calls qP 62 #[.string h4] W fun e w'=>e=.returned (.tuple #[.string (bs s2),.int .i64 0])∧Aa W w'))
  (O:Hid (∀ W g,Blk W g 42 #[.int .i64 0,.int .i64 0]→Calls qP 66 #[.slice (some ⟨g,0,none⟩) 2 2] W fun e w'=>e=.returned (.int .i64 0)∧Aa W w'))
  (K:Hid (∀ W,Aa w W→Calls qP 60 #[.string id,.int .i64 h2] W fun e w'=>e=.returned (.string key)∧Aa W w'))
  (SET:h2≤c3→Hid (∀ W b,Aa w W→w.heap.size≤b→Blk W b 36 #[.string key,.string (bs (s1++s2))]→Calls qP 97 #[.pointer (some ⟨j,0,none⟩),.slice (some ⟨b,0,none⟩) 1 1] W fun e w'=>e=.returned (.int .i64 0)∧Q w'))
  (STO:c3<h2→Hid (∀ W b,Aa w W→w.heap.size≤b→Blk W b 36 #[.string key,.string (bs (s1++s2))]→Calls qP 52 #[.pointer (some ⟨j,0,none⟩),.string id,.agg #[.string c1,.string c2,.int .i64 h2,.bool c4],.slice (some ⟨b,0,none⟩) 1 1] W fun e w'=>e=.returned (.int .i64 0)∧Q w')) :
  Calls qP 51 #[.pointer (some ⟨j,0,none⟩),.string id,.agg #[.string c1,.string c2,.int .i64 c3,.bool c4],.agg #[.string h1,.int .i64 h2,.int .i64 h3,.string h4,.string h5]] w fun e w'=>e=.returned (.int .i64 0)∧Q w':=by
 have a1:∀ W,(Op.stringOp .add (bs s1) (bs s2)).run qP W=.ok (.string (bs (s1++s2))) W:=fun W=>AB W s1 s2 (by omega);generalize bs (s1++s2)=tx at *;generalize bs s1=t1 at *;generalize bs s2=t2 at *;clear l1 l2
 have z0:(w.alloc (.cells #[.string c1,.string c2,.int .i64 c3,.bool c4] 41)).heap.size=w.heap.size+1:=by simp
 have C0:=qH ((Blk.new w 41 #[.string c1,.string c2,.int .i64 c3,.bool c4]).alloc (.cells #[.string h1,.int .i64 h2,.int .i64 h3,.string h4,.string h5] 34));have H:=Blk.new (w.alloc (.cells #[.string c1,.string c2,.int .i64 c3,.bool c4] 41)) 34 #[.string h1,.int .i64 h2,.int .i64 h3,.string h4,.string h5];rw [z0] at H;have H0:=qH H;have S0:=qH (Ab (Ab (Aa.refl w) (.cells #[.string c1,.string c2,.int .i64 c3,.bool c4] 41)) (.cells #[.string h1,.int .i64 h2,.int .i64 h3,.string h4,.string h5] 34));clear z0 H;have x2:=H0.out.c 2 (v:=.int .i64 h3) rfl;go_enter Tryz.func51,Tryz.ntmps51
 go_wp2_with fail
 clear x2;refine(K1.out _ S0.out).mono ?_;rintro e w1 ⟨rfl,q⟩;have C1:=qH (C0.out.next q.below);have H1:=qH (H0.out.next q.below);have S1:=qH (Ac S0.out q);clear C0 H0 S0 K1 q;have x3:=H1.out.c 3 (v:=.string h4) rfl
 go_wp2_with fail
 clear x3;refine(K2.out _ S1.out).mono ?_;rintro e w2 ⟨rfl,q⟩;have B2:=qH (Blk.new w2 42 #[.int .i64 0,.int .i64 0]);have C2:=qH ((C1.out.next q.below).alloc (.cells #[.int .i64 0,.int .i64 0] 42));have H2:=qH ((H1.out.next q.below).alloc (.cells #[.int .i64 0,.int .i64 0] 42));have S2:=qH (Ab (Ac S1.out q) (.cells #[.int .i64 0,.int .i64 0] 42));clear C1 H1 S1 K2 q
 go_wp2_with fail
 refine(O.out _ _ B2.out).mono ?_;rintro e w3 ⟨rfl,q⟩;have C3:=qH (C2.out.next q.below);have H3:=qH (H2.out.next q.below);have S3:=qH (Ac S2.out q);clear C2 H2 S2 B2 O q;have x1:=H3.out.c 1 (v:=.int .i64 h2) rfl
 go_wp2_with fail
 clear x1;refine(K.out _ S3.out).mono ?_;rintro e w4 ⟨rfl,q⟩;have P4:=qH (Blk.new w4 36 #[.string key,.string tx]);have C4:=qH ((C3.out.next q.below).alloc (.cells #[.string key,.string tx] 36));have H4:=qH ((H3.out.next q.below).alloc (.cells #[.string key,.string tx] 36));have S4:=qH (Ab (Ac S3.out q) (.cells #[.string key,.string tx] 36));clear C3 H3 S3 K q;have x1:=H4.out.c 1 (v:=.int .i64 h2) rfl;have y0:=C4.out.c 0 (v:=.string c1) rfl;have y1:=C4.out.c 1 (v:=.string c2) rfl;have y2:=C4.out.c 2 (v:=.int .i64 c3) rfl;have y3:=C4.out.c 3 (v:=.bool c4) rfl;have g2:=C4.out.frozen 2;have p0:=P4.out.c 0 (v:=.string key) rfl;have p1:=P4.out.c 1 (v:=.string tx) rfl;have hp:=C4.out.lt
 have n4:w.heap.size≠w4.heap.size:=fun e=>by
  have:=C4.out;rw [e] at this;have h:=CM this P4.out
  revert h
  decide
 by_cases hh:h2≤c3
 ·have SET':=SET hh
  clear SET STO
  have z5:(w4.alloc (.cells #[.string key,.string tx] 36)).heap.size=w4.heap.size+1:=by simp
  have B:=Blk.new (w4.alloc (.cells #[.string key,.string tx] 36)) 36 #[.string key,.string tx];rw [z5] at B;have B5:=qH B;have L5:=qH (Nat.le_trans S4.out.below.size (Nat.le_of_eq z5));clear z5 B;have S5:=qH (Ab S4.out (.cells #[.string key,.string tx] 36))
  go_wp2_with fail
  refine(SET'.out _ _ S5.out L5.out B5.out).mono ?_;rintro e w5 ⟨rfl,q⟩;go_wp2
  go_ret
  exact⟨rfl,q⟩
 ·have STO':=STO (by omega)
  clear SET STO;have C5:=qH (C4.out.set_ 2 (.int .i64 h2));have P5:=qH (P4.out.far (p:=⟨w.heap.size,2,none⟩) n4.symm (.int .i64 h2));have S5:=qH (Ak S4.out (p:=⟨w.heap.size,2,none⟩) (Nat.le_refl _) (.int .i64 h2));have v0:=C5.out.c 0 (v:=.string c1) rfl;have v1:=C5.out.c 1 (v:=.string c2) rfl;have v2:=C5.out.c 2 (v:=.int .i64 h2) rfl;have v3:=C5.out.c 3 (v:=.bool c4) rfl;have u0:=P5.out.c 0 (v:=.string key) rfl;have u1:=P5.out.c 1 (v:=.string tx) rfl
  have z6:((w4.alloc (.cells #[.string key,.string tx] 36)).setCell ⟨w.heap.size,2,none⟩ (.int .i64 h2)).heap.size=w4.heap.size+1:=by simp
  have B:=Blk.new ((w4.alloc (.cells #[.string key,.string tx] 36)).setCell ⟨w.heap.size,2,none⟩ (.int .i64 h2)) 36 #[.string key,.string tx];rw [z6] at B;have B6:=qH B;have L6:=qH (Nat.le_trans S5.out.below.size (Nat.le_of_eq z6));have S6:=qH (Ab S5.out (.cells #[.string key,.string tx] 36));clear C4 H4 C5 P5 P4 z6 B S5
  go_wp2_with fail
  refine(STO'.out _ _ S6.out L6.out B6.out).mono ?_;rintro e w5 ⟨rfl,q⟩;go_wp2
  go_ret
  exact⟨rfl,q⟩
theorem YA (j:Nat) (id raw:ByteArray) (c1 c2:ByteArray) (c3:Int) (c4:Bool) (e:Int) (he:e≠0) (w:World)
  (A:Hid (∀ W,Aa w W→Calls qP 48 #[.pointer (some ⟨j,0,none⟩),.string id] W fun en w'=>en=.returned (.tuple #[.agg #[.string c1,.string c2,.int .i64 c3,.bool c4],.int .i64 e])∧Aa W w')) :
  Calls qP 16 #[.pointer (some ⟨j,0,none⟩),.string id,.string raw] w fun en w'=>en=.returned (.int .i64 e)∧Aa w w':=by
 have hb:(e != 0)=true:=by rw [bne_iff_ne];exact he
 clear he;go_enter Tryz.func16,Tryz.ntmps16
 go_wp2_with fail
 refine(A.out _ (Aa.refl w)).mono ?_;rintro en w1 ⟨rfl,q⟩;have C1:=qH (Blk.new w1 41 #[.string c1,.string c2,.int .i64 c3,.bool c4]);have S1:=qH (Ab q (.cells #[.string c1,.string c2,.int .i64 c3,.bool c4] 41));clear A q;go_wp2
 go_ret
 exact⟨rfl,S1.out⟩
theorem fS (j:Nat) (id raw:ByteArray) (c1 c2:ByteArray) (c3:Int) (c4:Bool) (h1:ByteArray) (h2 h3:Int) (h4 h5:ByteArray) (e:Int) (w:World)
  (A:Hid (∀ W,Aa w W→Calls qP 48 #[.pointer (some ⟨j,0,none⟩),.string id] W fun en w'=>en=.returned (.tuple #[.agg #[.string c1,.string c2,.int .i64 c3,.bool c4],.int .i64 0])∧Aa W w'))
  (X:Hid (∀ W,Aa w W→Calls qP 49 #[.agg #[.string c1,.string c2,.int .i64 c3,.bool c4],.string raw] W fun en w'=>en=.returned (.tuple #[.agg #[.string h1,.int .i64 h2,.int .i64 h3,.string h4,.string h5],.iface 160 (.agg #[.int .i64 e])])∧Aa W w'))
  (R:Hid (∀ W,Aa w W→Calls qP 50 #[.iface 160 (.agg #[.int .i64 e])] W fun en w'=>en=.returned (.int .i64 e)∧Aa W w')) :
  Calls qP 16 #[.pointer (some ⟨j,0,none⟩),.string id,.string raw] w fun en w'=>en=.returned (.int .i64 e)∧Aa w w':=by
 go_enter Tryz.func16,Tryz.ntmps16
 go_wp2_with fail
 refine(A.out _ (Aa.refl w)).mono ?_;rintro en w1 ⟨rfl,q⟩;have C1:=qH (Blk.new w1 41 #[.string c1,.string c2,.int .i64 c3,.bool c4]);have S1:=qH (Ab q (.cells #[.string c1,.string c2,.int .i64 c3,.bool c4] 41));clear A q;have y0:=C1.out.c 0 (v:=.string c1) rfl;have y1:=C1.out.c 1 (v:=.string c2) rfl;have y2:=C1.out.c 2 (v:=.int .i64 c3) rfl;have y3:=C1.out.c 3 (v:=.bool c4) rfl
 go_wp2_with fail
 clear y0 y1 y2 y3;refine(X.out _ S1.out).mono ?_;rintro en w2 ⟨rfl,q⟩;have C2:=qH ((C1.out.next q.below).alloc (.cells #[.string h1,.int .i64 h2,.int .i64 h3,.string h4,.string h5] 34));have H2:=qH (Blk.new w2 34 #[.string h1,.int .i64 h2,.int .i64 h3,.string h4,.string h5]);have S2:=qH (Ab (Ac S1.out q) (.cells #[.string h1,.int .i64 h2,.int .i64 h3,.string h4,.string h5] 34));clear C1 S1 X q
 go_wp2_with fail
 refine(R.out _ S2.out).mono ?_;rintro en w3 ⟨rfl,q⟩;have S3:=qH (Ac S2.out q);clear C2 H2 S2 R q;go_wp2
 go_ret
 exact⟨rfl,S3.out⟩
theorem aY (j:Nat) (id raw:ByteArray) (c1 c2:ByteArray) (c3:Int) (c4:Bool) (h1:ByteArray) (h2 h3:Int) (h4 h5:ByteArray) (x1:Int) (x2:ByteArray) (f:Int) (hf:f≠0) (Q:World→Prop) (w:World)
  (A:Hid (∀ W,Aa w W→Calls qP 48 #[.pointer (some ⟨j,0,none⟩),.string id] W fun en w'=>en=.returned (.tuple #[.agg #[.string c1,.string c2,.int .i64 c3,.bool c4],.int .i64 0])∧Aa W w'))
  (X:Hid (∀ W,Aa w W→Calls qP 49 #[.agg #[.string c1,.string c2,.int .i64 c3,.bool c4],.string raw] W fun en w'=>en=.returned (.tuple #[.agg #[.string h1,.int .i64 h2,.int .i64 h3,.string h4,.string h5],.nilIface])∧Aa W w'))
  (E:Hid (∀ W,Aa w W→Calls qP 21 #[.pointer (some ⟨j,0,none⟩),.string id,.int .i64 h2] W fun en w'=>en=.returned (.tuple #[.agg #[.int .i64 x1,.string x2],.int .i64 f])∧Aa W w'))
  (AC:Hid (∀ W,Aa w W→Calls qP 51 #[.pointer (some ⟨j,0,none⟩),.string id,.agg #[.string c1,.string c2,.int .i64 c3,.bool c4],.agg #[.string h1,.int .i64 h2,.int .i64 h3,.string h4,.string h5]] W fun en w'=>en=.returned (.int .i64 0)∧Q w')) :
  Calls qP 16 #[.pointer (some ⟨j,0,none⟩),.string id,.string raw] w fun en w'=>en=.returned (.int .i64 0)∧Q w':=by
 have hb:(f != 0)=true:=by rw [bne_iff_ne];exact hf
 clear hf;go_enter Tryz.func16,Tryz.ntmps16
 go_wp2_with fail
 refine(A.out _ (Aa.refl w)).mono ?_;rintro en w1 ⟨rfl,q⟩;have C1:=qH (Blk.new w1 41 #[.string c1,.string c2,.int .i64 c3,.bool c4]);have S1:=qH (Ab q (.cells #[.string c1,.string c2,.int .i64 c3,.bool c4] 41));clear A q;have y0:=C1.out.c 0 (v:=.string c1) rfl;have y1:=C1.out.c 1 (v:=.string c2) rfl;have y2:=C1.out.c 2 (v:=.int .i64 c3) rfl;have y3:=C1.out.c 3 (v:=.bool c4) rfl
 go_wp2_with fail
 clear y0 y1 y2 y3;refine(X.out _ S1.out).mono ?_;rintro en w2 ⟨rfl,q⟩;have C2:=qH ((C1.out.next q.below).alloc (.cells #[.string h1,.int .i64 h2,.int .i64 h3,.string h4,.string h5] 34));have H2:=qH (Blk.new w2 34 #[.string h1,.int .i64 h2,.int .i64 h3,.string h4,.string h5]);have S2:=qH (Ab (Ac S1.out q) (.cells #[.string h1,.int .i64 h2,.int .i64 h3,.string h4,.string h5] 34));clear C1 S1 X q;have o0:=H2.out.c 0 (v:=.string h1) rfl;have o1:=H2.out.c 1 (v:=.int .i64 h2) rfl;have o2:=H2.out.c 2 (v:=.int .i64 h3) rfl;have o3:=H2.out.c 3 (v:=.string h4) rfl;have o4:=H2.out.c 4 (v:=.string h5) rfl;have C3:=qH (C2.out.alloc (.cells #[.int .i64 h3,.string h4] 62));have H3:=qH (H2.out.alloc (.cells #[.int .i64 h3,.string h4] 62))
 have zz:(w2.alloc (.cells #[.string h1,.int .i64 h2,.int .i64 h3,.string h4,.string h5] 34)).heap.size=w2.heap.size+1:=by simp
 have D:=Blk.new (w2.alloc (.cells #[.string h1,.int .i64 h2,.int .i64 h3,.string h4,.string h5] 34)) 62 #[.int .i64 h3,.string h4];rw [zz] at D;have D3:=qH D;clear zz D;have S3:=qH (Ab S2.out (.cells #[.int .i64 h3,.string h4] 62));have v1:=H3.out.c 1 (v:=.int .i64 h2) rfl;clear C2 H2 S2
 go_wp2_with fail
 clear o0 o1 o2 o3 o4 v1;refine(E.out _ S3.out).mono ?_;rintro en w3 ⟨rfl,q⟩;have C4:=qH ((C3.out.next q.below).alloc (.cells #[.int .i64 x1,.string x2] 62));have H4:=qH ((H3.out.next q.below).alloc (.cells #[.int .i64 x1,.string x2] 62));have D4:=qH ((D3.out.next q.below).alloc (.cells #[.int .i64 x1,.string x2] 62));have X4:=qH (Blk.new w3 62 #[.int .i64 x1,.string x2]);have S4:=qH (Ab (Ac S3.out q) (.cells #[.int .i64 x1,.string x2] 62));clear C3 H3 D3 S3 E q;have y0:=C4.out.c 0 (v:=.string c1) rfl;have y1:=C4.out.c 1 (v:=.string c2) rfl;have y2:=C4.out.c 2 (v:=.int .i64 c3) rfl;have y3:=C4.out.c 3 (v:=.bool c4) rfl;have o0:=H4.out.c 0 (v:=.string h1) rfl;have o1:=H4.out.c 1 (v:=.int .i64 h2) rfl;have o2:=H4.out.c 2 (v:=.int .i64 h3) rfl;have o3:=H4.out.c 3 (v:=.string h4) rfl;have o4:=H4.out.c 4 (v:=.string h5) rfl
 go_wp2_with fail
 refine(AC.out _ S4.out).mono ?_;rintro en w4 ⟨rfl,q⟩;clear C4 H4 D4 X4 S4 AC y0 y1 y2 y3 o0 o1 o2 o3 o4;go_wp2
 go_ret
 exact⟨rfl,q⟩
theorem YB (j:Nat) (id raw:ByteArray) (c1 c2:ByteArray) (c3:Int) (c4:Bool) (h1:ByteArray) (h2 h3:Int) (h4 h5:ByteArray) (w:World)
  (A:Hid (∀ W,Aa w W→Calls qP 48 #[.pointer (some ⟨j,0,none⟩),.string id] W fun en w'=>en=.returned (.tuple #[.agg #[.string c1,.string c2,.int .i64 c3,.bool c4],.int .i64 0])∧Aa W w'))
  (X:Hid (∀ W,Aa w W→Calls qP 49 #[.agg #[.string c1,.string c2,.int .i64 c3,.bool c4],.string raw] W fun en w'=>en=.returned (.tuple #[.agg #[.string h1,.int .i64 h2,.int .i64 h3,.string h4,.string h5],.nilIface])∧Aa W w'))
  (E:Hid (∀ W,Aa w W→Calls qP 21 #[.pointer (some ⟨j,0,none⟩),.string id,.int .i64 h2] W fun en w'=>en=.returned (.tuple #[.agg #[.int .i64 h3,.string h4],.int .i64 0])∧Aa W w')) :
  Calls qP 16 #[.pointer (some ⟨j,0,none⟩),.string id,.string raw] w fun en w'=>en=.returned (.int .i64 9)∧Aa w w':=by
 have EQ:∀ W:World,(Op.equalIn 10000 62 (.agg #[.int .i64 h3,.string h4]) (.agg #[.int .i64 h3,.string h4])).run qP W=.ok true W:=fun W=>by rw [NM];simp
 have GU:=Ks;go_enter Tryz.func16,Tryz.ntmps16
 go_wp2_with fail
 refine(A.out _ (Aa.refl w)).mono ?_;rintro en w1 ⟨rfl,q⟩;have C1:=qH (Blk.new w1 41 #[.string c1,.string c2,.int .i64 c3,.bool c4]);have S1:=qH (Ab q (.cells #[.string c1,.string c2,.int .i64 c3,.bool c4] 41));clear A q;have y0:=C1.out.c 0 (v:=.string c1) rfl;have y1:=C1.out.c 1 (v:=.string c2) rfl;have y2:=C1.out.c 2 (v:=.int .i64 c3) rfl;have y3:=C1.out.c 3 (v:=.bool c4) rfl
 go_wp2_with fail
 clear y0 y1 y2 y3;refine(X.out _ S1.out).mono ?_;rintro en w2 ⟨rfl,q⟩;have C2:=qH ((C1.out.next q.below).alloc (.cells #[.string h1,.int .i64 h2,.int .i64 h3,.string h4,.string h5] 34));have H2:=qH (Blk.new w2 34 #[.string h1,.int .i64 h2,.int .i64 h3,.string h4,.string h5]);have S2:=qH (Ab (Ac S1.out q) (.cells #[.string h1,.int .i64 h2,.int .i64 h3,.string h4,.string h5] 34));clear C1 S1 X q;have o0:=H2.out.c 0 (v:=.string h1) rfl;have o1:=H2.out.c 1 (v:=.int .i64 h2) rfl;have o2:=H2.out.c 2 (v:=.int .i64 h3) rfl;have o3:=H2.out.c 3 (v:=.string h4) rfl;have o4:=H2.out.c 4 (v:=.string h5) rfl;have C3:=qH (C2.out.alloc (.cells #[.int .i64 h3,.string h4] 62));have H3:=qH (H2.out.alloc (.cells #[.int .i64 h3,.string h4] 62))
 have zz:(w2.alloc (.cells #[.string h1,.int .i64 h2,.int .i64 h3,.string h4,.string h5] 34)).heap.size=w2.heap.size+1:=by simp
 have D:=Blk.new (w2.alloc (.cells #[.string h1,.int .i64 h2,.int .i64 h3,.string h4,.string h5] 34)) 62 #[.int .i64 h3,.string h4];rw [zz] at D;have D3:=qH D;clear zz D;have S3:=qH (Ab S2.out (.cells #[.int .i64 h3,.string h4] 62));have v1:=H3.out.c 1 (v:=.int .i64 h2) rfl;clear C2 H2 S2
 go_wp2_with fail
 clear o0 o1 o2 o3 o4 v1;refine(E.out _ S3.out).mono ?_;rintro en w3 ⟨rfl,q⟩;have C4:=qH ((C3.out.next q.below).alloc (.cells #[.int .i64 h3,.string h4] 62));have H4:=qH ((H3.out.next q.below).alloc (.cells #[.int .i64 h3,.string h4] 62));have D4:=qH ((D3.out.next q.below).alloc (.cells #[.int .i64 h3,.string h4] 62));have X4:=qH (Blk.new w3 62 #[.int .i64 h3,.string h4]);have S4:=qH (Ab (Ac S3.out q) (.cells #[.int .i64 h3,.string h4] 62));clear C3 H3 D3 S3 E q;have u0:=D4.out.c 0 (v:=.int .i64 h3) rfl;have u1:=D4.out.c 1 (v:=.string h4) rfl;have z0:=X4.out.c 0 (v:=.int .i64 h3) rfl;have z1:=X4.out.c 1 (v:=.string h4) rfl;go_wp2
 go_ret
 exact⟨rfl,S4.out⟩
theorem aZ (j:Nat) (id raw:ByteArray) (c1 c2:ByteArray) (c3:Int) (c4:Bool) (h1:ByteArray) (h2 h3:Int) (h4 h5:ByteArray) (x1:Int) (x2:ByteArray) (hx:¬(x1=h3∧x2=h4)) (Q:World→Prop) (w:World)
  (A:Hid (∀ W,Aa w W→Calls qP 48 #[.pointer (some ⟨j,0,none⟩),.string id] W fun en w'=>en=.returned (.tuple #[.agg #[.string c1,.string c2,.int .i64 c3,.bool c4],.int .i64 0])∧Aa W w'))
  (X:Hid (∀ W,Aa w W→Calls qP 49 #[.agg #[.string c1,.string c2,.int .i64 c3,.bool c4],.string raw] W fun en w'=>en=.returned (.tuple #[.agg #[.string h1,.int .i64 h2,.int .i64 h3,.string h4,.string h5],.nilIface])∧Aa W w'))
  (E:Hid (∀ W,Aa w W→Calls qP 21 #[.pointer (some ⟨j,0,none⟩),.string id,.int .i64 h2] W fun en w'=>en=.returned (.tuple #[.agg #[.int .i64 x1,.string x2],.int .i64 0])∧Aa W w'))
  (ST:Hid (∀ W,Aa w W→Calls qP 52 #[.pointer (some ⟨j,0,none⟩),.string id,.agg #[.string c1,.string c2,.int .i64 c3,.bool true],.slice none 0 0] W fun en w'=>en=.returned (.int .i64 0)∧Q w')) :
  Calls qP 16 #[.pointer (some ⟨j,0,none⟩),.string id,.string raw] w fun en w'=>en=.returned (.int .i64 0)∧Q w':=by
 have EQ:∀ W:World,(Op.equalIn 10000 62 (.agg #[.int .i64 x1,.string x2]) (.agg #[.int .i64 h3,.string h4])).run qP W=.ok false W:=fun W=>by rw [NM,decide_eq_false hx]
 have GU:=Ks;clear hx;go_enter Tryz.func16,Tryz.ntmps16
 go_wp2_with fail
 refine(A.out _ (Aa.refl w)).mono ?_;rintro en w1 ⟨rfl,q⟩;have C1:=qH (Blk.new w1 41 #[.string c1,.string c2,.int .i64 c3,.bool c4]);have S1:=qH (Ab q (.cells #[.string c1,.string c2,.int .i64 c3,.bool c4] 41));have Q1:=qH q.below.size;clear A q;have y0:=C1.out.c 0 (v:=.string c1) rfl;have y1:=C1.out.c 1 (v:=.string c2) rfl;have y2:=C1.out.c 2 (v:=.int .i64 c3) rfl;have y3:=C1.out.c 3 (v:=.bool c4) rfl
 go_wp2_with fail
 clear y0 y1 y2 y3;refine(X.out _ S1.out).mono ?_;rintro en w2 ⟨rfl,q⟩;have C2:=qH ((C1.out.next q.below).alloc (.cells #[.string h1,.int .i64 h2,.int .i64 h3,.string h4,.string h5] 34));have H2:=qH (Blk.new w2 34 #[.string h1,.int .i64 h2,.int .i64 h3,.string h4,.string h5]);have S2:=qH (Ab (Ac S1.out q) (.cells #[.string h1,.int .i64 h2,.int .i64 h3,.string h4,.string h5] 34));clear C1 S1 X q;have o0:=H2.out.c 0 (v:=.string h1) rfl;have o1:=H2.out.c 1 (v:=.int .i64 h2) rfl;have o2:=H2.out.c 2 (v:=.int .i64 h3) rfl;have o3:=H2.out.c 3 (v:=.string h4) rfl;have o4:=H2.out.c 4 (v:=.string h5) rfl;have C3:=qH (C2.out.alloc (.cells #[.int .i64 h3,.string h4] 62));have H3:=qH (H2.out.alloc (.cells #[.int .i64 h3,.string h4] 62))
 have zz:(w2.alloc (.cells #[.string h1,.int .i64 h2,.int .i64 h3,.string h4,.string h5] 34)).heap.size=w2.heap.size+1:=by simp
 have D:=Blk.new (w2.alloc (.cells #[.string h1,.int .i64 h2,.int .i64 h3,.string h4,.string h5] 34)) 62 #[.int .i64 h3,.string h4];rw [zz] at D;have D3:=qH D;clear zz D;have S3:=qH (Ab S2.out (.cells #[.int .i64 h3,.string h4] 62));have v1:=H3.out.c 1 (v:=.int .i64 h2) rfl;clear C2 H2 S2
 go_wp2_with fail
 clear o0 o1 o2 o3 o4 v1;refine(E.out _ S3.out).mono ?_;rintro en w3 ⟨rfl,q⟩;have C4:=qH ((C3.out.next q.below).alloc (.cells #[.int .i64 x1,.string x2] 62));have H4:=qH ((H3.out.next q.below).alloc (.cells #[.int .i64 x1,.string x2] 62));have D4:=qH ((D3.out.next q.below).alloc (.cells #[.int .i64 x1,.string x2] 62));have X4:=qH (Blk.new w3 62 #[.int .i64 x1,.string x2]);have S4:=qH (Ab (Ac S3.out q) (.cells #[.int .i64 x1,.string x2] 62));clear C3 H3 D3 S3 E q;have u0:=D4.out.c 0 (v:=.int .i64 h3) rfl;have u1:=D4.out.c 1 (v:=.string h4) rfl;have z0:=X4.out.c 0 (v:=.int .i64 x1) rfl;have z1:=X4.out.c 1 (v:=.string x2) rfl;have y0:=C4.out.c 0 (v:=.string c1) rfl;have y1:=C4.out.c 1 (v:=.string c2) rfl;have y2:=C4.out.c 2 (v:=.int .i64 c3) rfl;have y3:=C4.out.c 3 (v:=.bool c4) rfl;have g3:=C4.out.frozen 3;have C5:=qH (C4.out.set_ 3 (.bool true));have S5:=qH (Ak S4.out (p:=⟨w1.heap.size,3,none⟩) Q1.out (.bool true));have k0:=C5.out.c 0 (v:=.string c1) rfl;have k1:=C5.out.c 1 (v:=.string c2) rfl;have k2:=C5.out.c 2 (v:=.int .i64 c3) rfl;have k3:=C5.out.c 3 (v:=.bool true) rfl;clear C4 H4 D4 X4 C5 S4
 go_wp2_with fail
 refine(ST.out _ S5.out).mono ?_;rintro en w4 ⟨rfl,q⟩;clear ST S5 y0 y1 y2 y3 z0 z1 u0 u1 k0 k1 k2 k3 g3;go_wp2
 go_ret
 exact⟨rfl,q⟩
theorem YC (j:Nat) (chain key:ByteArray) (e:Int) (he:e≠0) (w:World)
  (K1:Hid (∀ W,Aa w W→Calls qP 61 #[.int .i64 6,.string chain] W fun en w'=>en=.returned (.int .i64 e)∧Aa W w')) :
  Calls qP 23 #[.pointer (some ⟨j,0,none⟩),.string chain,.string key] w fun en w'=>en=.returned (.tuple #[.string ⟨#[]⟩,.int .i64 e])∧Aa w w':=by
 have hb:(e != 0)=true:=by rw [bne_iff_ne];exact he
 clear he;go_enter Tryz.func23,Tryz.ntmps23
 go_wp2_with fail
 refine(K1.out _ (Aa.refl w)).mono ?_;rintro en w1 ⟨rfl,q⟩;go_wp2
 go_ret2
 exact⟨rfl,q⟩
theorem YD (j:Nat) (chain key id k1 t x:ByteArray) (n:Nat) (hn:n≤1000000000) (S:Nat→Prop) (Q:World→Prop) (w:World) (hS:∀ i,S i→i<w.heap.size)
  (K1:Hid (∀ W,Aa w W→Calls qP 61 #[.int .i64 6,.string chain] W fun en w'=>en=.returned (.int .i64 0)∧Aa W w'))
  (K2:Hid (∀ W,Aa w W→Calls qP 62 #[.string key] W fun en w'=>en=.returned (.tuple #[.string t,.int .i64 0])∧Aa W w'))
  (K3:Hid (∀ W,Aa w W→Calls qP 63 #[.pointer (some ⟨j,0,none⟩)] W fun en w'=>en=.returned (.int .i64 n)∧Aa W w'))
  (K4:Hid (∀ W,Aa w W→Calls qP 64 #[.int .i64 3,.int .i64 n] W fun en w'=>en=.returned (.tuple #[.string id,.int .i64 0])∧Aa W w'))
  (K5:Hid (∀ W,Aa w W→Calls qP 65 #[.int .i64 ((n:Int)+1)] W fun en w'=>en=.returned (.tuple #[.string x,.int .i64 0])∧Aa W w'))
  (O:Hid (∀ W g,Blk W g 42 #[.int .i64 0,.int .i64 0]→Calls qP 66 #[.slice (some ⟨g,0,none⟩) 2 2] W fun e w'=>e=.returned (.int .i64 0)∧Aa W w'))
  (K6:Hid (∀ W,Aa w W→Calls qP 67 #[] W fun en w'=>en=.returned (.string k1)∧Aa W w'))
  (ST:Hid (∀ W b,Aa w W→w.heap.size≤b→Blk W b 36 #[.string k1,.string x]→Calls qP 52 #[.pointer (some ⟨j,0,none⟩),.string id,.agg #[.string chain,.string key,.int .i64 0,.bool false],.slice (some ⟨b,0,none⟩) 1 1] W fun e w'=>e=.returned (.int .i64 0)∧Q w'∧∀ g,g<W.heap.size→¬S g→some b≠some g→w'.heap[g]?=W.heap[g]?)) :
  Calls qP 23 #[.pointer (some ⟨j,0,none⟩),.string chain,.string key] w fun en w'=>en=.returned (.tuple #[.string id,.int .i64 0])∧Q w':=by
 have hn0:(0:Int)≤n:=by omega
 have hn1:(n:Int)≤1000000000:=by omega
 go_enter Tryz.func23,Tryz.ntmps23
 go_wp2_with fail
 refine(K1.out _ (Aa.refl w)).mono ?_;rintro en w1 ⟨rfl,q⟩;have S1:=qH q;clear q K1
 go_wp2_with fail
 refine(K2.out _ S1.out).mono ?_;rintro en w2 ⟨rfl,q⟩;have S2:=qH (Ac S1.out q);clear q K2 S1
 go_wp2_with fail
 refine(K3.out _ S2.out).mono ?_;rintro en w3 ⟨rfl,q⟩;have S3:=qH (Ac S2.out q);clear q K3 S2
 go_wp2_with fail
 refine(K4.out _ S3.out).mono ?_;rintro en w4 ⟨rfl,q⟩;have S4:=qH (Ac S3.out q);clear q K4 S3
 go_wp2_with fail
 refine(K5.out _ S4.out).mono ?_;rintro en w5 ⟨rfl,q⟩;have B5:=qH (Blk.new w5 42 #[.int .i64 0,.int .i64 0]);have S5:=qH (Ab (Ac S4.out q) (.cells #[.int .i64 0,.int .i64 0] 42));clear q K5 S4
 go_wp2_with fail
 refine(O.out _ _ B5.out).mono ?_;rintro en w6 ⟨rfl,q⟩;have S6:=qH (Ac S5.out q);clear q O S5 B5;have C6:=qH (Blk.new w6 41 #[.string chain,.string key,.int .i64 0,.bool false]);have S7:=qH (Ab S6.out (.cells #[.string chain,.string key,.int .i64 0,.bool false] 41));have lt6:=S6.out.below.size;go_wp2;generalize w6.alloc (.cells #[.string chain,.string key,.int .i64 0,.bool false] 41)=V at *;have c0:=C6.out.c 0 (v:=.string chain) rfl;have c1:=C6.out.c 1 (v:=.string key) rfl;have c2:=C6.out.c 2 (v:=.int .i64 0) rfl;have c3:=C6.out.c 3 (v:=.bool false) rfl;have CB:=C6;clear C6 S6;have r0:=Aa.refl V;have K6':=qH (fun W (hW:Aa V W)=>(K6.out W (Ac S7.out hW)).mono fun en w' (h:en=.returned (.string k1)∧Aa W w')=>And.intro h.1 (Ac hW h.2));clear K6
 have F9:=qH (fun(W w':World) (hW:Aa V W) (h:∀ g,g<(W.alloc (.cells #[.string k1,.string x] 36)).heap.size→¬S g→some W.heap.size≠some g→w'.heap[g]?=(W.alloc (.cells #[.string k1,.string x] 36)).heap[g]?) =>
  have hlt:w6.heap.size<W.heap.size:=Nat.lt_of_lt_of_le CB.out.lt hW.below.size
  have e:w'.heap[w6.heap.size]?=V.heap[w6.heap.size]?:=(h w6.heap.size (by simp;omega) (fun hs=>by have:=hS _ hs;omega) (fun x=>by injection x with x;omega)).trans ((Below.heap_alloc W _ _ hlt).trans (hW.2.2.2.2 _ CB.out.lt))
  show w'.cell? ⟨w6.heap.size,0,none⟩=some (.string chain)∧w'.cell? ⟨w6.heap.size,1,none⟩=some (.string key)∧w'.cell? ⟨w6.heap.size,2,none⟩=some (.int .i64 0)∧w'.cell? ⟨w6.heap.size,3,none⟩=some (.bool false) from
  have hb:Blk w' w6.heap.size 41 #[.string chain,.string key,.int .i64 0,.bool false]:=e.trans CB.out
  ⟨hb.c 0 rfl,hb.c 1 rfl,hb.c 2 rfl,hb.c 3 rfl⟩)
 have FB:=qH (fun W (hW:Aa w W)=>And.intro (Ab hW (.cells #[.string k1,.string x] 36)) (Blk.new W 36 #[.string k1,.string x]))
 go_region_held3 (fun W=>W.cell? ⟨w6.heap.size,0,none⟩=some (.string chain)∧W.cell? ⟨w6.heap.size,1,none⟩=some (.string key)∧W.cell? ⟨w6.heap.size,2,none⟩=some (.int .i64 0)∧W.cell? ⟨w6.heap.size,3,none⟩=some (.bool false))
  (first|exact F9.out _ _ s3 hk|exact⟨s3.cell c0,s3.cell c1,s3.cell c2,s3.cell c3⟩|go_keep)
  (first
    | (go_at_call 67;refine(K6'.out _ (by exact r0)).mono ?_;clear K6';rintro en w7 ⟨rfl,s3⟩)
    | (go_at_call 52;refine(ST.out _ _ (by exact(FB.out _ (Ac S7.out s3)).1) (by exact(Ac S7.out s3).below.size) (by exact(FB.out _ (Ac S7.out s3)).2)).mono ?_;clear ST;rintro en w8 ⟨rfl,q,hk⟩))
 all_goals go_wp2
 all_goals go_ret2
 all_goals exact⟨rfl,q⟩
theorem bA (h:Hdr):Br h=if Mb [(Ai h.chain).2,(Ag h.height).2,(Ag h.time).2,(Ai h.root).2]≠0 then ([],Mb [(Ai h.chain).2,(Ag h.height).2,(Ag h.time).2,(Ai h.root).2]) else ((((Ai h.chain).1++(Ag h.height).1)++(Ag h.time).1)++(Ai h.root).1,0):=by
 unfold Br;generalize Ai h.chain=p1;generalize Ag h.height=p2;generalize Ag h.time=p3;generalize Ai h.root=p4;obtain⟨s1,f1⟩:=p1;obtain⟨s2,f2⟩:=p2;obtain⟨s3,f3⟩:=p3;obtain⟨s4,f4⟩:=p4;simp only [Ar,Mb];by_cases h1:f1=0<;>by_cases h2:f2=0<;>by_cases h3:f3=0<;>by_cases h4:f4=0<;>simp [h1,h2,h3,h4]
theorem Vz (c:ByteArray) (a b:Int) (r m:ByteArray) (s1 s2 s3 s4:List UInt8) (f1 f2 f3 f4 o:Int) (w:World) (l1:s1.length≤100000) (l2:s2.length≤100000) (l3:s3.length≤100000) (l4:s4.length≤100000)
  (K1:Hid (∀ W,Calls qP 62 #[.string c] W fun e w'=>e=.returned (.tuple #[.string (bs s1),.int .i64 f1])∧Below W.heap.size W w'))
  (K2:Hid (∀ W,Calls qP 65 #[.int .i64 a] W fun e w'=>e=.returned (.tuple #[.string (bs s2),.int .i64 f2])∧Below W.heap.size W w'))
  (K3:Hid (∀ W,Calls qP 65 #[.int .i64 b] W fun e w'=>e=.returned (.tuple #[.string (bs s3),.int .i64 f3])∧Below W.heap.size W w'))
  (K4:Hid (∀ W,Calls qP 62 #[.string r] W fun e w'=>e=.returned (.tuple #[.string (bs s4),.int .i64 f4])∧Below W.heap.size W w'))
  (O:Hid (∀ W g,Blk W g 42 #[.int .i64 f1,.int .i64 f2,.int .i64 f3,.int .i64 f4]→Calls qP 66 #[.slice (some ⟨g,0,none⟩) 4 4] W fun e w'=>e=.returned (.int .i64 o)∧Aa W w')) :
  Calls qP 174 #[.agg #[.string c,.int .i64 a,.int .i64 b,.string r,.string m]] w fun e w'=>e=.returned (AP (if o≠0 then ([],o) else (((s1++s2)++s3)++s4,0)))∧Aa w w':=by
 have HB:=qH (Blk.new w 34 #[.string c,.int .i64 a,.int .i64 b,.string r,.string m]);have HS:=qH (show Aa w (w.alloc (.cells #[.string c,.int .i64 a,.int .i64 b,.string r,.string m] 34)) from Ad ((Below.refl _ w).alloc (Nat.le_refl _) _));have a1:∀ W,(Op.stringOp .add (bs s1) (bs s2)).run qP W=.ok (.string (bs (s1++s2))) W:=fun W=>AB W s1 s2 (by omega);have a2:∀ W,(Op.stringOp .add (bs (s1++s2)) (bs s3)).run qP W=.ok (.string (bs ((s1++s2)++s3))) W:=fun W=>AB W _ _ (by rw [List.length_append];omega);have a3:∀ W,(Op.stringOp .add (bs ((s1++s2)++s3)) (bs s4)).run qP W=.ok (.string (bs (((s1++s2)++s3)++s4))) W:=fun W=>AB W _ _ (by rw [List.length_append,List.length_append];omega);obtain⟨⟨p1,p2⟩,hp⟩:∃ p:List UInt8×Int,p=if o≠0 then ([],o) else (((s1++s2)++s3)++s4,0):=⟨_,rfl⟩;rw [←hp];generalize ((s1++s2)++s3)++s4=x3 at *;generalize (s1++s2)++s3=x2 at *;generalize s1++s2=x1 at *;have HP:=qH hp;clear hp;unfold AP;clear l1 l2 l3 l4;have y0:(w.alloc (.cells #[.string c,.int .i64 a,.int .i64 b,.string r,.string m] 34)).cell? ⟨w.heap.size,0,none⟩=some (.string c):=HB.out.c 0 rfl;go_enter Tryz.func174,Tryz.ntmps174
 go_wp2_with fail
 refine(K1.out _).mono ?_;rintro e w1 ⟨rfl,q1⟩;have X1:=qH (HB.out.next q1);have S1:=qH (Ad (Ae HS.out.below q1));clear HB HS K1 q1 y0;have y0:w1.cell? ⟨w.heap.size,1,none⟩=some (.int .i64 a):=X1.out.c 1 rfl
 go_wp2_with fail
 refine(K2.out _).mono ?_;rintro e w2 ⟨rfl,q2⟩;have X2:=qH (X1.out.next q2);have S2:=qH (Ad (Ae S1.out.below q2));clear X1 S1 K2 q2 y0;have y0:w2.cell? ⟨w.heap.size,2,none⟩=some (.int .i64 b):=X2.out.c 2 rfl
 go_wp2_with fail
 refine(K3.out _).mono ?_;rintro e w3 ⟨rfl,q3⟩;have X3:=qH (X2.out.next q3);have S3:=qH (Ad (Ae S2.out.below q3));clear X2 S2 K3 q3 y0;have y0:w3.cell? ⟨w.heap.size,3,none⟩=some (.string r):=X3.out.c 3 rfl
 go_wp2_with fail
 refine(K4.out _).mono ?_;rintro e w4 ⟨rfl,q4⟩;have S4:=qH (Ad (Ae S3.out.below q4));clear X3 S3 K4 q4 y0;have B5:=qH (Blk.new w4 42 #[.int .i64 f1,.int .i64 f2,.int .i64 f3,.int .i64 f4]);have S5:=qH (show Aa w (w4.alloc (.cells #[.int .i64 f1,.int .i64 f2,.int .i64 f3,.int .i64 f4] 42)) from Ad (S4.out.below.alloc S4.out.below.size _));clear S4
 go_wp2_with fail
 refine(O.out _ _ B5.out).mono ?_;rintro e w6 ⟨rfl,q6⟩;have S6:=qH (Ad (Ae S5.out.below q6.below));clear S5 B5 O q6;by_cases ho:o=0
 ·subst ho
  have hp:=HP.out;rw [if_neg (by simp)] at hp;obtain⟨rfl,rfl⟩:=Prod.mk.inj hp;clear hp HP;go_wp2
  go_ret2
  exact⟨rfl,S6.out⟩
 ·have hb:(o != 0)=true:=by rw [bne_iff_ne];exact ho
  have hp:=HP.out;rw [if_pos ho] at hp;obtain⟨rfl,rfl⟩:=Prod.mk.inj hp;clear hp HP ho;go_wp2
  go_ret2
  exact⟨rfl,S6.out⟩
theorem jK (h:Hdr) (w:World):Calls qP 174 #[hdV h] w fun e w'=>e=.returned (AP (Br h))∧Aa w w':=by
 have t1:=AF h.chain;have t2:=Au h.height;have t3:=Au h.time;have t4:=AF h.root;rw [bA];exact Vz h.chain h.height h.time h.root h.mac _ _ _ _ _ _ _ _ _ w (by omega) (by omega) (by omega) (by omega) (qH fun W=>Kx _ W) (qH fun W=>QB _ W) (qH fun W=>QB _ W) (qH fun W=>Kx _ W) (qH fun W g hB=>or4 _ _ _ _ _ W g hB)
def bC (f:List UInt8) (G:Nat) (w wr:World):Prop:=Blk wr G 272 (bv f)∧Below w.heap.size w wr∧Ba wr
theorem bC.next {f:List UInt8} {G:Nat} {w wr w':World} (h:bC f G w wr) (hb:Below wr.heap.size wr w'):bC f G w w':=⟨h.1.next hb,h.2.1.trans (hb.mono h.2.1.size),h.2.2.next hb⟩
theorem Qo (k s:ByteArray) (w:World) (hr:Ba w) (hk:k.size≤1099511627776) (hs:s.size≤1000000) (f m1 m2 q1 q2:List UInt8) (h1:mix 92 f=m1) (h2:mix 54 f=m2)
  (h3:Ax (m2++s.data.toList)=q1) (h4:Ax (m1++q1)=q2) (hf:FI (Gj k.data.toList)=f) :
  Calls qP 175 #[.string k,.string s] w fun e w'=>e=.returned (.string (bs q2))∧Below w.heap.size w w':=by
 have fl:f.length=64:=by rw [←hf,Gx _ (Mg _)]
 have hs64:(bv f).size=64:=by rw [CE,fl]
 have R0:=qH (dQ k w hr hk);rw [hf] at R0
 have l1:m1.length=64:=by rw [←h1,ET,fl]
 have l2:m2.length=64:=by rw [←h2,ET,fl]
 have l3:q1.length=32:=by rw [←h3,Bc]
 have a1:∀ W:World,(Op.stringOp .add (bs m2) s).run qP W=.ok (.string (bs (m2++s.data.toList))) W:=fun W=>by
  have h:=AB W m2 s.data.toList (by rw [Ah,l2];omega)
  rwa [Ch] at h
 have a2:∀ W:World,(Op.stringOp .add (bs m1) (bs q1)).run qP W=.ok (.string (bs (m1++q1))) W:=fun W=>AB W m1 q1 (by omega);have S1:=qH (fun(W:World) (hW:Ba W)=>sum (bs (m2++s.data.toList)) W hW (by rw [Aw,List.length_append,l2,Ah];omega));have S2:=qH (fun(W:World) (hW:Ba W)=>sum (bs (m1++q1)) W hW (by rw [Aw,List.length_append,l1,l3];omega));rw [Bs,h3] at S1;rw [Bs,h4] at S2;have st:=JU f fl;rw [←IQ] at st;have HR:=qH hr;have FL:=qH fl;have H1:=qH h1;have H2:=qH h2;clear h1 h2 h3 h4 hf fl hr l1 l2 l3;go_enter Tryz.func175,Tryz.ntmps175
 go_wp2_with fail
 refine R0.out.mono ?_;rintro e w1 ⟨rfl,b1⟩;have HM:=qH (show bC f w1.heap.size w (w1.alloc (.cells (bv f) 272)) from⟨Blk.new _ _ _,b1.alloc b1.size _,(HR.out.next b1).alloc _⟩);clear R0 HR b1;have st1:=st w1;clear st
 go_wp2_with fail
 clear st1 hs64;generalize w1.alloc (.cells (bv f) 272)=w2 at *;generalize w1.heap.size=G at *;clear w1;refine(WM f 92 G w2 FL.out HM.out.1 m1 H1).mono ?_;rintro e w3 ⟨rfl,b3⟩
 replace HM:=qH (HM.out.next b3)
 clear b3 H1
 go_wp2_with fail
 refine(WM f 54 G w3 FL.out HM.out.1 m2 H2).mono ?_;rintro e w4 ⟨rfl,b4⟩
 replace HM:=qH (HM.out.next b4)
 clear b4 H2
 go_wp2_with fail
 refine(S1.out w4 HM.out.2.2).mono ?_;rintro e w5 ⟨rfl,b5⟩
 replace HM:=qH (HM.out.next b5)
 clear b5 S1 a1
 go_wp2_with fail
 refine(S2.out w5 HM.out.2.2).mono ?_;rintro e w6 ⟨rfl,b6⟩
 replace HM:=qH (HM.out.next b6)
 clear b6 S2 a2;go_wp2
 go_ret
 exact⟨rfl,HM.out.2.1⟩
theorem fU (k s:ByteArray) (w:World) (hr:Ba w) (hk:k.size≤1099511627776) (hs:s.size≤1000000) :
  Calls qP 175 #[.string k,.string s] w fun e w'=>e=.returned (.string (bs (Ht k.data.toList s.data.toList)))∧Below w.heap.size w w' :=
 Qo k s w hr hk hs _ _ _ _ _ rfl rfl rfl rfl rfl
theorem YH:qP.globalNamed "footbridge/sha.roots"=some 2:=by kernel_rfl
theorem Sk:(qP.globals[2]?).map (·.type)=some 226:=by kernel_rfl
theorem bD:qP.cellsOf 188=1:=by kernel_rfl
theorem Sl:qP.cellsOf 226=64:=by kernel_rfl
theorem VB (l:List Nat) (i:Nat):(l.map fun x:Nat=>(x:Int)).getD i 0=(nth l i:Int):=by
 unfold nth;rw [List.getD_eq_getElem?_getD,List.getD_eq_getElem?_getD,List.getElem?_map]
 cases l[i]?<;>rfl
theorem Ba.since {w W:World} (h:Ba w) (k:Aa w W):Ba W:=h.next k.below
end Go.Proofs.YtkejaepmoabikaaGreatDoor.W
namespace Go.Proofs.YtkejaepmoabikaaGreatDoor.W
open Go.RowKit Go.Extern.Stop Go.Stop Go.Extern
open _root_.Go.Proofs.Tryz renaming prog → qP
set_option maxHeartbeats 4000000
abbrev hT:Value:=.pointer (some ⟨10,160,none⟩)
abbrev hPT:Value:=.pointer (some ⟨10,163,none⟩)
abbrev bM:Value:=.iface 246 (.agg #[.pointer (some ⟨10,103,none⟩)])
theorem As.valueOfP (t:Addr) (w:World):(ReflectliteValue.unpack (.iface 163 (.pointer (some t)))).run qP w
  = .ok (.agg #[.pointer (some ⟨10,163,none⟩),.pointer (some ⟨w.heap.size,0,none⟩),.int .u64 150]) (w.alloc (.cells #[.pointer (some t)] 163)):=by kernel_rfl
theorem As.typeP (a:Addr) (w:World):(ReflectliteValue.methodAny (ReflectliteValue.valueError "reflectlite.Value.Type" 0) (fun t _ _ _=>ReflectliteType.toType t) #[.agg #[.pointer (some ⟨10,163,none⟩),.pointer (some a),.int .u64 150]]).run qP w
  = .ok (.iface 246 (.agg #[.pointer (some ⟨10,163,none⟩)])) w:=by kernel_rfl
theorem As.methodKind (h:Value) (w:World):(Go.method 449 246 (.agg #[h]) "Kind").run qP w=.ok (272,h) w:=by kernel_rfl
theorem As.kindP (w:World):((ReflectliteType.abiMethod fun t=>(fun a:Nat=>Value.int IntKind.u8 (a:Int)) <$> Rtype.kind t) #[.pointer (some ⟨10,163,none⟩)]).run qP w=.ok (.int .u8 22) w:=by kernel_rfl
theorem As.kindT (w:World):((ReflectliteType.abiMethod fun t=>(fun a:Nat=>Value.int IntKind.u8 (a:Int)) <$> Rtype.kind t) #[.pointer (some ⟨10,160,none⟩)]).run qP w=.ok (.int .u8 25) w:=by kernel_rfl
theorem As.isNilRun (a:Addr) (W:World):(ReflectliteValue.method (ReflectliteValue.valueError "reflectlite.Value.IsNil" 0) ReflectliteValue.isNil #[.agg #[.pointer (some ⟨10,163,none⟩),.pointer (some a),.int .u64 150]]).run qP W=(ReflectliteValue.isNil 163 a 150 22).run qP W:=by kernel_rfl
theorem As.elemRun (a:Addr) (W:World):(ReflectliteValue.method (ReflectliteValue.valueError "reflectlite.Value.Elem" 0) ReflectliteValue.elem #[.agg #[.pointer (some ⟨10,163,none⟩),.pointer (some a),.int .u64 150]]).run qP W=(ReflectliteValue.elem 163 a 150 22).run qP W:=by kernel_rfl
theorem As.isNilP (a p:Addr) (W:World) (ha:W.cell? a=some (.pointer (some p))) :
  (ReflectliteValue.method (ReflectliteValue.valueError "reflectlite.Value.IsNil" 0) ReflectliteValue.isNil #[.agg #[.pointer (some ⟨10,163,none⟩),.pointer (some a),.int .u64 150]]).run qP W=.ok (.bool false) W:=by
 rw [As.isNilRun];simp [ReflectliteValue.isNil,loadVar,isAgg,underlying,Tryz.underlying163,ha,Result.andThen]
theorem As.methodElem (h:Value) (w:World):(Go.method 449 246 (.agg #[h]) "Elem").run qP w=.ok (283,.agg #[h]) w:=by kernel_rfl
theorem As.methodImplements (h:Value) (w:World):(Go.method 449 246 (.agg #[h]) "Implements").run qP w=.ok (284,.agg #[h]) w:=by kernel_rfl
theorem As.methodAssignableTo (h:Value) (w:World):(Go.method 449 246 (.agg #[h]) "AssignableTo").run qP w=.ok (281,.agg #[h]) w:=by kernel_rfl
theorem As.elemP (w:World):(ReflectliteType.method ReflectliteType.elem #[.agg #[.pointer (some ⟨10,163,none⟩)]]).run qP w=.ok (.iface 246 (.agg #[.pointer (some ⟨10,160,none⟩)])) w:=by kernel_rfl
theorem As.implementsT (w:World):(ReflectliteType.relation "Implements" ReflectliteType.implements_ #[.agg #[.pointer (some ⟨10,160,none⟩)],.iface 246 (.agg #[.pointer (some ⟨10,103,none⟩)])]).run qP w=.ok (.bool true) w:=by kernel_rfl
theorem As.typeOfT (v:Value) (w:World):(ReflectliteType.typeOf #[.iface 160 v]).run qP w=.ok (.iface 246 (.agg #[.pointer (some ⟨10,160,none⟩)])) w:=by kernel_rfl
theorem As.assignableT (w:World):(ReflectliteType.relation "AssignableTo" ReflectliteType.assignableTo #[.agg #[.pointer (some ⟨10,160,none⟩)],.iface 246 (.agg #[.pointer (some ⟨10,160,none⟩)])]).run qP w=.ok (.bool true) w:=by kernel_rfl
theorem As.valueOfT (e:Int) (w:World):(ReflectliteValue.unpack (.iface 160 (.agg #[.int .i64 e]))).run qP w
  = .ok (.agg #[.pointer (some ⟨10,160,none⟩),.pointer (some ⟨w.heap.size,0,none⟩),.int .u64 153]) (w.alloc (.cells #[.int .i64 e] 160)):=by kernel_rfl
theorem As.elemOfP (w:World):(Rtype.elem? 163).run qP w=.ok (some 160) w:=by kernel_rfl
theorem As.mkT (p:Addr) (w:World):(ReflectliteValue.mk 160 p ReflectliteValue.flagAddr).run qP w=.ok (.agg #[.pointer (some ⟨10,160,none⟩),.pointer (some p),.int .u64 409]) w:=by kernel_rfl
theorem As.elemVP (a p:Addr) (W:World) (ha:W.cell? a=some (.pointer (some p))) :
  (ReflectliteValue.method (ReflectliteValue.valueError "reflectlite.Value.Elem" 0) ReflectliteValue.elem #[.agg #[.pointer (some ⟨10,163,none⟩),.pointer (some a),.int .u64 150]]).run qP W
    = .ok (.agg #[.pointer (some ⟨10,160,none⟩),.pointer (some p),.int .u64 409]) W:=by
 rw [As.elemRun];simp [ReflectliteValue.elem,loadVar,isAgg,underlying,Tryz.underlying163,ha,Result.andThen,As.elemOfP,As.mkT]
theorem As.setRun (ta b:Addr) (W:World):(ReflectliteValue.set #[.agg #[.pointer (some ⟨10,160,none⟩),.pointer (some ta),.int .u64 409],.agg #[.pointer (some ⟨10,160,none⟩),.pointer (some b),.int .u64 153]]).run qP W
  = ((loadVar 160 b) >>= fun u=>(storeVar 160 ta u) >>= fun _=>pure (.tuple #[])).run qP W:=by kernel_rfl
theorem As.setT (ta b:Addr) (e:Int) (old:Value) (W:World) (hb:W.cell? b=some (.int .i64 e)) (ht:W.cell? ta=some old) (hf:W.frozen? ta=false) :
  (ReflectliteValue.set #[.agg #[.pointer (some ⟨10,160,none⟩),.pointer (some ta),.int .u64 409],.agg #[.pointer (some ⟨10,160,none⟩),.pointer (some b),.int .u64 153]]).run qP W
    = .ok (.tuple #[]) (W.setCell ta (.int .i64 e)):=by
 rw [As.setRun];simp [loadVar,loadCells,loadCellsFrom,hb,Result.andThen,storeVar,Value.cells,storeCells,Addr.add];rw [run_store qP W ta _ _ (by rfl)];simp [ht,hf]
theorem jL (e:Int) (t:Addr) (old:Value) (w:World) (hg:w.cell? ⟨0,0,none⟩=some bM) (ht0:w.cell? t=some old) (hf0:w.frozen? t=false) :
  Calls qP 96 #[.iface 160 (.agg #[.int .i64 e]),.iface 163 (.pointer (some t))] w fun ev w'=>ev=.returned (.bool true)∧w'=((((w.alloc (.cells #[.pointer (some t)] 163)).alloc (.cells #[.pointer (some ⟨10,163,none⟩),.pointer (some ⟨w.heap.size,0,none⟩),.int .u64 150] 208)).alloc (.cells #[.pointer (some ⟨10,163,none⟩),.pointer (some ⟨w.heap.size,0,none⟩),.int .u64 150] 208)).alloc (.cells #[.int .i64 e] 160)).setCell t (.int .i64 e):=by
 have h6:=@run_callFunc_extern qP 141 _ (fun args=>ReflectliteValue.unpack (args.getD 0 (.tuple #[]))) Tryz.func141 (by kernel_rfl) (by kernel_rfl) (by kernel_rfl) (by kernel_rfl);have h7:=@run_callFunc_extern qP 142 _ (ReflectliteValue.methodAny (ReflectliteValue.valueError "reflectlite.Value.Type" 0) (fun t _ _ _=>ReflectliteType.toType t)) Tryz.func142 (by kernel_rfl) (by kernel_rfl) (by kernel_rfl) (by kernel_rfl);have h8:=@run_callFunc_extern qP 143 _ (ReflectliteValue.method (ReflectliteValue.valueError "reflectlite.Value.IsNil" 0) ReflectliteValue.isNil) Tryz.func143 (by kernel_rfl) (by kernel_rfl) (by kernel_rfl) (by kernel_rfl)
 have h27:=@run_callFunc_extern qP 272 _ (ReflectliteType.abiMethod fun t=>do pure (.int .u8 (←Rtype.kind t))) Tryz.func272 (by kernel_rfl) (by kernel_rfl) (by kernel_rfl) (by kernel_rfl)
 have h37:=@run_callFunc_extern qP 283 _ (ReflectliteType.method ReflectliteType.elem) Tryz.func283 (by kernel_rfl) (by kernel_rfl) (by kernel_rfl) (by kernel_rfl);have h38:=@run_callFunc_extern qP 284 _ (ReflectliteType.relation "Implements" ReflectliteType.implements_) Tryz.func284 (by kernel_rfl) (by kernel_rfl) (by kernel_rfl) (by kernel_rfl);have h10:=@run_callFunc_extern qP 176 _ (ReflectliteType.typeOf) Tryz.func176 (by kernel_rfl) (by kernel_rfl) (by kernel_rfl) (by kernel_rfl);have h35:=@run_callFunc_extern qP 281 _ (ReflectliteType.relation "AssignableTo" ReflectliteType.assignableTo) Tryz.func281 (by kernel_rfl) (by kernel_rfl) (by kernel_rfl) (by kernel_rfl);have h11:=@run_callFunc_extern qP 177 _ (ReflectliteValue.method (ReflectliteValue.valueError "reflectlite.Value.Elem" 0) ReflectliteValue.elem) Tryz.func177 (by kernel_rfl) (by kernel_rfl) (by kernel_rfl) (by kernel_rfl);have h12:=@run_callFunc_extern qP 178 _ (ReflectliteValue.set) Tryz.func178 (by kernel_rfl) (by kernel_rfl) (by kernel_rfl) (by kernel_rfl);have tO:=As.typeOfT;have mA:=As.methodAssignableTo;have a25:=As.assignableT;have v25:=As.valueOfT;have f6:=As.valueOfP;have f7:=As.typeP;have mK:=As.methodKind;have mE:=As.methodElem;have mI:=As.methodImplements;have k27:=As.kindP;have k25:=As.kindT;have e27:=As.elemP;have i25:=As.implementsT;have n8:=As.isNilP ⟨w.heap.size,0,none⟩ t ((w.alloc (.cells #[.pointer (some t)] 163)).alloc (.cells #[.pointer (some ⟨10,163,none⟩),.pointer (some ⟨w.heap.size,0,none⟩),.int .u64 150] 208)) (by simp);have hlt:0<w.heap.size:=World.block_lt_of_cell? w _ hg
 have hg2:((w.alloc (.cells #[.pointer (some t)] 163)).alloc (.cells #[.pointer (some ⟨10,163,none⟩),.pointer (some ⟨w.heap.size,0,none⟩),.int .u64 150] 208)).cell? ⟨0,0,none⟩=some bM:=by
  rw [World.cell?_alloc_lt _ _ ⟨0,0,none⟩ (by simp),World.cell?_alloc_lt _ _ ⟨0,0,none⟩ hlt];exact hg
 have htl:t.block<w.heap.size:=World.block_lt_of_cell? w _ ht0;have el:=As.elemVP ⟨w.heap.size,0,none⟩ t (((w.alloc (.cells #[.pointer (some t)] 163)).alloc (.cells #[.pointer (some ⟨10,163,none⟩),.pointer (some ⟨w.heap.size,0,none⟩),.int .u64 150] 208)).alloc (.cells #[.pointer (some ⟨10,163,none⟩),.pointer (some ⟨w.heap.size,0,none⟩),.int .u64 150] 208)) (by rw [World.cell?_alloc_lt _ _ ⟨w.heap.size,0,none⟩ (by simp;omega)];simp);have st:=As.setT t ⟨w.heap.size+1+1+1,0,none⟩ e old ((((w.alloc (.cells #[.pointer (some t)] 163)).alloc (.cells #[.pointer (some ⟨10,163,none⟩),.pointer (some ⟨w.heap.size,0,none⟩),.int .u64 150] 208)).alloc (.cells #[.pointer (some ⟨10,163,none⟩),.pointer (some ⟨w.heap.size,0,none⟩),.int .u64 150] 208)).alloc (.cells #[.int .i64 e] 160))
  (by rw [World.cell?_alloc_at _ _ _ _ (by simp)];rfl)
  (by rw [World.cell?_alloc_lt _ _ t (by simp;omega),World.cell?_alloc_lt _ _ t (by simp;omega),World.cell?_alloc_lt _ _ t (by simp;omega),World.cell?_alloc_lt _ _ t htl];exact ht0)
  (by rw [World.frozen?_alloc_old _ _ t (by simp;omega),World.frozen?_alloc_old _ _ t (by simp;omega),World.frozen?_alloc_old _ _ t (by simp;omega),World.frozen?_alloc_old _ _ t (Nat.ne_of_lt htl)];exact hf0)
 go_enter Tryz.func96,Tryz.ntmps96;go_wp2;refine wp_loop_rounds 1 ?_;rw [rounds_succ];go_wp2
 go_ret
 exact⟨rfl,rfl⟩
end Go.Proofs.YtkejaepmoabikaaGreatDoor.W
namespace Go.Proofs.YtkejaepmoabikaaGreatDoor.W
open Go.RowKit
open Lib renaming hid → qH
open _root_.Go.Proofs.Tryz renaming prog → qP
set_option maxHeartbeats 2000000
theorem bN (e:Int) (w:World) (hg:w.cell? ⟨0,0,none⟩=some bM) :
  Calls qP 50 #[.iface 160 (.agg #[.int .i64 e])] w fun en w'=>en=.returned (.int .i64 e)∧Aa w w':=by
 have B0:=qH (Blk.new w 160 #[.int .i64 0]);have S0:=qH (Ab (Aa.refl w) (.cells #[.int .i64 0] 160));have A:=qH (jL e ⟨w.heap.size,0,none⟩ (.int .i64 0) _ (S0.out.cell hg) (B0.out.c 0 rfl) (B0.out.frozen 0));go_enter Tryz.func50,Tryz.ntmps50
 go_wp2_with fail
 refine A.out.mono ?_;rintro en w1 ⟨rfl,rfl⟩;clear A;have B1:=qH (((((B0.out.alloc (.cells #[.pointer (some ⟨w.heap.size,0,none⟩)] 163)).alloc (.cells #[hPT,.pointer (some ⟨(w.alloc (.cells #[.int .i64 0] 160)).heap.size,0,none⟩),.int .u64 150] 208)).alloc (.cells #[hPT,.pointer (some ⟨(w.alloc (.cells #[.int .i64 0] 160)).heap.size,0,none⟩),.int .u64 150] 208)).alloc (.cells #[.int .i64 e] 160)).set_ 0 (.int .i64 e));have S1:=qH (Ak (Ab (Ab (Ab (Ab S0.out (.cells #[.pointer (some ⟨w.heap.size,0,none⟩)] 163)) (.cells #[hPT,.pointer (some ⟨(w.alloc (.cells #[.int .i64 0] 160)).heap.size,0,none⟩),.int .u64 150] 208)) (.cells #[hPT,.pointer (some ⟨(w.alloc (.cells #[.int .i64 0] 160)).heap.size,0,none⟩),.int .u64 150] 208)) (.cells #[.int .i64 e] 160)) (p:=⟨w.heap.size,0,none⟩) (Nat.le_refl _) (.int .i64 e));clear B0 S0;generalize hW:World.setCell _ (⟨w.heap.size,0,none⟩:Addr) (Value.int .i64 e)=W1 at *;have c0:W1.cell? ⟨w.heap.size,0,none⟩=some (.int .i64 e):=B1.out.c 0 rfl;go_wp2
 go_ret
 exact⟨rfl,S1.out⟩
end Go.Proofs.YtkejaepmoabikaaGreatDoor.W
namespace Go.Proofs.YtkejaepmoabikaaGreatDoor.W
open Go.ChangeShapes Go.WideShapes Go.ChangeAt Go.RowKit Go.Deep
open _root_.Go.Proofs.Tryz renaming prog → qP
noncomputable def FE:Array Field:=match qP.underlying 34 with
 | some (.struct fs)=>fs
 | _=>#[]
theorem fY:qP.underlying 34=some (.struct FE):=by kernel_rfl
section
variable {H:Type} {enc:TypeId×Value→H} {w:World} {held:Bool}
end
end Go.Proofs.YtkejaepmoabikaaGreatDoor.W
namespace Go.Proofs.YtkejaepmoabikaaGreatDoor.W
open Go.RowKit
open Lib renaming hid → qH
open _root_.Go.Proofs.Tryz renaming prog → qP
set_option maxHeartbeats 2000000
set_option maxRecDepth 100000
abbrev Dk (l:List KV):Prop:=∀ p ∈ l,p.1.size≤150∧p.2.size≤300
theorem VO {l:List KV} (k:Nat) (h:k<l.length) (hn:150<l[k].1.size∨300<l[k].2.size):¬Dk l:=fun hs=>by
 have:=hs l[k] (List.getElem_mem h)
 omega
theorem Sx {l:List KV} (k:Nat) (h:k<l.length) (hs:Dk (l.take k)) (h1:l[k].1.size≤150) (h2:l[k].2.size≤300):Dk (l.take (k+1)):=by
 intro p hp;rw [List.take_succ_eq_append_getElem h,List.mem_append,List.mem_singleton] at hp
 rcases hp with hp|rfl
 ·exact hs p hp
 ·exact⟨h1,h2⟩
theorem Za (v:Value) (l:List KV) (m:Nat) (w:World) (hP:Prs w v l) (hm:m≤1000) :
  Calls qP 6 #[v,.int .i64 m] w fun e w'=>e=.returned (.bool (decide (l.length≤m∧Dk l)))∧Below w.heap.size w w':=by
 obtain⟨A,cap,rfl,hcap,hc⟩:=hP;have HC:=qH hc;obtain⟨r,hr⟩:∃ r,r=decide (l.length≤m∧Dk l):=⟨_,rfl⟩;rw [←hr];have HR:=qH hr;clear hc hr hcap;by_cases hlen:l.length≤m
 ·have hd:decide (m<l.length)=false:=decide_eq_false (by omega)
  go_enter Tryz.func6,Tryz.ntmps6;go_wp2
  go_loopw [5] (fun i wr=>∃ k:Nat,k≤l.length∧i=.int .i64 k∧Hid (Dk (l.take k))∧Below w.heap.size w wr) (fun i _=>l.length-(intOf i).toNat)
  case atStart=>exact⟨0,Nat.zero_le _,rfl,qH (fun p hp=>by simp at hp),Below.refl _ _⟩
  case round =>
   obtain⟨k,hk,rfl,HT,hbel⟩:=hrel;by_cases hlt:k<l.length
   ·obtain⟨b1,off1,rfl,d1,d2⟩:=HC.out k hlt
    have c1:=(Ad hbel).cell d1;have c2:=(Ad hbel).cell d2
    have hi0:(0:Int)≤k:=by omega
    have hi1:(k:Int)<(l.length:Int):=by omega
    have HF:=qH (Sx k hlt HT.out);have HN:=qH (VO k hlt);obtain⟨⟨x1,x2⟩,hx⟩:∃ x:KV,x=l[k]:=⟨_,rfl⟩;rw [←hx] at c1 c2 HF HN;simp only at c1 c2 HF HN;clear d1 d2 hx;by_cases h1:x1.size≤150
    ·by_cases h2:x2.size≤300
     ·go_wp2
      go_roundw
      case rel =>
       exact⟨k+1,by omega,by go_num,qH (HF.out h1 h2),hbel⟩
      case measure=>simp [intOf];omega
     ·have h3:r=false:=by rw [HR.out];exact decide_eq_false (fun e=>HN.out (.inr (by omega)) e.2)
      subst h3;go_wp2
      go_ret
      exact⟨rfl,hbel⟩
    ·have h3:r=false:=by rw [HR.out];exact decide_eq_false (fun e=>HN.out (.inl (by omega)) e.2)
     subst h3;go_wp2
     go_ret
     exact⟨rfl,hbel⟩
   ·obtain rfl:k=l.length:=by omega
    have h3:r=true:=by rw [HR.out];exact decide_eq_true ⟨hlen,by have:=HT.out;rwa [List.take_length] at this⟩
    subst h3;go_wp2
    go_ret
    exact⟨rfl,hbel⟩
 ·have h3:r=false:=by rw [HR.out];exact decide_eq_false (fun e=>hlen e.1)
  subst h3;go_enter Tryz.func6,Tryz.ntmps6;go_wp2
  go_ret
  exact⟨rfl,Below.refl _ _⟩
end Go.Proofs.YtkejaepmoabikaaGreatDoor.W
namespace Go.Proofs.YtkejaepmoabikaaGreatDoor.clientPlays
open Go.ChangeShapes Go.WideShapes Go.ChangeAt Go.RowKit
set_option maxHeartbeats 4000000 in
set_option maxRecDepth 100000 in
theorem gD:joinedFacts Tryz.pinned.checked.prog 3 Tryz.f3 (OpenSpec.ofChange Rows.clientPlaysSpec).bare Rows.clientPlaysRow=true:=by
 unfold joinedFacts
 repeat (refine Bool.and_eq_true_iff.2 ⟨?_,?_⟩)
 all_goals as_aux_lemma=>kernel_rfl
end Go.Proofs.YtkejaepmoabikaaGreatDoor.clientPlays
