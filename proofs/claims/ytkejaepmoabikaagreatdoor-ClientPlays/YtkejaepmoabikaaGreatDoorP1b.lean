import Derived.Lib.MinMax
import Derived.Test.YtkejaepmoabikaaGreatDoorP1a
import Derived.Test.YtkejaepmoabikaaGreatDoorPXRead
import Derived.Test.YtkejaepmoabikaaGreatDoorP0c
import Derived.Test.YtkejaepmoabikaaGreatDoorP0d
import Derived.Test.YtkejaepmoabikaaGreatDoorP0b
namespace Go.Proofs.YtkejaepmoabikaaGreatDoor.W
open Go.RowKit
open List renaming getElem_cons_zero → qC
open Lib renaming hid → qH
open _root_.Go.Proofs.Tryz renaming prog → qP
set_option maxHeartbeats 8000000
set_option maxRecDepth 100000
theorem EM {w V:World} {f:FuncId} {args:Array Value} {x:Ending} (h:Hid (∀ W,Aa w W→Calls qP f args W fun e w'=>e=x∧Aa W w')) (hV:Aa w V):Hid (∀ W,Aa V W→Calls qP f args W fun e w'=>e=x∧Aa V w') :=
 qH fun W hW=>(h.out W (Ac hV hW)).mono fun _ _ ⟨he,hb⟩=>⟨he,Ac hW hb⟩
theorem MI {w V:World} {p x key:ByteArray} (h:Hid (∀ W b,Aa w W→Blk W b 9 #[.string p,.string x]→Calls qP 39 #[.slice (some ⟨b,0,none⟩) 2 2] W fun e w'=>e=.returned (.string key)∧Aa W w')) (hV:Aa w V):Hid (∀ W b,Aa V W→Blk W b 9 #[.string p,.string x]→Calls qP 39 #[.slice (some ⟨b,0,none⟩) 2 2] W fun e w'=>e=.returned (.string key)∧Aa V w') :=
 qH fun W b hW hB=>(h.out W b (Ac hV hW) hB).mono fun _ _ ⟨he,hb⟩=>⟨he,Ac hW hb⟩
theorem US {V W:World} {f:FuncId} {args:Array Value} {L:List KV} (h:Calls qP f args W fun e w'=>∃ v',e=.returned v'∧Prs w' v' L∧Aa W w'∧∀ g,v'.ownBlock=some g→W.heap.size≤g) (hW:Aa V W):Calls qP f args W fun e w'=>∃ v',e=.returned v'∧Prs w' v' L∧Aa V w'∧∀ g,v'.ownBlock=some g→V.heap.size≤g :=
 h.mono fun _ _ ⟨v',he,hp,hb,hg⟩=>⟨v',he,hp,Ac hW hb,fun g e=>Nat.le_trans hW.below.size (hg g e)⟩
theorem Ll {w V:World} {f:FuncId} {args:Array Value} {L:List KV} (h:Hid (∀ W,Aa w W→Calls qP f args W fun e w'=>∃ v',e=.returned v'∧Prs w' v' L∧Aa W w'∧∀ g,v'.ownBlock=some g→W.heap.size≤g)) (hV:Aa w V):Hid (∀ W,Aa V W→Calls qP f args W fun e w'=>∃ v',e=.returned v'∧Prs w' v' L∧Aa V w'∧∀ g,v'.ownBlock=some g→V.heap.size≤g) :=
 qH fun W hW=>(h.out W (Ac hV hW)).mono fun _ _ ⟨v',he,hp,hb,hg⟩=>⟨v',he,hp,Ac hW hb,fun g e=>Nat.le_trans hW.below.size (hg g e)⟩
theorem ZR (A:Option Addr) (m c:Nat) (id raw:ByteArray) (c1 c2:ByteArray) (c3:Int) (c4:Bool) (e:Int) (he:e≠0) (w:World)
  (C:Hid (∀ W,Aa w W→Calls qP 12 #[.slice A m c,.string id] W fun en w'=>en=.returned (.tuple #[.agg #[.string c1,.string c2,.int .i64 c3,.bool c4],.int .i64 e])∧Aa W w')) :
  Calls qP 28 #[.slice A m c,.string id,.string raw] w fun en w'=>en=.returned (.tuple #[.slice A m c,.int .i64 e])∧Aa w w':=by
 have hb:(e != 0)=true:=by rw [bne_iff_ne];exact he
 clear he;go_enter Tryz.func28,Tryz.ntmps28
 go_wp2_with fail
 refine(C.out _ (Aa.refl w)).mono ?_;rintro en w1 ⟨rfl,q⟩;have C1:=qH (Blk.new w1 41 #[.string c1,.string c2,.int .i64 c3,.bool c4]);have S1:=qH (Ab q (.cells #[.string c1,.string c2,.int .i64 c3,.bool c4] 41));clear C q;clear C1;go_wp2
 go_ret2
 exact⟨rfl,S1.out⟩
theorem ZS (A:Option Addr) (m c:Nat) (id raw:ByteArray) (c1 c2:ByteArray) (c3:Int) (c4:Bool) (h1:ByteArray) (h2 h3:Int) (h4 h5:ByteArray) (e:Int) (he:e≠0) (w:World)
  (C:Hid (∀ W,Aa w W→Calls qP 12 #[.slice A m c,.string id] W fun en w'=>en=.returned (.tuple #[.agg #[.string c1,.string c2,.int .i64 c3,.bool c4],.int .i64 0])∧Aa W w'))
  (E:Hid (∀ W,Aa w W→Calls qP 77 #[.agg #[.string c1,.string c2,.int .i64 c3,.bool c4],.string raw] W fun en w'=>en=.returned (.tuple #[.agg #[.string h1,.int .i64 h2,.int .i64 h3,.string h4,.string h5],.int .i64 e])∧Aa W w')) :
  Calls qP 28 #[.slice A m c,.string id,.string raw] w fun en w'=>en=.returned (.tuple #[.slice A m c,.int .i64 e])∧Aa w w':=by
 have hb:(e != 0)=true:=by rw [bne_iff_ne];exact he
 clear he;go_enter Tryz.func28,Tryz.ntmps28
 go_wp2_with fail
 refine(C.out _ (Aa.refl w)).mono ?_;rintro en w1 ⟨rfl,q⟩;have C1:=qH (Blk.new w1 41 #[.string c1,.string c2,.int .i64 c3,.bool c4]);have S1:=qH (Ab q (.cells #[.string c1,.string c2,.int .i64 c3,.bool c4] 41));clear C q;have y0:(w1.alloc (.cells #[.string c1,.string c2,.int .i64 c3,.bool c4] 41)).cell? ⟨w1.heap.size,0,none⟩=some (.string c1):=C1.out.c 0 rfl;have y1:(w1.alloc (.cells #[.string c1,.string c2,.int .i64 c3,.bool c4] 41)).cell? ⟨w1.heap.size,1,none⟩=some (.string c2):=C1.out.c 1 rfl;have y2:(w1.alloc (.cells #[.string c1,.string c2,.int .i64 c3,.bool c4] 41)).cell? ⟨w1.heap.size,2,none⟩=some (.int .i64 c3):=C1.out.c 2 rfl;have y3:(w1.alloc (.cells #[.string c1,.string c2,.int .i64 c3,.bool c4] 41)).cell? ⟨w1.heap.size,3,none⟩=some (.bool c4):=C1.out.c 3 rfl
 go_wp2_with fail
 clear y0 y1 y2 y3;refine(E.out _ S1.out).mono ?_;rintro en w2 ⟨rfl,q⟩;have C2:=qH ((C1.out.next q.below).alloc (.cells #[.string h1,.int .i64 h2,.int .i64 h3,.string h4,.string h5] 34));have H2:=qH (Blk.new w2 34 #[.string h1,.int .i64 h2,.int .i64 h3,.string h4,.string h5]);have S2:=qH (Ab (Ac S1.out q) (.cells #[.string h1,.int .i64 h2,.int .i64 h3,.string h4,.string h5] 34));clear E C1 S1 q;clear C2 H2;go_wp2
 go_ret2
 exact⟨rfl,S2.out⟩
theorem UT (A:Option Addr) (m c:Nat) (id raw:ByteArray) (c1 c2:ByteArray) (c3:Int) (c4:Bool) (h1 h5:ByteArray) (h2:Int) (x1:Int) (x2:ByteArray) (w:World)
  (C:Hid (∀ W,Aa w W→Calls qP 12 #[.slice A m c,.string id] W fun en w'=>en=.returned (.tuple #[.agg #[.string c1,.string c2,.int .i64 c3,.bool c4],.int .i64 0])∧Aa W w'))
  (E:Hid (∀ W,Aa w W→Calls qP 77 #[.agg #[.string c1,.string c2,.int .i64 c3,.bool c4],.string raw] W fun en w'=>en=.returned (.tuple #[.agg #[.string h1,.int .i64 h2,.int .i64 x1,.string x2,.string h5],.int .i64 0])∧Aa W w'))
  (X:Hid (∀ W,Aa w W→Calls qP 32 #[.slice A m c,.string id,.int .i64 h2] W fun en w'=>en=.returned (.tuple #[.agg #[.int .i64 x1,.string x2],.int .i64 0])∧Aa W w')) :
  Calls qP 28 #[.slice A m c,.string id,.string raw] w fun en w'=>en=.returned (.tuple #[.slice A m c,.int .i64 9])∧Aa w w':=by
 go_enter Tryz.func28,Tryz.ntmps28
 go_wp2_with fail
 refine(C.out _ (Aa.refl w)).mono ?_;rintro en w1 ⟨rfl,q⟩;have C1:=qH (Blk.new w1 41 #[.string c1,.string c2,.int .i64 c3,.bool c4]);have S1:=qH (Ab q (.cells #[.string c1,.string c2,.int .i64 c3,.bool c4] 41));have S0:=qH q;clear C q;have y0:(w1.alloc (.cells #[.string c1,.string c2,.int .i64 c3,.bool c4] 41)).cell? ⟨w1.heap.size,0,none⟩=some (.string c1):=C1.out.c 0 rfl;have y1:(w1.alloc (.cells #[.string c1,.string c2,.int .i64 c3,.bool c4] 41)).cell? ⟨w1.heap.size,1,none⟩=some (.string c2):=C1.out.c 1 rfl;have y2:(w1.alloc (.cells #[.string c1,.string c2,.int .i64 c3,.bool c4] 41)).cell? ⟨w1.heap.size,2,none⟩=some (.int .i64 c3):=C1.out.c 2 rfl;have y3:(w1.alloc (.cells #[.string c1,.string c2,.int .i64 c3,.bool c4] 41)).cell? ⟨w1.heap.size,3,none⟩=some (.bool c4):=C1.out.c 3 rfl
 go_wp2_with fail
 clear y0 y1 y2 y3;refine(E.out _ S1.out).mono ?_;rintro en w2 ⟨rfl,q⟩;have C2:=qH ((C1.out.next q.below).alloc (.cells #[.string h1,.int .i64 h2,.int .i64 x1,.string x2,.string h5] 34));have H2:=qH (Blk.new w2 34 #[.string h1,.int .i64 h2,.int .i64 x1,.string x2,.string h5]);have S2:=qH (Ab (Ac S1.out q) (.cells #[.string h1,.int .i64 h2,.int .i64 x1,.string x2,.string h5] 34));clear E C1 S1 q;have y1:(w2.alloc (.cells #[.string h1,.int .i64 h2,.int .i64 x1,.string x2,.string h5] 34)).cell? ⟨w2.heap.size,1,none⟩=some (.int .i64 h2):=H2.out.c 1 rfl
 go_wp2_with fail
 clear y1;refine(X.out _ S2.out).mono ?_;rintro en w3 ⟨rfl,q⟩
 have n2:w1.heap.size<w2.heap.size+1:=by have:=C2.out.lt;simpa using this
 have n3:w2.heap.size<w3.heap.size:=Nat.lt_of_lt_of_le H2.out.lt q.below.size;have n1:w1.heap.size<w3.heap.size:=Nat.lt_of_lt_of_le C2.out.lt q.below.size;have g1:w.heap.size≤w1.heap.size:=S0.out.below.size;have C3:=qH ((C2.out.next q.below).alloc (.cells #[.int .i64 x1,.string x2] 62));have H3:=qH ((H2.out.next q.below).alloc (.cells #[.int .i64 x1,.string x2] 62));have X3:=qH (Blk.new w3 62 #[.int .i64 x1,.string x2]);have S3:=qH (Ab (Ac S2.out q) (.cells #[.int .i64 x1,.string x2] 62));clear X C2 H2 S2 q S0;have y0:(w3.alloc (.cells #[.int .i64 x1,.string x2] 62)).cell? ⟨w2.heap.size,0,none⟩=some (.string h1):=H3.out.c 0 rfl;have y1:(w3.alloc (.cells #[.int .i64 x1,.string x2] 62)).cell? ⟨w2.heap.size,1,none⟩=some (.int .i64 h2):=H3.out.c 1 rfl;have y2:(w3.alloc (.cells #[.int .i64 x1,.string x2] 62)).cell? ⟨w2.heap.size,2,none⟩=some (.int .i64 x1):=H3.out.c 2 rfl;have y3:(w3.alloc (.cells #[.int .i64 x1,.string x2] 62)).cell? ⟨w2.heap.size,3,none⟩=some (.string x2):=H3.out.c 3 rfl;have y4:(w3.alloc (.cells #[.int .i64 x1,.string x2] 62)).cell? ⟨w2.heap.size,4,none⟩=some (.string h5):=H3.out.c 4 rfl;have xc0:(w3.alloc (.cells #[.int .i64 x1,.string x2] 62)).cell? ⟨w3.heap.size,0,none⟩=some (.int .i64 x1):=X3.out.c 0 rfl;have xc1:(w3.alloc (.cells #[.int .i64 x1,.string x2] 62)).cell? ⟨w3.heap.size,1,none⟩=some (.string x2):=X3.out.c 1 rfl;clear n1 n2 n3 g1 C3 H3 X3;go_wp2
 go_ret2
 exact⟨rfl,S3.out⟩
theorem Xg (A:Option Addr) (m c:Nat) (id raw:ByteArray) (c1 c2:ByteArray) (c3:Int) (c4:Bool) (h1:ByteArray) (h2 h3:Int) (h4 h5:ByteArray) (x1:Int) (x2:ByteArray) (key tx:ByteArray) (L2:List KV) (hx:¬(x1=h3∧x2=h4)) (w:World)
  (C:Hid (∀ W,Aa w W→Calls qP 12 #[.slice A m c,.string id] W fun en w'=>en=.returned (.tuple #[.agg #[.string c1,.string c2,.int .i64 c3,.bool c4],.int .i64 0])∧Aa W w'))
  (E:Hid (∀ W,Aa w W→Calls qP 77 #[.agg #[.string c1,.string c2,.int .i64 c3,.bool c4],.string raw] W fun en w'=>en=.returned (.tuple #[.agg #[.string h1,.int .i64 h2,.int .i64 h3,.string h4,.string h5],.int .i64 0])∧Aa W w'))
  (X:Hid (∀ W,Aa w W→Calls qP 32 #[.slice A m c,.string id,.int .i64 h2] W fun en w'=>en=.returned (.tuple #[.agg #[.int .i64 x1,.string x2],.int .i64 0])∧Aa W w'))
  (KEY:Hid (∀ W b,Aa w W→Blk W b 9 #[.string ⟨#[99,108,105,101,110,116]⟩,.string id]→Calls qP 39 #[.slice (some ⟨b,0,none⟩) 2 2] W fun e w'=>e=.returned (.string key)∧Aa W w'))
  (VA:Hid (∀ W,Aa w W→Calls qP 72 #[.agg #[.string c1,.string c2,.int .i64 c3,.bool true]] W fun en w'=>en=.returned (.string tx)∧Aa W w'))
  (PU:Hid (∀ W,Aa w W→Calls qP 26 #[.slice A m c,.string key,.string tx] W fun e w'=>∃ v',e=.returned v'∧Prs w' v' L2∧Aa W w'∧∀ g,v'.ownBlock=some g→W.heap.size≤g)) :
  Calls qP 28 #[.slice A m c,.string id,.string raw] w fun en w'=>∃ v,en=.returned (.tuple #[v,.int .i64 0])∧Prs w' v L2∧Aa w w'∧∀ g,v.ownBlock=some g→w.heap.size≤g:=by
 go_enter Tryz.func28,Tryz.ntmps28
 go_wp2_with fail
 refine(C.out _ (Aa.refl w)).mono ?_;rintro en w1 ⟨rfl,q⟩;have C1:=qH (Blk.new w1 41 #[.string c1,.string c2,.int .i64 c3,.bool c4]);have S1:=qH (Ab q (.cells #[.string c1,.string c2,.int .i64 c3,.bool c4] 41));have S0:=qH q;clear C q;have y0:(w1.alloc (.cells #[.string c1,.string c2,.int .i64 c3,.bool c4] 41)).cell? ⟨w1.heap.size,0,none⟩=some (.string c1):=C1.out.c 0 rfl;have y1:(w1.alloc (.cells #[.string c1,.string c2,.int .i64 c3,.bool c4] 41)).cell? ⟨w1.heap.size,1,none⟩=some (.string c2):=C1.out.c 1 rfl;have y2:(w1.alloc (.cells #[.string c1,.string c2,.int .i64 c3,.bool c4] 41)).cell? ⟨w1.heap.size,2,none⟩=some (.int .i64 c3):=C1.out.c 2 rfl;have y3:(w1.alloc (.cells #[.string c1,.string c2,.int .i64 c3,.bool c4] 41)).cell? ⟨w1.heap.size,3,none⟩=some (.bool c4):=C1.out.c 3 rfl
 go_wp2_with fail
 clear y0 y1 y2 y3;refine(E.out _ S1.out).mono ?_;rintro en w2 ⟨rfl,q⟩;have C2:=qH ((C1.out.next q.below).alloc (.cells #[.string h1,.int .i64 h2,.int .i64 h3,.string h4,.string h5] 34));have H2:=qH (Blk.new w2 34 #[.string h1,.int .i64 h2,.int .i64 h3,.string h4,.string h5]);have S2:=qH (Ab (Ac S1.out q) (.cells #[.string h1,.int .i64 h2,.int .i64 h3,.string h4,.string h5] 34));clear E C1 S1 q;have y1:(w2.alloc (.cells #[.string h1,.int .i64 h2,.int .i64 h3,.string h4,.string h5] 34)).cell? ⟨w2.heap.size,1,none⟩=some (.int .i64 h2):=H2.out.c 1 rfl
 go_wp2_with fail
 clear y1;refine(X.out _ S2.out).mono ?_;rintro en w3 ⟨rfl,q⟩
 have n2:w1.heap.size<w2.heap.size+1:=by have:=C2.out.lt;simpa using this
 have n3:w2.heap.size<w3.heap.size:=Nat.lt_of_lt_of_le H2.out.lt q.below.size;have n1:w1.heap.size<w3.heap.size:=Nat.lt_of_lt_of_le C2.out.lt q.below.size;have g1:w.heap.size≤w1.heap.size:=S0.out.below.size;have C3:=qH ((C2.out.next q.below).alloc (.cells #[.int .i64 x1,.string x2] 62));have H3:=qH ((H2.out.next q.below).alloc (.cells #[.int .i64 x1,.string x2] 62));have X3:=qH (Blk.new w3 62 #[.int .i64 x1,.string x2]);have S3:=qH (Ab (Ac S2.out q) (.cells #[.int .i64 x1,.string x2] 62));clear X C2 H2 S2 q S0;have y0:(w3.alloc (.cells #[.int .i64 x1,.string x2] 62)).cell? ⟨w2.heap.size,0,none⟩=some (.string h1):=H3.out.c 0 rfl;have y1:(w3.alloc (.cells #[.int .i64 x1,.string x2] 62)).cell? ⟨w2.heap.size,1,none⟩=some (.int .i64 h2):=H3.out.c 1 rfl;have y2:(w3.alloc (.cells #[.int .i64 x1,.string x2] 62)).cell? ⟨w2.heap.size,2,none⟩=some (.int .i64 h3):=H3.out.c 2 rfl;have y3:(w3.alloc (.cells #[.int .i64 x1,.string x2] 62)).cell? ⟨w2.heap.size,3,none⟩=some (.string h4):=H3.out.c 3 rfl;have y4:(w3.alloc (.cells #[.int .i64 x1,.string x2] 62)).cell? ⟨w2.heap.size,4,none⟩=some (.string h5):=H3.out.c 4 rfl;have xc0:(w3.alloc (.cells #[.int .i64 x1,.string x2] 62)).cell? ⟨w3.heap.size,0,none⟩=some (.int .i64 x1):=X3.out.c 0 rfl;have xc1:(w3.alloc (.cells #[.int .i64 x1,.string x2] 62)).cell? ⟨w3.heap.size,1,none⟩=some (.string x2):=X3.out.c 1 rfl;have C4:=qH (C3.out.set_ 3 (.bool true));have S4:=qH (Ak S3.out (p:=⟨w1.heap.size,3,none⟩) g1 (.bool true));have fr:=C3.out.frozen 3;have w3c:(w3.alloc (.cells #[.int .i64 x1,.string x2] 62)).cell? ⟨w1.heap.size,3,none⟩=some (.bool c4):=C3.out.c 3 rfl
 have hx':x1≠h3∨(x1=h3∧x2≠h4):=by
  by_cases a:x1=h3
  ·exact .inr ⟨a,fun b=>hx ⟨a,b⟩⟩
  ·exact .inl a
 clear hx n1 n2 n3 g1 C3 H3 X3 S3
 rcases hx' with hx|⟨rfl,hx⟩
 all_goals first
  | have hxb:(x1==h3)=false:=by rw [beq_eq_false_iff_ne];exact hx
  | have hxb:=Nu hx
 all_goals clear hx
 all_goals go_wp2
 all_goals generalize (w3.alloc (.cells #[.int .i64 x1,.string x2] 62)).setCell ⟨w1.heap.size,3,none⟩ (.bool true)=V at *
 all_goals have k0:V.cell? ⟨w1.heap.size,0,none⟩=some (.string c1):=C4.out.c 0 rfl
 all_goals have k1:V.cell? ⟨w1.heap.size,1,none⟩=some (.string c2):=C4.out.c 1 rfl
 all_goals have k2:V.cell? ⟨w1.heap.size,2,none⟩=some (.int .i64 c3):=C4.out.c 2 rfl
 all_goals have k3:V.cell? ⟨w1.heap.size,3,none⟩=some (.bool true):=C4.out.c 3 rfl
 all_goals have kk0:∀ ob,(V.alloc ob).cell? ⟨w1.heap.size,0,none⟩=some (.string c1):=fun ob=>(C4.out.alloc ob).c 0 rfl
 all_goals have kk1:∀ ob,(V.alloc ob).cell? ⟨w1.heap.size,1,none⟩=some (.string c2):=fun ob=>(C4.out.alloc ob).c 1 rfl
 all_goals have kk2:∀ ob,(V.alloc ob).cell? ⟨w1.heap.size,2,none⟩=some (.int .i64 c3):=fun ob=>(C4.out.alloc ob).c 2 rfl
 all_goals have kk3:∀ ob,(V.alloc ob).cell? ⟨w1.heap.size,3,none⟩=some (.bool true):=fun ob=>(C4.out.alloc ob).c 3 rfl
 all_goals have r0:=Aa.refl V
 all_goals have KEY':=MI KEY S4.out
 all_goals have VA':=EM VA S4.out
 all_goals have PU':=Ll PU S4.out
 all_goals clear KEY VA PU C4
 all_goals go_region_held3 (fun W=>W.cell? ⟨w1.heap.size,0,none⟩=some (.string c1)∧W.cell? ⟨w1.heap.size,1,none⟩=some (.string c2)∧W.cell? ⟨w1.heap.size,2,none⟩=some (.int .i64 c3)∧W.cell? ⟨w1.heap.size,3,none⟩=some (.bool true))
  (first|exact⟨s5.cell k0,s5.cell k1,s5.cell k2,s5.cell k3⟩|exact⟨s6.cell k0,s6.cell k1,s6.cell k2,s6.cell k3⟩|exact⟨s7.cell k0,s7.cell k1,s7.cell k2,s7.cell k3⟩|exact⟨kk0 _,kk1 _,kk2 _,kk3 _⟩|go_keep)
  (first
    | (go_at_call 39;refine(KEY'.out _ _ (Bg (Ab r0 _)) (CL (Blk.new V _ _))).mono ?_;clear KEY';rintro en w5 ⟨rfl,s5⟩)
    | (go_at_call 72;refine(VA'.out _ (by exact s5)).mono ?_;clear VA';rintro en w6 ⟨rfl,s6⟩)
    | (go_at_call 26;refine(PU'.out _ (by exact s6)).mono ?_;clear PU';rintro en w7 ⟨v7,rfl,P7,s7,n7⟩))
 all_goals go_wp2
 all_goals go_ret2
 all_goals exact⟨v7,rfl,P7,Ac S4.out s7,fun g hg=>Nat.le_trans S4.out.below.size (n7 g hg)⟩
theorem Rq {w V:World} {p x n key:ByteArray} (h:Hid (∀ W b,Aa w W→Blk W b 9 #[.string p,.string x,.string n]→Calls qP 39 #[.slice (some ⟨b,0,none⟩) 3 3] W fun e w'=>e=.returned (.string key)∧Aa W w')) (hV:Aa w V):Hid (∀ W b,Aa V W→Blk W b 9 #[.string p,.string x,.string n]→Calls qP 39 #[.slice (some ⟨b,0,none⟩) 3 3] W fun e w'=>e=.returned (.string key)∧Aa V w') :=
 qH fun W b hW hB=>(h.out W b (Ac hV hW) hB).mono fun _ _ ⟨he,hb⟩=>⟨he,Ac hW hb⟩
theorem Xh (A:Option Addr) (m c:Nat) (id raw:ByteArray) (c1 c2:ByteArray) (c3:Int) (c4:Bool) (h1:ByteArray) (h2 h3:Int) (h4 h5:ByteArray) (x1:Int) (x2:ByteArray) (f mx:Int) (key key3 nn tx:ByteArray) (t1 t2:List UInt8) (L1 L2:List KV) (hf:f≠0) (hmx:mx=max c3 h2) (hl1:t1.length≤100000) (hl2:t2.length≤100000) (w:World)
  (C:Hid (∀ W,Aa w W→Calls qP 12 #[.slice A m c,.string id] W fun en w'=>en=.returned (.tuple #[.agg #[.string c1,.string c2,.int .i64 c3,.bool c4],.int .i64 0])∧Aa W w'))
  (E:Hid (∀ W,Aa w W→Calls qP 77 #[.agg #[.string c1,.string c2,.int .i64 c3,.bool c4],.string raw] W fun en w'=>en=.returned (.tuple #[.agg #[.string h1,.int .i64 h2,.int .i64 h3,.string h4,.string h5],.int .i64 0])∧Aa W w'))
  (X:Hid (∀ W,Aa w W→Calls qP 32 #[.slice A m c,.string id,.int .i64 h2] W fun en w'=>en=.returned (.tuple #[.agg #[.int .i64 x1,.string x2],.int .i64 f])∧Aa W w'))
  (NUM:Hid (∀ W,Aa w W→Calls qP 22 #[.int .i64 h2] W fun en w'=>en=.returned (.string nn)∧Aa W w'))
  (KEY3:Hid (∀ W b,Aa w W→Blk W b 9 #[.string ⟨#[115,101,101,110]⟩,.string id,.string nn]→Calls qP 39 #[.slice (some ⟨b,0,none⟩) 3 3] W fun e w'=>e=.returned (.string key3)∧Aa W w'))
  (N1:Hid (∀ W,Aa w W→Calls qP 78 #[.int .i64 h3] W fun en w'=>en=.returned (.string (bs t1))∧Aa W w'))
  (T2:Hid (∀ W,Aa w W→Calls qP 79 #[.string h4] W fun en w'=>en=.returned (.string (bs t2))∧Aa W w'))
  (PU1:Hid (∀ W,Aa w W→Calls qP 26 #[.slice A m c,.string key3,.string (bs (t1++t2))] W fun e w'=>∃ v',e=.returned v'∧Prs w' v' L1∧Aa W w'∧∀ g,v'.ownBlock=some g→W.heap.size≤g))
  (KEY:Hid (∀ W b,Aa w W→Blk W b 9 #[.string ⟨#[99,108,105,101,110,116]⟩,.string id]→Calls qP 39 #[.slice (some ⟨b,0,none⟩) 2 2] W fun e w'=>e=.returned (.string key)∧Aa W w'))
  (VA:Hid (∀ W,Aa w W→Calls qP 72 #[.agg #[.string c1,.string c2,.int .i64 mx,.bool c4]] W fun en w'=>en=.returned (.string tx)∧Aa W w'))
  (PU2:Hid (∀ W v,Aa w W→Prs W v L1→Calls qP 26 #[v,.string key,.string tx] W fun e w'=>∃ v',e=.returned v'∧Prs w' v' L2∧Aa W w'∧∀ g,v'.ownBlock=some g→W.heap.size≤g)) :
  Calls qP 28 #[.slice A m c,.string id,.string raw] w fun en w'=>∃ v,en=.returned (.tuple #[v,.int .i64 0])∧Prs w' v L2∧Aa w w'∧∀ g,v.ownBlock=some g→w.heap.size≤g:=by
 have ad:∀ W,(Op.stringOp .add (bs t1) (bs t2)).run qP W=.ok (.string (bs (t1++t2))) W:=fun W=>AB W t1 t2 (by omega)
 have hm:∀ W,(Builtin.max_ #[3,3] 3 #[.int .i64 c3,.int .i64 h2]).run qP W=.ok (.int .i64 mx) W:=fun W=>by rw [Lib.run_max_ints,hmx]
 have hfb:(f==0)=false:=by rw [beq_eq_false_iff_ne];exact hf
 clear hf hmx hl1 hl2;generalize t1++t2=t3 at *;go_enter Tryz.func28,Tryz.ntmps28
 go_wp2_with fail
 refine(C.out _ (Aa.refl w)).mono ?_;rintro en w1 ⟨rfl,q⟩;have C1:=qH (Blk.new w1 41 #[.string c1,.string c2,.int .i64 c3,.bool c4]);have S1:=qH (Ab q (.cells #[.string c1,.string c2,.int .i64 c3,.bool c4] 41));have S0:=qH q;clear C q;have y0:(w1.alloc (.cells #[.string c1,.string c2,.int .i64 c3,.bool c4] 41)).cell? ⟨w1.heap.size,0,none⟩=some (.string c1):=C1.out.c 0 rfl;have y1:(w1.alloc (.cells #[.string c1,.string c2,.int .i64 c3,.bool c4] 41)).cell? ⟨w1.heap.size,1,none⟩=some (.string c2):=C1.out.c 1 rfl;have y2:(w1.alloc (.cells #[.string c1,.string c2,.int .i64 c3,.bool c4] 41)).cell? ⟨w1.heap.size,2,none⟩=some (.int .i64 c3):=C1.out.c 2 rfl;have y3:(w1.alloc (.cells #[.string c1,.string c2,.int .i64 c3,.bool c4] 41)).cell? ⟨w1.heap.size,3,none⟩=some (.bool c4):=C1.out.c 3 rfl
 go_wp2_with fail
 clear y0 y1 y2 y3;refine(E.out _ S1.out).mono ?_;rintro en w2 ⟨rfl,q⟩;have C2:=qH ((C1.out.next q.below).alloc (.cells #[.string h1,.int .i64 h2,.int .i64 h3,.string h4,.string h5] 34));have H2:=qH (Blk.new w2 34 #[.string h1,.int .i64 h2,.int .i64 h3,.string h4,.string h5]);have S2:=qH (Ab (Ac S1.out q) (.cells #[.string h1,.int .i64 h2,.int .i64 h3,.string h4,.string h5] 34));clear E C1 S1 q;have y1:(w2.alloc (.cells #[.string h1,.int .i64 h2,.int .i64 h3,.string h4,.string h5] 34)).cell? ⟨w2.heap.size,1,none⟩=some (.int .i64 h2):=H2.out.c 1 rfl
 go_wp2_with fail
 clear y1;refine(X.out _ S2.out).mono ?_;rintro en w3 ⟨rfl,q⟩
 have n2:w1.heap.size<w2.heap.size+1:=by have:=C2.out.lt;simpa using this
 have n3:w2.heap.size<w3.heap.size:=Nat.lt_of_lt_of_le H2.out.lt q.below.size;have n1:w1.heap.size<w3.heap.size:=Nat.lt_of_lt_of_le C2.out.lt q.below.size;have g1:w.heap.size≤w1.heap.size:=S0.out.below.size;have C3:=qH ((C2.out.next q.below).alloc (.cells #[.int .i64 x1,.string x2] 62));have H3:=qH ((H2.out.next q.below).alloc (.cells #[.int .i64 x1,.string x2] 62));have X3:=qH (Blk.new w3 62 #[.int .i64 x1,.string x2]);have S3:=qH (Ab (Ac S2.out q) (.cells #[.int .i64 x1,.string x2] 62));clear X C2 H2 S2 q S0;go_wp2;have hlt:w1.heap.size<(w3.alloc (.cells #[.int .i64 x1,.string x2] 62)).heap.size:=C3.out.lt;have HB:=qH H3.out;have CB:=qH C3.out;have SB:=qH S3.out;clear n1 n2 n3 C3 H3 X3 S3;generalize (w3.alloc (.cells #[.int .i64 x1,.string x2] 62))=V at *;have k0:V.cell? ⟨w2.heap.size,0,none⟩=some (.string h1):=HB.out.c 0 rfl;have k1:V.cell? ⟨w2.heap.size,1,none⟩=some (.int .i64 h2):=HB.out.c 1 rfl;have k2:V.cell? ⟨w2.heap.size,2,none⟩=some (.int .i64 h3):=HB.out.c 2 rfl;have k3:V.cell? ⟨w2.heap.size,3,none⟩=some (.string h4):=HB.out.c 3 rfl;have k4:V.cell? ⟨w2.heap.size,4,none⟩=some (.string h5):=HB.out.c 4 rfl;have kk0:∀ ob,(V.alloc ob).cell? ⟨w2.heap.size,0,none⟩=some (.string h1):=fun ob=>(HB.out.alloc ob).c 0 rfl;have kk1:∀ ob,(V.alloc ob).cell? ⟨w2.heap.size,1,none⟩=some (.int .i64 h2):=fun ob=>(HB.out.alloc ob).c 1 rfl;have kk2:∀ ob,(V.alloc ob).cell? ⟨w2.heap.size,2,none⟩=some (.int .i64 h3):=fun ob=>(HB.out.alloc ob).c 2 rfl;have kk3:∀ ob,(V.alloc ob).cell? ⟨w2.heap.size,3,none⟩=some (.string h4):=fun ob=>(HB.out.alloc ob).c 3 rfl;have kk4:∀ ob,(V.alloc ob).cell? ⟨w2.heap.size,4,none⟩=some (.string h5):=fun ob=>(HB.out.alloc ob).c 4 rfl;have r0:=Aa.refl V;have NUM':=EM NUM SB.out;have KEY3':=Rq KEY3 SB.out;have N1':=EM N1 SB.out;have T2':=EM T2 SB.out;have PU1':=Ll PU1 SB.out;clear NUM KEY3 N1 T2 PU1
 go_region_held3 (fun W=>W.cell? ⟨w2.heap.size,0,none⟩=some (.string h1)∧W.cell? ⟨w2.heap.size,1,none⟩=some (.int .i64 h2)∧W.cell? ⟨w2.heap.size,2,none⟩=some (.int .i64 h3)∧W.cell? ⟨w2.heap.size,3,none⟩=some (.string h4)∧W.cell? ⟨w2.heap.size,4,none⟩=some (.string h5))
  (first|exact⟨s4.cell k0,s4.cell k1,s4.cell k2,s4.cell k3,s4.cell k4⟩|exact⟨(Ab s4 _).cell k0,(Ab s4 _).cell k1,(Ab s4 _).cell k2,(Ab s4 _).cell k3,(Ab s4 _).cell k4⟩|exact⟨s5.cell k0,s5.cell k1,s5.cell k2,s5.cell k3,s5.cell k4⟩|exact⟨s6.cell k0,s6.cell k1,s6.cell k2,s6.cell k3,s6.cell k4⟩|exact⟨s7.cell k0,s7.cell k1,s7.cell k2,s7.cell k3,s7.cell k4⟩|exact⟨s8.cell k0,s8.cell k1,s8.cell k2,s8.cell k3,s8.cell k4⟩|exact⟨kk0 _,kk1 _,kk2 _,kk3 _,kk4 _⟩|go_keep)
  (first
    | (go_at_call 22;refine(NUM'.out _ (by exact r0)).mono ?_;clear NUM';rintro en w4 ⟨rfl,s4⟩)
    | (go_at_call 39;refine(KEY3'.out _ _ (by first|exact Bg (Ab s4 _)|exact Ab s4 _|exact Ab (Bg s4) _|exact Bg (Ab (Bg s4) _)) (by first|exact CL (Blk.new _ _ _)|exact Blk.new _ _ _|exact CL (Blk.new w4.drew _ _)|exact Blk.new w4.drew _ _)).mono ?_;clear KEY3';rintro en w5 ⟨rfl,s5⟩)
    | (go_at_call 78;refine(N1'.out _ (by exact s5)).mono ?_;clear N1';rintro en w6 ⟨rfl,s6⟩)
    | (go_at_call 79;refine(T2'.out _ (by exact s6)).mono ?_;clear T2';rintro en w7 ⟨rfl,s7⟩)
    | (go_at_call 26;refine(PU1'.out _ (by exact s7)).mono ?_;clear PU1';rintro en w8 ⟨v8,rfl,P8,s8,fr8⟩))
 have C8:=qH (CB.out.next s8.below);have H8:=qH (HB.out.next s8.below);have S8:=qH (Ac SB.out s8);have P9:Hid (Prs (w8.setCell ⟨w1.heap.size,2,none⟩ (.int .i64 mx)) v8 L1):=qH (P8.moved fun g hg=>Below.heap_setCell w8 ⟨w1.heap.size,2,none⟩ _ g (fun e=>by have:=fr8 g hg;simp only at e;omega));have C9:=qH (C8.out.set_ 2 (.int .i64 mx));have S9:=qH (Ak S8.out (p:=⟨w1.heap.size,2,none⟩) g1 (.int .i64 mx));have a0:w8.cell? ⟨w1.heap.size,2,none⟩=some (.int .i64 c3):=C8.out.c 2 rfl;have a1:w8.cell? ⟨w2.heap.size,1,none⟩=some (.int .i64 h2):=H8.out.c 1 rfl;have a2:=C8.out.frozen 2;clear k0 k1 k2 k3 k4 kk0 kk1 kk2 kk3 kk4 r0 s4 s5 s6 s7 P8 fr8 CB HB SB C8 H8 S8 hlt g1;go_wp2;generalize w8.setCell ⟨w1.heap.size,2,none⟩ (.int .i64 mx)=U at *;have k0:U.cell? ⟨w1.heap.size,0,none⟩=some (.string c1):=C9.out.c 0 rfl;have k1:U.cell? ⟨w1.heap.size,1,none⟩=some (.string c2):=C9.out.c 1 rfl;have k2:U.cell? ⟨w1.heap.size,2,none⟩=some (.int .i64 mx):=C9.out.c 2 rfl;have k3:U.cell? ⟨w1.heap.size,3,none⟩=some (.bool c4):=C9.out.c 3 rfl;have kk0:∀ ob,(U.alloc ob).cell? ⟨w1.heap.size,0,none⟩=some (.string c1):=fun ob=>(C9.out.alloc ob).c 0 rfl;have kk1:∀ ob,(U.alloc ob).cell? ⟨w1.heap.size,1,none⟩=some (.string c2):=fun ob=>(C9.out.alloc ob).c 1 rfl;have kk2:∀ ob,(U.alloc ob).cell? ⟨w1.heap.size,2,none⟩=some (.int .i64 mx):=fun ob=>(C9.out.alloc ob).c 2 rfl;have kk3:∀ ob,(U.alloc ob).cell? ⟨w1.heap.size,3,none⟩=some (.bool c4):=fun ob=>(C9.out.alloc ob).c 3 rfl;have r0:=Aa.refl U;have KEY':=MI KEY S9.out;have VA':=EM VA S9.out;have PU':=qH (fun W (hW:Aa U W)=>US (PU2.out W v8 (Ac S9.out hW) (P9.out.below hW.below)) hW);clear KEY VA PU2 C9 P9
 go_region_held3 (fun W=>W.cell? ⟨w1.heap.size,0,none⟩=some (.string c1)∧W.cell? ⟨w1.heap.size,1,none⟩=some (.string c2)∧W.cell? ⟨w1.heap.size,2,none⟩=some (.int .i64 mx)∧W.cell? ⟨w1.heap.size,3,none⟩=some (.bool c4))
  (first|exact⟨s15.cell k0,s15.cell k1,s15.cell k2,s15.cell k3⟩|exact⟨s16.cell k0,s16.cell k1,s16.cell k2,s16.cell k3⟩|exact⟨s17.cell k0,s17.cell k1,s17.cell k2,s17.cell k3⟩|exact⟨kk0 _,kk1 _,kk2 _,kk3 _⟩|go_keep)
  (first
    | (go_at_call 39;refine(KEY'.out _ _ (Bg (Ab r0 _)) (CL (Blk.new U _ _))).mono ?_;clear KEY';rintro en w15 ⟨rfl,s15⟩)
    | (go_at_call 72;refine(VA'.out _ (by exact s15)).mono ?_;clear VA';rintro en w16 ⟨rfl,s16⟩)
    | (go_at_call 26;refine(PU'.out _ (by exact s16)).mono ?_;clear PU';rintro en w17 ⟨v17,rfl,P17,s17,n17⟩))
 go_wp2
 go_ret2
 exact⟨v17,rfl,P17,Ac S9.out s17,fun g hg=>Nat.le_trans S9.out.below.size (n17 g hg)⟩
theorem Xi (L:List KV) (id:ByteArray):(AA L id).1.key.size≤65536:=by
 unfold AA
 split
 ·simp [Clt.zero,ByteArray.size]
 ·rename_i c h
  rw [Option.bind_eq_some_iff] at h;obtain⟨v,_,hv⟩:=h;unfold Gm at hv;simp only at hv
  split at hv
  ·cases hv
  ·injection hv with hv
   subst hv;exact(AV _ _).2
theorem TD {w:World} {f:FuncId} {args:Array Value} {L:List KV} {s:Value} {x:Int} (h:Calls qP f args w fun en w'=>∃ v,en=.returned (.tuple #[v,.int .i64 x])∧Prs w' v L∧Aa w w'∧∀ g,v.ownBlock=some g→w.heap.size≤g) :
  Calls qP f args w fun en w'=>∃ v,en=.returned (.tuple #[v,.int .i64 x])∧Prs w' v L∧Aa w w'∧(v=s∨∀ g,v.ownBlock=some g→w.heap.size≤g) :=
 h.mono fun _ _ ⟨v,h1,h2,h3,h4⟩=>⟨v,h1,h2,h3,.inr h4⟩
section
variable {s:Value} {L:List KV} {w:World}
theorem TE (hP:Prs w s L) (hu:Up L) (hz:L.length+2≤1000000000) (hL:BD L) (id:ByteArray) (hid:id.size≤1000000) (raw:ByteArray) (hraw:raw.size≤9223372036854775807) :
  Calls qP 28 #[s,.string id,.string raw] w fun en w'=>∃ v,en=.returned (.tuple #[v,.int .i64 (GJ L id raw).2])∧Prs w' v (GJ L id raw).1∧Aa w w'∧(v=s∨∀ g,v.ownBlock=some g→w.heap.size≤g):=by
 have C:=qH (fun W (hW:Aa w W)=>Nt (hP.below hW.below) hu (by omega) hL id hid);have hkey:=Xi L id;have E:=qH (fun W (_:Aa w W)=>ZQ (AA L id).1 raw W hraw (by omega));have X:=qH (fun W (hW:Aa w W)=>Ro (hP.below hW.below) hu (by omega) hL id hid (DH (AA L id).1 raw).1.height);have KEY:=qH (fun W b (_:Aa w W) hB=>Tk Gq id b W hB (by decide) hid);have kept:∀ {x:Int} {en:Ending} {w':World},en=.returned (.tuple #[s,.int .i64 x])∧Aa w w'→∃ v,en=.returned (.tuple #[v,.int .i64 x])∧Prs w' v L∧Aa w w'∧(v=s∨∀ g,v.ownBlock=some g→w.heap.size≤g):=fun⟨he,hs⟩=>⟨_,he,hP.below hs.below,hs,.inl rfl⟩;have PUT:∀ tx:ByteArray,Hid (∀ W,Aa w W→Calls qP 26 #[s,.string (BN id),.string tx] W fun e w'=>∃ v',e=.returned v'∧Prs w' v' (Az L (BN id) tx)∧Aa W w'∧∀ g,v'.ownBlock=some g→W.heap.size≤g):=fun tx=>qH fun W hW=>Hd s L (BN id) tx W (hP.below hW.below) hu (by omega);unfold GJ Mz;obtain⟨⟨⟨c1,c2,c3,c4⟩,e⟩,hc⟩:∃ x,AA L id=x:=⟨_,rfl⟩;rw [hc] at C E X ⊢;simp only at C E X ⊢;obtain⟨⟨⟨h1,h2,h3,h4,h5⟩,f⟩,hh⟩:∃ x,DH ⟨c1,c2,c3,c4⟩ raw=x:=⟨_,rfl⟩;rw [hh] at E X ⊢;simp only at E X ⊢;obtain⟨⟨⟨x1,x2⟩,g⟩,hx⟩:∃ x,Dn L id h2=x:=⟨_,rfl⟩;rw [hx] at X ⊢;simp only at X ⊢;have PU1:=qH (fun W (hW:Aa w W)=>Hd s L (Bf id h2) (bs ((Ag h3).1++(Ai h4).1)) W (hP.below hW.below) hu (by omega));have hu1:=FP (k:=Bf id h2) (v:=bs (Ec h3 h4)) hu;have hl1:=CJ (k:=Bf id h2) (v:=bs (Ec h3 h4)) L;have PU2:=qH (fun W v (_:Aa w W) (h:Prs W v _)=>Hd v _ (BN id) (bs (BC ⟨c1,c2,max c3 h2,c4⟩)) W h hu1 (by omega));obtain⟨A,cap,rfl,_,_⟩:=hP;by_cases he:e=0
 ·subst he
  rw [if_neg (by simp)];by_cases hf:f=0
  ·subst hf
   rw [if_neg (by simp)];by_cases hg:g=0
   ·subst hg
    rw [if_pos rfl];by_cases hs:x1=h3∧x2=h4
    ·rw [if_pos hs]
     obtain⟨rfl,rfl⟩:=hs;exact(UT A _ cap id raw c1 c2 c3 c4 h1 h5 h2 x1 x2 w C E X).mono fun _ _ k=>kept k
    ·rw [if_neg hs]
     exact TD (Xg A _ cap id raw c1 c2 c3 c4 h1 h2 h3 h4 h5 x1 x2 (BN id) (bs (BC ⟨c1,c2,c3,true⟩)) _ hs w C E X KEY (qH fun W _=>Rn ⟨c1,c2,c3,true⟩ W) (PUT _))
   ·rw [if_neg hg]
    exact TD (Xh A _ cap id raw c1 c2 c3 c4 h1 h2 h3 h4 h5 x1 x2 g (max c3 h2) (BN id) (Bf id h2) (nTx h2) (bs (BC ⟨c1,c2,max c3 h2,c4⟩)) (Ag h3).1 (Ai h4).1 _ _ hg rfl (by have:=Au h3;omega) (by have:=AF h4;omega) w C E X (qH fun W _=>MH h2 W) (qH fun W b _ hB=>cD La id (nTx h2) b W hB (by decide) hid (by have:=Ns h2;omega)) (qH fun W _=>Nl h3 W) (qH fun W _=>Nm h4 W) PU1 KEY (qH fun W _=>Rn ⟨c1,c2,max c3 h2,c4⟩ W) PU2)
  ·rw [if_pos hf]
   exact(ZS A _ cap id raw c1 c2 c3 c4 h1 h2 h3 h4 h5 f hf w C E).mono fun _ _ k=>kept k
 ·rw [if_pos he]
  exact(ZR A _ cap id raw c1 c2 c3 c4 e he w C).mono fun _ _ k=>kept k
end
structure Lp (w:World) (s:ByteArray) (e n1 n2:Int) (t:Bool) (W:World):Prop where
 r:Blk W w.heap.size 93 #[.string s,.int .i64 e]
 rr:Blk W (w.heap.size+1) 93 #[.string ⟨#[]⟩,.int .i64 0]
 rx:Blk W (w.heap.size+1+1) 112 #[.int .i64 0,.int .i64 0,.bool false,.slice none 0 0,.slice none 0 0]
 x:Blk W (w.heap.size+1+1+1) 112 #[.int .i64 n1,.int .i64 n2,.bool t,.slice none 0 0,.slice none 0 0]
 s:Aa w W
section
variable {w W W':World} {s s':ByteArray} {e e' n1 n2:Int} {t:Bool}
theorem Xn (w:World) (s:ByteArray) (e:Int):Lp w s e 0 0 false ((((w.alloc (.cells #[.string s,.int .i64 e] 93)).alloc (.cells #[.string ⟨#[]⟩,.int .i64 0] 93)).alloc (.cells #[.int .i64 0,.int .i64 0,.bool false,.slice none 0 0,.slice none 0 0] 112)).alloc (.cells #[.int .i64 0,.int .i64 0,.bool false,.slice none 0 0,.slice none 0 0] 112)):=by
 have h1:=Blk.new w 93 #[.string s,.int .i64 e];have b1:Below w.heap.size w (w.alloc (.cells #[.string s,.int .i64 e] 93)):=(Below.refl _ w).alloc (Nat.le_refl _) _
 have e1:(w.alloc (.cells #[.string s,.int .i64 e] 93)).heap.size=w.heap.size+1:=by simp
 generalize w.alloc (.cells #[.string s,.int .i64 e] 93)=W1 at *;have h2:=Blk.new W1 93 #[.string ⟨#[]⟩,.int .i64 0];rw [e1] at h2;have h1':=h1.alloc (.cells #[.string ⟨#[]⟩,.int .i64 0] 93);have b2:Below w.heap.size w (W1.alloc (.cells #[.string ⟨#[]⟩,.int .i64 0] 93)):=b1.alloc b1.size _
 have e2:(W1.alloc (.cells #[.string ⟨#[]⟩,.int .i64 0] 93)).heap.size=w.heap.size+1+1:=by simp [e1]
 generalize W1.alloc (.cells #[.string ⟨#[]⟩,.int .i64 0] 93)=W2 at *;have h3:=Blk.new W2 112 #[.int .i64 0,.int .i64 0,.bool false,.slice none 0 0,.slice none 0 0];rw [e2] at h3;have b3:Below w.heap.size w (W2.alloc (.cells #[.int .i64 0,.int .i64 0,.bool false,.slice none 0 0,.slice none 0 0] 112)):=b2.alloc b2.size _
 have e3:(W2.alloc (.cells #[.int .i64 0,.int .i64 0,.bool false,.slice none 0 0,.slice none 0 0] 112)).heap.size=w.heap.size+1+1+1:=by simp [e2]
 have h1'':=h1'.alloc (.cells #[.int .i64 0,.int .i64 0,.bool false,.slice none 0 0,.slice none 0 0] 112);have h2':=h2.alloc (.cells #[.int .i64 0,.int .i64 0,.bool false,.slice none 0 0,.slice none 0 0] 112);generalize W2.alloc (.cells #[.int .i64 0,.int .i64 0,.bool false,.slice none 0 0,.slice none 0 0] 112)=W3 at *;have h4:=Blk.new W3 112 #[.int .i64 0,.int .i64 0,.bool false,.slice none 0 0,.slice none 0 0];rw [e3] at h4;exact⟨h1''.alloc _,h2'.alloc _,h3.alloc _,h4,Ad (b3.alloc b3.size _)⟩
theorem Lp.next (h:Lp w s e n1 n2 t W) (k:Below W.heap.size W W'):Lp w s e n1 n2 t W':=⟨h.r.below k h.r.lt,h.rr.below k h.rr.lt,h.rx.below k h.rx.lt,h.x.below k h.x.lt,Ad (Ae h.s.below k)⟩
theorem Lp.setR (h:Lp w s e n1 n2 t W) (s':ByteArray) (e':Int):Lp w s' e' n1 n2 t ((W.setCell ⟨w.heap.size,0,none⟩ (.string s')).setCell ⟨w.heap.size,1,none⟩ (.int .i64 e')) :=
 ⟨(h.r.set_ 0 _).set_ 1 _,(h.rr.far (p:=⟨w.heap.size,0,none⟩) (by simp only;omega) _).far (p:=⟨w.heap.size,1,none⟩) (by simp only;omega) _,(h.rx.far (p:=⟨w.heap.size,0,none⟩) (by simp only;omega) _).far (p:=⟨w.heap.size,1,none⟩) (by simp only;omega) _,(h.x.far (p:=⟨w.heap.size,0,none⟩) (by simp only;omega) _).far (p:=⟨w.heap.size,1,none⟩) (by simp only;omega) _,Ak (Ak h.s (by simp only;omega) _) (by simp only;omega) _⟩
theorem Lp.setX (h:Lp w s e n1 n2 t W) (i:Nat) (v:Value) (n1' n2':Int) (t':Bool) (hx:(#[.int .i64 n1,.int .i64 n2,.bool t,.slice none 0 0,.slice none 0 0]:Array Value).setIfInBounds i v=#[.int .i64 n1',.int .i64 n2',.bool t',.slice none 0 0,.slice none 0 0]) :
  Lp w s e n1' n2' t' (W.setCell ⟨w.heap.size+1+1+1,i,none⟩ v):=by
 have hxs:=h.x.set_ i v;rw [hx] at hxs;exact⟨h.r.far (p:=⟨w.heap.size+1+1+1,i,none⟩) (by simp only;omega) _,h.rr.far (p:=⟨w.heap.size+1+1+1,i,none⟩) (by simp only;omega) _,h.rx.far (p:=⟨w.heap.size+1+1+1,i,none⟩) (by simp only;omega) _,hxs,Ak h.s (by simp only;omega) _⟩
theorem Ge (h:Lp w s e n1 n2 t W) (s':ByteArray) (e':Int) (v0 v1 v2 v3 v4:Value) :
  Blk ((((((((W.setCell ⟨w.heap.size+1,0,none⟩ (.string s')).setCell ⟨w.heap.size+1,1,none⟩ (.int .i64 e')).setCell ⟨w.heap.size+1+1,0,none⟩ v0).setCell ⟨w.heap.size+1+1,1,none⟩ v1).setCell ⟨w.heap.size+1+1,2,none⟩ v2).setCell ⟨w.heap.size+1+1,3,none⟩ v3).setCell ⟨w.heap.size+1+1,4,none⟩ v4).drew) (w.heap.size+1) 93 #[.string s',.int .i64 e'] ∧
  Blk ((((((((W.setCell ⟨w.heap.size+1,0,none⟩ (.string s')).setCell ⟨w.heap.size+1,1,none⟩ (.int .i64 e')).setCell ⟨w.heap.size+1+1,0,none⟩ v0).setCell ⟨w.heap.size+1+1,1,none⟩ v1).setCell ⟨w.heap.size+1+1,2,none⟩ v2).setCell ⟨w.heap.size+1+1,3,none⟩ v3).setCell ⟨w.heap.size+1+1,4,none⟩ v4).drew) (w.heap.size+1+1) 112 #[v0,v1,v2,v3,v4] ∧
  Aa w ((((((((W.setCell ⟨w.heap.size+1,0,none⟩ (.string s')).setCell ⟨w.heap.size+1,1,none⟩ (.int .i64 e')).setCell ⟨w.heap.size+1+1,0,none⟩ v0).setCell ⟨w.heap.size+1+1,1,none⟩ v1).setCell ⟨w.heap.size+1+1,2,none⟩ v2).setCell ⟨w.heap.size+1+1,3,none⟩ v3).setCell ⟨w.heap.size+1+1,4,none⟩ v4).drew):=by
 have k1:Blk ((W.setCell ⟨w.heap.size+1,0,none⟩ (.string s')).setCell ⟨w.heap.size+1,1,none⟩ (.int .i64 e')) (w.heap.size+1) 93 #[.string s',.int .i64 e']:=(h.rr.set_ 0 _).set_ 1 _;have k2:Blk ((W.setCell ⟨w.heap.size+1,0,none⟩ (.string s')).setCell ⟨w.heap.size+1,1,none⟩ (.int .i64 e')) (w.heap.size+1+1) 112 #[.int .i64 0,.int .i64 0,.bool false,.slice none 0 0,.slice none 0 0]:=(h.rx.far (p:=⟨w.heap.size+1,0,none⟩) (by simp only;omega) _).far (p:=⟨w.heap.size+1,1,none⟩) (by simp only;omega) _;have k3:Aa w ((W.setCell ⟨w.heap.size+1,0,none⟩ (.string s')).setCell ⟨w.heap.size+1,1,none⟩ (.int .i64 e')):=Ak (Ak h.s (by simp only;omega) _) (by simp only;omega) _;generalize (W.setCell ⟨w.heap.size+1,0,none⟩ (.string s')).setCell ⟨w.heap.size+1,1,none⟩ (.int .i64 e')=V at *;have K1:=IN k1 (show w.heap.size+1≠w.heap.size+1+1 by omega) v0 v1 v2 v3 v4;have K2:=CK k2 v0 v1 v2 v3 v4;have K3:=AE k3 (show w.heap.size≤w.heap.size+1+1 by omega) v0 v1 v2 v3 v4;clear k1 k2 k3;generalize ((((V.setCell ⟨w.heap.size+1+1,0,none⟩ v0).setCell ⟨w.heap.size+1+1,1,none⟩ v1).setCell ⟨w.heap.size+1+1,2,none⟩ v2).setCell ⟨w.heap.size+1+1,3,none⟩ v3).setCell ⟨w.heap.size+1+1,4,none⟩ v4=U at *;exact⟨K1,K2,Ad (Below.drewN K3.below 1)⟩
end
def PE (w:World) (s4:ByteArray) (e4:Int) (n1 n2 n3 n4:Nat) (e:Ending) (w':World):Prop :=
 Aa w w'∧((e4≠0∧∃ s' e' m1 m2 t,e=.returned (.tuple #[rV s' e',.agg #[.int .i64 m1,.int .i64 m2,.bool t,.slice none 0 0,.slice none 0 0],.int .i64 0,.int .i64 e4])) ∨
  (e4=0∧(1<n3∨2<n4∨(n3=1∧0<n4))∧∃ s' e' m1 m2 t,e=.returned (.tuple #[rV s' e',.agg #[.int .i64 m1,.int .i64 m2,.bool t,.slice none 0 0,.slice none 0 0],.int .i64 0,.int .i64 6])) ∨
  (e4=0∧¬(1<n3∨2<n4∨(n3=1∧0<n4))∧e=.returned (.tuple #[rV s4 0,.agg #[.int .i64 n1,.int .i64 n2,.bool (decide (n3=1)),.slice none 0 0,.slice none 0 0],.int .i64 n4,.int .i64 0])))
theorem Rv (s s1 s2 s3 s4:ByteArray) (e1 e2 e3 e4:Int) (n1 n2 n3 n4:Nat) (w:World)
  (N1:Hid (∀ W,Calls qP 41 #[rV s 0] W (GK W ((s1,e1),n1))))
  (N2:Hid (∀ W,Calls qP 41 #[rV s1 e1] W (GK W ((s2,e2),n2))))
  (N3:Hid (∀ W,Calls qP 41 #[rV s2 e2] W (GK W ((s3,e3),n3))))
  (N4:Hid (∀ W,Calls qP 41 #[rV s3 e3] W (GK W ((s4,e4),n4)))) :
  Calls qP 163 #[rV s 0] w (PE w s4 e4 n1 n2 n3 n4):=by
 have H0:=qH (Xn w s 0);unfold GK Tp rV at N1 N2 N3 N4;simp only at N1 N2 N3 N4;unfold rV;go_enter Tryz.func163,Tryz.ntmps163
 go_wp2_with fail
 generalize ((((w.alloc (.cells #[.string s,.int .i64 0] 93)).alloc (.cells #[.string ⟨#[]⟩,.int .i64 0] 93)).alloc (.cells #[.int .i64 0,.int .i64 0,.bool false,.slice none 0 0,.slice none 0 0] 112)).alloc (.cells #[.int .i64 0,.int .i64 0,.bool false,.slice none 0 0,.slice none 0 0] 112))=W0 at *;refine(N1.out _).mono ?_;rintro e w1 ⟨rfl,q1⟩;have H1:=qH (H0.out.next q1);have a0:w1.cell? ⟨w.heap.size,0,none⟩=some (.string s):=H1.out.r.c 0 rfl;have a1:w1.cell? ⟨w.heap.size,1,none⟩=some (.int .i64 0):=H1.out.r.c 1 rfl;have a2:=H1.out.r.frozen 0;have a3:=H1.out.r.frozen 1;have b0:w1.cell? ⟨w.heap.size+1+1+1,0,none⟩=some (.int .i64 0):=H1.out.x.c 0 rfl;have b1:w1.cell? ⟨w.heap.size+1+1+1,1,none⟩=some (.int .i64 0):=H1.out.x.c 1 rfl;have b2:w1.cell? ⟨w.heap.size+1+1+1,2,none⟩=some (.bool false):=H1.out.x.c 2 rfl;have b3:=H1.out.x.frozen 0;have b4:=H1.out.x.frozen 1;have b5:=H1.out.x.frozen 2;clear N1 H0 q1
 go_wp2_with fail
 have K1:=qH ((H1.out.setR s1 e1).setX 0 (.int .i64 n1) n1 0 false rfl);clear a0 a1 a2 a3 b0 b1 b2 b3 b4 b5;generalize (((w1.setCell ⟨w.heap.size,0,none⟩ (.string s1)).setCell ⟨w.heap.size,1,none⟩ (.int .i64 e1)).setCell ⟨w.heap.size+1+1+1,0,none⟩ (.int .i64 n1))=W1 at *;refine(N2.out _).mono ?_;rintro e w2 ⟨rfl,q2⟩;have H2:=qH (K1.out.next q2);have a0:w2.cell? ⟨w.heap.size,0,none⟩=some (.string s1):=H2.out.r.c 0 rfl;have a1:w2.cell? ⟨w.heap.size,1,none⟩=some (.int .i64 e1):=H2.out.r.c 1 rfl;have a2:=H2.out.r.frozen 0;have a3:=H2.out.r.frozen 1;have b0:w2.cell? ⟨w.heap.size+1+1+1,0,none⟩=some (.int .i64 n1):=H2.out.x.c 0 rfl;have b1:w2.cell? ⟨w.heap.size+1+1+1,1,none⟩=some (.int .i64 0):=H2.out.x.c 1 rfl;have b2:w2.cell? ⟨w.heap.size+1+1+1,2,none⟩=some (.bool false):=H2.out.x.c 2 rfl;have b3:=H2.out.x.frozen 0;have b4:=H2.out.x.frozen 1;have b5:=H2.out.x.frozen 2;clear N2 H1 K1 q2
 go_wp2_with fail
 have K2:=qH ((H2.out.setR s2 e2).setX 1 (.int .i64 n2) n1 n2 false rfl);clear a0 a1 a2 a3 b0 b1 b2 b3 b4 b5;generalize (((w2.setCell ⟨w.heap.size,0,none⟩ (.string s2)).setCell ⟨w.heap.size,1,none⟩ (.int .i64 e2)).setCell ⟨w.heap.size+1+1+1,1,none⟩ (.int .i64 n2))=W2 at *;refine(N3.out _).mono ?_;rintro e w3 ⟨rfl,q3⟩;have H3:=qH (K2.out.next q3);have a0:w3.cell? ⟨w.heap.size,0,none⟩=some (.string s2):=H3.out.r.c 0 rfl;have a1:w3.cell? ⟨w.heap.size,1,none⟩=some (.int .i64 e2):=H3.out.r.c 1 rfl;have a2:=H3.out.r.frozen 0;have a3:=H3.out.r.frozen 1;have b0:w3.cell? ⟨w.heap.size+1+1+1,0,none⟩=some (.int .i64 n1):=H3.out.x.c 0 rfl;have b1:w3.cell? ⟨w.heap.size+1+1+1,1,none⟩=some (.int .i64 n2):=H3.out.x.c 1 rfl;have b2:w3.cell? ⟨w.heap.size+1+1+1,2,none⟩=some (.bool false):=H3.out.x.c 2 rfl;have b3:=H3.out.x.frozen 0;have b4:=H3.out.x.frozen 1;have b5:=H3.out.x.frozen 2;clear N3 H2 K2 q3
 go_wp2_with fail
 have K3:=qH ((H3.out.setR s3 e3));clear a0 a1 a2 a3 b0 b1 b2 b3 b4 b5;generalize ((w3.setCell ⟨w.heap.size,0,none⟩ (.string s3)).setCell ⟨w.heap.size,1,none⟩ (.int .i64 e3))=W3 at *;refine(N4.out _).mono ?_;rintro e w4 ⟨rfl,q4⟩;have H4:=qH (K3.out.next q4);have a0:w4.cell? ⟨w.heap.size,0,none⟩=some (.string s3):=H4.out.r.c 0 rfl;have a1:w4.cell? ⟨w.heap.size,1,none⟩=some (.int .i64 e3):=H4.out.r.c 1 rfl;have a2:=H4.out.r.frozen 0;have a3:=H4.out.r.frozen 1;have b0:w4.cell? ⟨w.heap.size+1+1+1,0,none⟩=some (.int .i64 n1):=H4.out.x.c 0 rfl;have b1:w4.cell? ⟨w.heap.size+1+1+1,1,none⟩=some (.int .i64 n2):=H4.out.x.c 1 rfl;have b2:w4.cell? ⟨w.heap.size+1+1+1,2,none⟩=some (.bool false):=H4.out.x.c 2 rfl;have b3:=H4.out.x.frozen 0;have b4:=H4.out.x.frozen 1;have b5:=H4.out.x.frozen 2;clear N4 H3 K3 q4;by_cases he:e4=0
 ·subst he
  by_cases h1:n3=1
  ·subst h1
   have hn3:(((1:Nat):Int)==1)=true:=by rfl
   have hn31:¬((1:Nat):Int)>1:=by omega
   by_cases h5:2<n4
   ·have h4:0<n4:=by omega
    have i5:(2:Int)<(n4:Int):=by omega
    go_wp2;have K4:=qH (((H4.out.setR s4 0)).setX 2 (.bool true) n1 n2 true rfl);clear a0 a1 a2 a3 b0 b1 b2 b3 b4 b5;generalize (((w4.setCell ⟨w.heap.size,0,none⟩ (.string s4)).setCell ⟨w.heap.size,1,none⟩ (.int .i64 0)).setCell ⟨w.heap.size+1+1+1,2,none⟩ (.bool true))=W4 at *;have a0:W4.cell? ⟨w.heap.size,0,none⟩=some (.string s4):=K4.out.r.c 0 rfl;have a1:W4.cell? ⟨w.heap.size,1,none⟩=some (.int .i64 0):=K4.out.r.c 1 rfl;have a2:=K4.out.r.frozen 0;have a3:=K4.out.r.frozen 1;have b0:W4.cell? ⟨w.heap.size+1+1+1,0,none⟩=some (.int .i64 n1):=K4.out.x.c 0 rfl;have b1:W4.cell? ⟨w.heap.size+1+1+1,1,none⟩=some (.int .i64 n2):=K4.out.x.c 1 rfl;have b2:W4.cell? ⟨w.heap.size+1+1+1,2,none⟩=some (.bool true):=K4.out.x.c 2 rfl;have b3:=K4.out.x.frozen 0;have b4:=K4.out.x.frozen 1;have b5:=K4.out.x.frozen 2;have d0:W4.cell? ⟨w.heap.size+1,0,none⟩=some (.string ⟨#[]⟩):=K4.out.rr.c 0 rfl;have d1:W4.cell? ⟨w.heap.size+1,1,none⟩=some (.int .i64 0):=K4.out.rr.c 1 rfl;have d2:=K4.out.rr.frozen 0;have d3:=K4.out.rr.frozen 1;have g0:W4.cell? ⟨w.heap.size+1+1,0,none⟩=some (.int .i64 0):=K4.out.rx.c 0 rfl;have g1:W4.cell? ⟨w.heap.size+1+1,1,none⟩=some (.int .i64 0):=K4.out.rx.c 1 rfl;have g2:W4.cell? ⟨w.heap.size+1+1,2,none⟩=some (.bool false):=K4.out.rx.c 2 rfl;have g3:W4.cell? ⟨w.heap.size+1+1,3,none⟩=some (.slice none 0 0):=K4.out.rx.c 3 rfl;have g4:W4.cell? ⟨w.heap.size+1+1,4,none⟩=some (.slice none 0 0):=K4.out.rx.c 4 rfl;have f0:=K4.out.rx.frozen 0;have f1:=K4.out.rx.frozen 1;have f2:=K4.out.rx.frozen 2;have f3:=K4.out.rx.frozen 3;have f4:=K4.out.rx.frozen 4;have b6:W4.cell? ⟨w.heap.size+1+1+1,3,none⟩=some (.slice none 0 0):=K4.out.x.c 3 rfl;have b7:W4.cell? ⟨w.heap.size+1+1+1,4,none⟩=some (.slice none 0 0):=K4.out.x.c 4 rfl
    go_region
    go_wp2;have D:=Ge K4.out s4 0 (.int .i64 n1) (.int .i64 n2) (.bool true) (.slice none 0 0) (.slice none 0 0);have D1:=D.1;have D2:=D.2.1;refine bodyPost_ret (v:=.tuple #[.agg #[.string s4,.int .i64 0],.agg #[.int .i64 n1,.int .i64 n2,.bool true,.slice none 0 0,.slice none 0 0],.int .i64 0,.int .i64 6]) (by simp [results,Tryz.results163,go_sem,D1.c 0 rfl,D1.c 1 rfl,D2.c 0 rfl,D2.c 1 rfl,D2.c 2 rfl,D2.c 3 rfl,D2.c 4 rfl]) rfl ?_;exact⟨D.2.2,.inr (.inl ⟨rfl,.inr (.inr ⟨rfl,h4⟩),s4,0,n1,n2,true,rfl⟩)⟩
   have i5:¬(2:Int)<(n4:Int):=by omega
   by_cases h4:0<n4
   ·have i4:(0:Int)<(n4:Int):=by omega
    go_wp2;have K4:=qH (((H4.out.setR s4 0)).setX 2 (.bool true) n1 n2 true rfl);clear a0 a1 a2 a3 b0 b1 b2 b3 b4 b5;generalize (((w4.setCell ⟨w.heap.size,0,none⟩ (.string s4)).setCell ⟨w.heap.size,1,none⟩ (.int .i64 0)).setCell ⟨w.heap.size+1+1+1,2,none⟩ (.bool true))=W4 at *;have a0:W4.cell? ⟨w.heap.size,0,none⟩=some (.string s4):=K4.out.r.c 0 rfl;have a1:W4.cell? ⟨w.heap.size,1,none⟩=some (.int .i64 0):=K4.out.r.c 1 rfl;have a2:=K4.out.r.frozen 0;have a3:=K4.out.r.frozen 1;have b0:W4.cell? ⟨w.heap.size+1+1+1,0,none⟩=some (.int .i64 n1):=K4.out.x.c 0 rfl;have b1:W4.cell? ⟨w.heap.size+1+1+1,1,none⟩=some (.int .i64 n2):=K4.out.x.c 1 rfl;have b2:W4.cell? ⟨w.heap.size+1+1+1,2,none⟩=some (.bool true):=K4.out.x.c 2 rfl;have b3:=K4.out.x.frozen 0;have b4:=K4.out.x.frozen 1;have b5:=K4.out.x.frozen 2;have d0:W4.cell? ⟨w.heap.size+1,0,none⟩=some (.string ⟨#[]⟩):=K4.out.rr.c 0 rfl;have d1:W4.cell? ⟨w.heap.size+1,1,none⟩=some (.int .i64 0):=K4.out.rr.c 1 rfl;have d2:=K4.out.rr.frozen 0;have d3:=K4.out.rr.frozen 1;have g0:W4.cell? ⟨w.heap.size+1+1,0,none⟩=some (.int .i64 0):=K4.out.rx.c 0 rfl;have g1:W4.cell? ⟨w.heap.size+1+1,1,none⟩=some (.int .i64 0):=K4.out.rx.c 1 rfl;have g2:W4.cell? ⟨w.heap.size+1+1,2,none⟩=some (.bool false):=K4.out.rx.c 2 rfl;have g3:W4.cell? ⟨w.heap.size+1+1,3,none⟩=some (.slice none 0 0):=K4.out.rx.c 3 rfl;have g4:W4.cell? ⟨w.heap.size+1+1,4,none⟩=some (.slice none 0 0):=K4.out.rx.c 4 rfl;have f0:=K4.out.rx.frozen 0;have f1:=K4.out.rx.frozen 1;have f2:=K4.out.rx.frozen 2;have f3:=K4.out.rx.frozen 3;have f4:=K4.out.rx.frozen 4;have b6:W4.cell? ⟨w.heap.size+1+1+1,3,none⟩=some (.slice none 0 0):=K4.out.x.c 3 rfl;have b7:W4.cell? ⟨w.heap.size+1+1+1,4,none⟩=some (.slice none 0 0):=K4.out.x.c 4 rfl
    go_region
    go_wp2;have D:=Ge K4.out s4 0 (.int .i64 n1) (.int .i64 n2) (.bool true) (.slice none 0 0) (.slice none 0 0);have D1:=D.1;have D2:=D.2.1;refine bodyPost_ret (v:=.tuple #[.agg #[.string s4,.int .i64 0],.agg #[.int .i64 n1,.int .i64 n2,.bool true,.slice none 0 0,.slice none 0 0],.int .i64 0,.int .i64 6]) (by simp [results,Tryz.results163,go_sem,D1.c 0 rfl,D1.c 1 rfl,D2.c 0 rfl,D2.c 1 rfl,D2.c 2 rfl,D2.c 3 rfl,D2.c 4 rfl]) rfl ?_;exact⟨D.2.2,.inr (.inl ⟨rfl,.inr (.inr ⟨rfl,h4⟩),s4,0,n1,n2,true,rfl⟩)⟩
   ·obtain rfl:n4=0:=by omega
    go_wp2;have K4:=qH (((H4.out.setR s4 0)).setX 2 (.bool true) n1 n2 true rfl);clear a0 a1 a2 a3 b0 b1 b2 b3 b4 b5;generalize (((w4.setCell ⟨w.heap.size,0,none⟩ (.string s4)).setCell ⟨w.heap.size,1,none⟩ (.int .i64 0)).setCell ⟨w.heap.size+1+1+1,2,none⟩ (.bool true))=W4 at *;have a0:W4.cell? ⟨w.heap.size,0,none⟩=some (.string s4):=K4.out.r.c 0 rfl;have a1:W4.cell? ⟨w.heap.size,1,none⟩=some (.int .i64 0):=K4.out.r.c 1 rfl;have a2:=K4.out.r.frozen 0;have a3:=K4.out.r.frozen 1;have b0:W4.cell? ⟨w.heap.size+1+1+1,0,none⟩=some (.int .i64 n1):=K4.out.x.c 0 rfl;have b1:W4.cell? ⟨w.heap.size+1+1+1,1,none⟩=some (.int .i64 n2):=K4.out.x.c 1 rfl;have b2:W4.cell? ⟨w.heap.size+1+1+1,2,none⟩=some (.bool true):=K4.out.x.c 2 rfl;have b3:=K4.out.x.frozen 0;have b4:=K4.out.x.frozen 1;have b5:=K4.out.x.frozen 2;have d0:W4.cell? ⟨w.heap.size+1,0,none⟩=some (.string ⟨#[]⟩):=K4.out.rr.c 0 rfl;have d1:W4.cell? ⟨w.heap.size+1,1,none⟩=some (.int .i64 0):=K4.out.rr.c 1 rfl;have d2:=K4.out.rr.frozen 0;have d3:=K4.out.rr.frozen 1;have g0:W4.cell? ⟨w.heap.size+1+1,0,none⟩=some (.int .i64 0):=K4.out.rx.c 0 rfl;have g1:W4.cell? ⟨w.heap.size+1+1,1,none⟩=some (.int .i64 0):=K4.out.rx.c 1 rfl;have g2:W4.cell? ⟨w.heap.size+1+1,2,none⟩=some (.bool false):=K4.out.rx.c 2 rfl;have g3:W4.cell? ⟨w.heap.size+1+1,3,none⟩=some (.slice none 0 0):=K4.out.rx.c 3 rfl;have g4:W4.cell? ⟨w.heap.size+1+1,4,none⟩=some (.slice none 0 0):=K4.out.rx.c 4 rfl;have f0:=K4.out.rx.frozen 0;have f1:=K4.out.rx.frozen 1;have f2:=K4.out.rx.frozen 2;have f3:=K4.out.rx.frozen 3;have f4:=K4.out.rx.frozen 4;have b6:W4.cell? ⟨w.heap.size+1+1+1,3,none⟩=some (.slice none 0 0):=K4.out.x.c 3 rfl;have b7:W4.cell? ⟨w.heap.size+1+1+1,4,none⟩=some (.slice none 0 0):=K4.out.x.c 4 rfl
    go_region
    go_wp2;have D:=Ge K4.out s4 0 (.int .i64 n1) (.int .i64 n2) (.bool true) (.slice none 0 0) (.slice none 0 0);have D1:=D.1;have D2:=D.2.1;refine bodyPost_ret (v:=.tuple #[.agg #[.string s4,.int .i64 0],.agg #[.int .i64 n1,.int .i64 n2,.bool true,.slice none 0 0,.slice none 0 0],.int .i64 0,.int .i64 0]) (by simp [results,Tryz.results163,go_sem,D1.c 0 rfl,D1.c 1 rfl,D2.c 0 rfl,D2.c 1 rfl,D2.c 2 rfl,D2.c 3 rfl,D2.c 4 rfl]) rfl ?_;exact⟨D.2.2,.inr (.inr ⟨rfl,by omega,rfl⟩)⟩
  ·skip
   have hn3:(((n3:Nat):Int)==1)=false:=by rw [beq_eq_false_iff_ne];omega
   have hd1:decide (n3=1)=false:=decide_eq_false h1;by_cases h3:1<n3
   ·have i3:(1:Int)<(n3:Int):=by omega
    clear h1;go_wp2;have K4:=qH (((H4.out.setR s4 0)).setX 2 (.bool false) n1 n2 false rfl);clear a0 a1 a2 a3 b0 b1 b2 b3 b4 b5;generalize (((w4.setCell ⟨w.heap.size,0,none⟩ (.string s4)).setCell ⟨w.heap.size,1,none⟩ (.int .i64 0)).setCell ⟨w.heap.size+1+1+1,2,none⟩ (.bool false))=W4 at *;have a0:W4.cell? ⟨w.heap.size,0,none⟩=some (.string s4):=K4.out.r.c 0 rfl;have a1:W4.cell? ⟨w.heap.size,1,none⟩=some (.int .i64 0):=K4.out.r.c 1 rfl;have a2:=K4.out.r.frozen 0;have a3:=K4.out.r.frozen 1;have b0:W4.cell? ⟨w.heap.size+1+1+1,0,none⟩=some (.int .i64 n1):=K4.out.x.c 0 rfl;have b1:W4.cell? ⟨w.heap.size+1+1+1,1,none⟩=some (.int .i64 n2):=K4.out.x.c 1 rfl;have b2:W4.cell? ⟨w.heap.size+1+1+1,2,none⟩=some (.bool false):=K4.out.x.c 2 rfl;have b3:=K4.out.x.frozen 0;have b4:=K4.out.x.frozen 1;have b5:=K4.out.x.frozen 2;have d0:W4.cell? ⟨w.heap.size+1,0,none⟩=some (.string ⟨#[]⟩):=K4.out.rr.c 0 rfl;have d1:W4.cell? ⟨w.heap.size+1,1,none⟩=some (.int .i64 0):=K4.out.rr.c 1 rfl;have d2:=K4.out.rr.frozen 0;have d3:=K4.out.rr.frozen 1;have g0:W4.cell? ⟨w.heap.size+1+1,0,none⟩=some (.int .i64 0):=K4.out.rx.c 0 rfl;have g1:W4.cell? ⟨w.heap.size+1+1,1,none⟩=some (.int .i64 0):=K4.out.rx.c 1 rfl;have g2:W4.cell? ⟨w.heap.size+1+1,2,none⟩=some (.bool false):=K4.out.rx.c 2 rfl;have g3:W4.cell? ⟨w.heap.size+1+1,3,none⟩=some (.slice none 0 0):=K4.out.rx.c 3 rfl;have g4:W4.cell? ⟨w.heap.size+1+1,4,none⟩=some (.slice none 0 0):=K4.out.rx.c 4 rfl;have f0:=K4.out.rx.frozen 0;have f1:=K4.out.rx.frozen 1;have f2:=K4.out.rx.frozen 2;have f3:=K4.out.rx.frozen 3;have f4:=K4.out.rx.frozen 4;have b6:W4.cell? ⟨w.heap.size+1+1+1,3,none⟩=some (.slice none 0 0):=K4.out.x.c 3 rfl;have b7:W4.cell? ⟨w.heap.size+1+1+1,4,none⟩=some (.slice none 0 0):=K4.out.x.c 4 rfl
    go_region
    go_wp2;have D:=Ge K4.out s4 0 (.int .i64 n1) (.int .i64 n2) (.bool false) (.slice none 0 0) (.slice none 0 0);have D1:=D.1;have D2:=D.2.1;refine bodyPost_ret (v:=.tuple #[.agg #[.string s4,.int .i64 0],.agg #[.int .i64 n1,.int .i64 n2,.bool false,.slice none 0 0,.slice none 0 0],.int .i64 0,.int .i64 6]) (by simp [results,Tryz.results163,go_sem,D1.c 0 rfl,D1.c 1 rfl,D2.c 0 rfl,D2.c 1 rfl,D2.c 2 rfl,D2.c 3 rfl,D2.c 4 rfl]) rfl ?_;exact⟨D.2.2,.inr (.inl ⟨rfl,.inl h3,s4,0,n1,n2,false,rfl⟩)⟩
   ·have i3:¬(1:Int)<(n3:Int):=by omega
    by_cases h4:2<n4
    ·have i4:(2:Int)<(n4:Int):=by omega
     clear h1 h3;go_wp2;have K4:=qH (((H4.out.setR s4 0)).setX 2 (.bool false) n1 n2 false rfl);clear a0 a1 a2 a3 b0 b1 b2 b3 b4 b5;generalize (((w4.setCell ⟨w.heap.size,0,none⟩ (.string s4)).setCell ⟨w.heap.size,1,none⟩ (.int .i64 0)).setCell ⟨w.heap.size+1+1+1,2,none⟩ (.bool false))=W4 at *;have a0:W4.cell? ⟨w.heap.size,0,none⟩=some (.string s4):=K4.out.r.c 0 rfl;have a1:W4.cell? ⟨w.heap.size,1,none⟩=some (.int .i64 0):=K4.out.r.c 1 rfl;have a2:=K4.out.r.frozen 0;have a3:=K4.out.r.frozen 1;have b0:W4.cell? ⟨w.heap.size+1+1+1,0,none⟩=some (.int .i64 n1):=K4.out.x.c 0 rfl;have b1:W4.cell? ⟨w.heap.size+1+1+1,1,none⟩=some (.int .i64 n2):=K4.out.x.c 1 rfl;have b2:W4.cell? ⟨w.heap.size+1+1+1,2,none⟩=some (.bool false):=K4.out.x.c 2 rfl;have b3:=K4.out.x.frozen 0;have b4:=K4.out.x.frozen 1;have b5:=K4.out.x.frozen 2;have d0:W4.cell? ⟨w.heap.size+1,0,none⟩=some (.string ⟨#[]⟩):=K4.out.rr.c 0 rfl;have d1:W4.cell? ⟨w.heap.size+1,1,none⟩=some (.int .i64 0):=K4.out.rr.c 1 rfl;have d2:=K4.out.rr.frozen 0;have d3:=K4.out.rr.frozen 1;have g0:W4.cell? ⟨w.heap.size+1+1,0,none⟩=some (.int .i64 0):=K4.out.rx.c 0 rfl;have g1:W4.cell? ⟨w.heap.size+1+1,1,none⟩=some (.int .i64 0):=K4.out.rx.c 1 rfl;have g2:W4.cell? ⟨w.heap.size+1+1,2,none⟩=some (.bool false):=K4.out.rx.c 2 rfl;have g3:W4.cell? ⟨w.heap.size+1+1,3,none⟩=some (.slice none 0 0):=K4.out.rx.c 3 rfl;have g4:W4.cell? ⟨w.heap.size+1+1,4,none⟩=some (.slice none 0 0):=K4.out.rx.c 4 rfl;have f0:=K4.out.rx.frozen 0;have f1:=K4.out.rx.frozen 1;have f2:=K4.out.rx.frozen 2;have f3:=K4.out.rx.frozen 3;have f4:=K4.out.rx.frozen 4;have b6:W4.cell? ⟨w.heap.size+1+1+1,3,none⟩=some (.slice none 0 0):=K4.out.x.c 3 rfl;have b7:W4.cell? ⟨w.heap.size+1+1+1,4,none⟩=some (.slice none 0 0):=K4.out.x.c 4 rfl
     go_region
     go_wp2;have D:=Ge K4.out s4 0 (.int .i64 n1) (.int .i64 n2) (.bool false) (.slice none 0 0) (.slice none 0 0);have D1:=D.1;have D2:=D.2.1;refine bodyPost_ret (v:=.tuple #[.agg #[.string s4,.int .i64 0],.agg #[.int .i64 n1,.int .i64 n2,.bool false,.slice none 0 0,.slice none 0 0],.int .i64 0,.int .i64 6]) (by simp [results,Tryz.results163,go_sem,D1.c 0 rfl,D1.c 1 rfl,D2.c 0 rfl,D2.c 1 rfl,D2.c 2 rfl,D2.c 3 rfl,D2.c 4 rfl]) rfl ?_;exact⟨D.2.2,.inr (.inl ⟨rfl,.inr (.inl h4),s4,0,n1,n2,false,rfl⟩)⟩
    ·have i4:¬(2:Int)<(n4:Int):=by omega
     have HH:=qH (show ¬(1<n3∨2<n4∨(n3=1∧0<n4)) by omega);clear h1 h3 h4;go_wp2;have K4:=qH (((H4.out.setR s4 0)).setX 2 (.bool false) n1 n2 false rfl);clear a0 a1 a2 a3 b0 b1 b2 b3 b4 b5;generalize (((w4.setCell ⟨w.heap.size,0,none⟩ (.string s4)).setCell ⟨w.heap.size,1,none⟩ (.int .i64 0)).setCell ⟨w.heap.size+1+1+1,2,none⟩ (.bool false))=W4 at *;have a0:W4.cell? ⟨w.heap.size,0,none⟩=some (.string s4):=K4.out.r.c 0 rfl;have a1:W4.cell? ⟨w.heap.size,1,none⟩=some (.int .i64 0):=K4.out.r.c 1 rfl;have a2:=K4.out.r.frozen 0;have a3:=K4.out.r.frozen 1;have b0:W4.cell? ⟨w.heap.size+1+1+1,0,none⟩=some (.int .i64 n1):=K4.out.x.c 0 rfl;have b1:W4.cell? ⟨w.heap.size+1+1+1,1,none⟩=some (.int .i64 n2):=K4.out.x.c 1 rfl;have b2:W4.cell? ⟨w.heap.size+1+1+1,2,none⟩=some (.bool false):=K4.out.x.c 2 rfl;have b3:=K4.out.x.frozen 0;have b4:=K4.out.x.frozen 1;have b5:=K4.out.x.frozen 2;have d0:W4.cell? ⟨w.heap.size+1,0,none⟩=some (.string ⟨#[]⟩):=K4.out.rr.c 0 rfl;have d1:W4.cell? ⟨w.heap.size+1,1,none⟩=some (.int .i64 0):=K4.out.rr.c 1 rfl;have d2:=K4.out.rr.frozen 0;have d3:=K4.out.rr.frozen 1;have g0:W4.cell? ⟨w.heap.size+1+1,0,none⟩=some (.int .i64 0):=K4.out.rx.c 0 rfl;have g1:W4.cell? ⟨w.heap.size+1+1,1,none⟩=some (.int .i64 0):=K4.out.rx.c 1 rfl;have g2:W4.cell? ⟨w.heap.size+1+1,2,none⟩=some (.bool false):=K4.out.rx.c 2 rfl;have g3:W4.cell? ⟨w.heap.size+1+1,3,none⟩=some (.slice none 0 0):=K4.out.rx.c 3 rfl;have g4:W4.cell? ⟨w.heap.size+1+1,4,none⟩=some (.slice none 0 0):=K4.out.rx.c 4 rfl;have f0:=K4.out.rx.frozen 0;have f1:=K4.out.rx.frozen 1;have f2:=K4.out.rx.frozen 2;have f3:=K4.out.rx.frozen 3;have f4:=K4.out.rx.frozen 4;have b6:W4.cell? ⟨w.heap.size+1+1+1,3,none⟩=some (.slice none 0 0):=K4.out.x.c 3 rfl;have b7:W4.cell? ⟨w.heap.size+1+1+1,4,none⟩=some (.slice none 0 0):=K4.out.x.c 4 rfl
     go_region
     go_wp2;have D:=Ge K4.out s4 0 (.int .i64 n1) (.int .i64 n2) (.bool false) (.slice none 0 0) (.slice none 0 0);have D1:=D.1;have D2:=D.2.1;refine bodyPost_ret (v:=.tuple #[.agg #[.string s4,.int .i64 0],.agg #[.int .i64 n1,.int .i64 n2,.bool false,.slice none 0 0,.slice none 0 0],.int .i64 n4,.int .i64 0]) (by simp [results,Tryz.results163,go_sem,D1.c 0 rfl,D1.c 1 rfl,D2.c 0 rfl,D2.c 1 rfl,D2.c 2 rfl,D2.c 3 rfl,D2.c 4 rfl]) rfl ?_;exact⟨D.2.2,.inr (.inr ⟨rfl,HH.out,by rw [hd1];rfl⟩)⟩
 ·have hen:(e4 != 0)=true:=by rw [bne_iff_ne];exact he
  have HE:=qH he;clear he;go_wp2;have K4:=qH ((H4.out.setR s4 e4));clear a0 a1 a2 a3 b0 b1 b2 b3 b4 b5;generalize ((w4.setCell ⟨w.heap.size,0,none⟩ (.string s4)).setCell ⟨w.heap.size,1,none⟩ (.int .i64 e4))=W4 at *;have a0:W4.cell? ⟨w.heap.size,0,none⟩=some (.string s4):=K4.out.r.c 0 rfl;have a1:W4.cell? ⟨w.heap.size,1,none⟩=some (.int .i64 e4):=K4.out.r.c 1 rfl;have a2:=K4.out.r.frozen 0;have a3:=K4.out.r.frozen 1;have b0:W4.cell? ⟨w.heap.size+1+1+1,0,none⟩=some (.int .i64 n1):=K4.out.x.c 0 rfl;have b1:W4.cell? ⟨w.heap.size+1+1+1,1,none⟩=some (.int .i64 n2):=K4.out.x.c 1 rfl;have b2:W4.cell? ⟨w.heap.size+1+1+1,2,none⟩=some (.bool false):=K4.out.x.c 2 rfl;have b3:=K4.out.x.frozen 0;have b4:=K4.out.x.frozen 1;have b5:=K4.out.x.frozen 2;have d0:W4.cell? ⟨w.heap.size+1,0,none⟩=some (.string ⟨#[]⟩):=K4.out.rr.c 0 rfl;have d1:W4.cell? ⟨w.heap.size+1,1,none⟩=some (.int .i64 0):=K4.out.rr.c 1 rfl;have d2:=K4.out.rr.frozen 0;have d3:=K4.out.rr.frozen 1;have g0:W4.cell? ⟨w.heap.size+1+1,0,none⟩=some (.int .i64 0):=K4.out.rx.c 0 rfl;have g1:W4.cell? ⟨w.heap.size+1+1,1,none⟩=some (.int .i64 0):=K4.out.rx.c 1 rfl;have g2:W4.cell? ⟨w.heap.size+1+1,2,none⟩=some (.bool false):=K4.out.rx.c 2 rfl;have g3:W4.cell? ⟨w.heap.size+1+1,3,none⟩=some (.slice none 0 0):=K4.out.rx.c 3 rfl;have g4:W4.cell? ⟨w.heap.size+1+1,4,none⟩=some (.slice none 0 0):=K4.out.rx.c 4 rfl;have f0:=K4.out.rx.frozen 0;have f1:=K4.out.rx.frozen 1;have f2:=K4.out.rx.frozen 2;have f3:=K4.out.rx.frozen 3;have f4:=K4.out.rx.frozen 4;have b6:W4.cell? ⟨w.heap.size+1+1+1,3,none⟩=some (.slice none 0 0):=K4.out.x.c 3 rfl;have b7:W4.cell? ⟨w.heap.size+1+1+1,4,none⟩=some (.slice none 0 0):=K4.out.x.c 4 rfl
  go_region
  go_wp2;have D:=Ge K4.out s4 e4 (.int .i64 n1) (.int .i64 n2) (.bool false) (.slice none 0 0) (.slice none 0 0);have D1:=D.1;have D2:=D.2.1;refine bodyPost_ret (v:=.tuple #[.agg #[.string s4,.int .i64 e4],.agg #[.int .i64 n1,.int .i64 n2,.bool false,.slice none 0 0,.slice none 0 0],.int .i64 0,.int .i64 e4]) (by simp [results,Tryz.results163,go_sem,D1.c 0 rfl,D1.c 1 rfl,D2.c 0 rfl,D2.c 1 rfl,D2.c 2 rfl,D2.c 3 rfl,D2.c 4 rfl]) rfl ?_;exact⟨D.2.2,.inl ⟨HE.out,s4,e4,n1,n2,false,rfl⟩⟩
def Lk (a b:ByteArray×Int):Prop:=a.2=b.2∧(a.2=0→a.1=b.1)
theorem Lk.refl (a:ByteArray×Int):Lk a a:=⟨rfl,fun _=>rfl⟩
theorem Lk.trans {a b c:ByteArray×Int} (h:Lk a b) (k:Lk b c):Lk a c:=⟨h.1.trans k.1,fun e=>(h.2 e).trans (k.2 (h.1▸e))⟩
theorem Nw {a b:ByteArray×Int} (h:Lk a b):Lk (Aj a.1 a.2).1 (Aj b.1 b.2).1∧(Aj a.1 a.2).2=(Aj b.1 b.2).2:=by
 obtain⟨a1,a2⟩:=a;obtain⟨b1,b2⟩:=b;obtain⟨h1,h2⟩:=h;simp only at h1 h2;subst h1;by_cases he:a2=0
 ·rw [h2 he]
  exact⟨Lk.refl _,rfl⟩
 ·simp only [FK _ he]
  exact⟨⟨rfl,fun e=>absurd e he⟩,trivial⟩
theorem eG {a b:ByteArray×Int} (h:Lk a b):Lk (Ao a.1 a.2).1 (Ao b.1 b.2).1∧(Ao a.1 a.2).2=(Ao b.1 b.2).2:=by
 obtain⟨a1,a2⟩:=a;obtain⟨b1,b2⟩:=b;obtain⟨h1,h2⟩:=h;simp only at h1 h2;subst h1;by_cases he:a2=0
 ·rw [h2 he]
  exact⟨Lk.refl _,rfl⟩
 ·simp only [Do _ he]
  exact⟨⟨rfl,fun e=>absurd e he⟩,trivial⟩
theorem ZV {a b:ByteArray×Int} (h:Lk a b):Lk (Bk a.1 a.2).1 (Bk b.1 b.2).1∧(Bk a.1 a.2).2=(Bk b.1 b.2).2:=by
 obtain⟨a1,a2⟩:=a;obtain⟨b1,b2⟩:=b;obtain⟨h1,h2⟩:=h;simp only at h1 h2;subst h1;by_cases he:a2=0
 ·rw [h2 he]
  exact⟨Lk.refl _,rfl⟩
 ·simp only [QH _ he]
  exact⟨⟨rfl,fun e=>absurd e he⟩,trivial⟩
theorem Nx {a b:ByteArray×Int} (h:Lk a b):AG a.1 a.2=AG b.1 b.2:=by
 obtain⟨a1,a2⟩:=a;obtain⟨b1,b2⟩:=b;obtain⟨h1,h2⟩:=h;simp only at h1 h2;subst h1;by_cases he:a2=0
 ·rw [h2 he]
 ·simp only [AG,he,ne_eq,not_false_eq_true,if_true]
theorem PH:∀(k:Nat) (a b:ByteArray×Int) (acc:List KV),Lk a b→Lk (AN k a acc).1 (AN k b acc).1∧(AN k a acc).2=(AN k b acc).2
 | 0,_,_,_,h=>⟨h,rfl⟩
 | k+1,a,b,acc,h=>by
   have h1:=Nw h;have h2:=Nw h1.1;simp only [AN];rw [h1.2,h2.2];exact PH k _ _ _ h2.1
theorem Ny:∀(k:Nat) (a b:ByteArray×Int) (acc:List (List (List UInt8))),Lk a b→Lk (AJ k a acc).1 (AJ k b acc).1∧(AJ k a acc).2=(AJ k b acc).2
 | 0,_,_,_,h=>⟨h,rfl⟩
 | k+1,a,b,acc,h=>by
   have h1:=ZV h;simp only [AJ];rw [h1.2];exact Ny k _ _ _ h1.1
theorem ZW {n1 n2 n3:Nat} {acc:List KV} {a b:ByteArray×Int} (h:Lk a b):Dm n1 n2 n3 acc a.1 a.2=Dm n1 n2 n3 acc b.1 b.2:=by
 have h1:=eG h;have h2:=Ny (Ao b.1 b.2).2 _ _ [] h1.1;have h3:=Nx h2.1;unfold Dm;rw [h1.2,h1.1.1];simp only;rw [h3,h2.2]
structure Cl (w:World) (br bx:Nat) (s:ByteArray) (e n1 n2:Int) (t:Bool) (nv pv:Value) (W:World):Prop where
 res:Blk W w.heap.size 112 #[.int .i64 0,.int .i64 0,.bool false,.slice none 0 0,.slice none 0 0]
 rd:Blk W br 93 #[.string s,.int .i64 e]
 x:Blk W bx 112 #[.int .i64 n1,.int .i64 n2,.bool t,nv,pv]
 s_:Aa w W
 l1:w.heap.size<br
 l2:br<bx
section
variable {w W W':World} {br bx:Nat} {s s':ByteArray} {e e' n1 n2:Int} {t:Bool} {nv pv:Value}
theorem Cl.next (h:Cl w br bx s e n1 n2 t nv pv W) (k:Below W.heap.size W W'):Cl w br bx s e n1 n2 t nv pv W':=⟨h.res.below k h.res.lt,h.rd.below k h.rd.lt,h.x.below k h.x.lt,Ad (Ae h.s_.below k),h.l1,h.l2⟩
theorem Cl.alloc (h:Cl w br bx s e n1 n2 t nv pv W) (o:Obj):Cl w br bx s e n1 n2 t nv pv (W.alloc o):=h.next ((Below.refl _ W).alloc (Nat.le_refl _) o)
theorem Cl.setR (h:Cl w br bx s e n1 n2 t nv pv W) (s':ByteArray) (e':Int):Cl w br bx s' e' n1 n2 t nv pv ((W.setCell ⟨br,0,none⟩ (.string s')).setCell ⟨br,1,none⟩ (.int .i64 e')):=by
 have h1:=h.l1;have h2:=h.l2;exact⟨(h.res.far (p:=⟨br,0,none⟩) (by simp only;omega) _).far (p:=⟨br,1,none⟩) (by simp only;omega) _,(h.rd.set_ 0 _).set_ 1 _,(h.x.far (p:=⟨br,0,none⟩) (by simp only;omega) _).far (p:=⟨br,1,none⟩) (by simp only;omega) _,Ak (Ak h.s_ (by simp only;omega) _) (by simp only;omega) _,h1,h2⟩
theorem Cl.far (h:Cl w br bx s e n1 n2 t nv pv W) {p:Addr} (hp:bx<p.block) (v:Value):Cl w br bx s e n1 n2 t nv pv (W.setCell p v):=by
 have h1:=h.l1;have h2:=h.l2;exact⟨h.res.far (by omega) _,h.rd.far (by omega) _,h.x.far (by omega) _,Ak h.s_ (by omega) _,h1,h2⟩
theorem Cl.put3 (h:Cl w br bx s e n1 n2 t nv pv W) (v:Value):Cl w br bx s e n1 n2 t v pv (W.setCell ⟨bx,3,none⟩ v):=by
 have h1:=h.l1;have h2:=h.l2;exact⟨h.res.far (p:=⟨bx,3,none⟩) (by simp only;omega) _,h.rd.far (p:=⟨bx,3,none⟩) (by simp only;omega) _,h.x.set_ 3 v,Ak h.s_ (by simp only;omega) _,h1,h2⟩
theorem Cl.put4 (h:Cl w br bx s e n1 n2 t nv pv W) (v:Value):Cl w br bx s e n1 n2 t nv v (W.setCell ⟨bx,4,none⟩ v):=by
 have h1:=h.l1;have h2:=h.l2;exact⟨h.res.far (p:=⟨bx,4,none⟩) (by simp only;omega) _,h.rd.far (p:=⟨bx,4,none⟩) (by simp only;omega) _,h.x.set_ 4 v,Ak h.s_ (by simp only;omega) _,h1,h2⟩
theorem Cl.grown (h:Cl w br bx s e n1 n2 t nv pv W) {row:Option Nat} (k:W.grownBy W' row) (hr:∀ g,row=some g→bx<g):Cl w br bx s e n1 n2 t nv pv W':=by
 have h1:=h.l1;have h2:=h.l2;exact⟨h.res.grown k (fun e=>by have:=hr _ e.symm;omega),h.rd.grown k (fun e=>by have:=hr _ e.symm;omega),h.x.grown k (fun e=>by have:=hr _ e.symm;omega),Ad (h.s_.below.grown k h.s_.2.2.2.1 (fun g hg=>by have:=hr g hg;omega)),h1,h2⟩
theorem Cl.lt (h:Cl w br bx s e n1 n2 t nv pv W):bx<W.heap.size:=h.x.lt
theorem Cl.r0 (h:Cl w br bx s e n1 n2 t nv pv W):W.cell? ⟨br,0,none⟩=some (.string s):=h.rd.c 0 rfl
theorem Cl.r1 (h:Cl w br bx s e n1 n2 t nv pv W):W.cell? ⟨br,1,none⟩=some (.int .i64 e):=h.rd.c 1 rfl
theorem Cl.rf (h:Cl w br bx s e n1 n2 t nv pv W) (i:Nat):W.frozen? ⟨br,i,none⟩=false:=h.rd.frozen i
theorem Cl.x3 (h:Cl w br bx s e n1 n2 t nv pv W):W.cell? ⟨bx,3,none⟩=some nv:=h.x.c 3 rfl
theorem Cl.x4 (h:Cl w br bx s e n1 n2 t nv pv W):W.cell? ⟨bx,4,none⟩=some pv:=h.x.c 4 rfl
theorem Cl.xf (h:Cl w br bx s e n1 n2 t nv pv W) (i:Nat):W.frozen? ⟨bx,i,none⟩=false:=h.x.frozen i
theorem Lq {w1:World} (hs:Aa w w1) (hr:Blk w1 w.heap.size 112 #[.int .i64 0,.int .i64 0,.bool false,.slice none 0 0,.slice none 0 0]):Cl w w1.heap.size (w1.heap.size+1) s e n1 n2 t nv pv ((w1.alloc (.cells #[.string s,.int .i64 e] 93)).alloc (.cells #[.int .i64 n1,.int .i64 n2,.bool t,nv,pv] 112)):=by
 have h1:=Blk.new w1 93 #[.string s,.int .i64 e];have b1:Below w1.heap.size w1 (w1.alloc (.cells #[.string s,.int .i64 e] 93)):=(Below.refl _ w1).alloc (Nat.le_refl _) _
 have e1:(w1.alloc (.cells #[.string s,.int .i64 e] 93)).heap.size=w1.heap.size+1:=by simp
 have hr1:=hr.alloc (.cells #[.string s,.int .i64 e] 93);have hlt:=hr.lt;generalize w1.alloc (.cells #[.string s,.int .i64 e] 93)=W1 at *;have h2:=Blk.new W1 112 #[.int .i64 n1,.int .i64 n2,.bool t,nv,pv];rw [e1] at h2;exact⟨hr1.alloc _,h1.alloc _,h2,Ad (Ae hs.below (b1.alloc b1.size _)),hlt,Nat.lt_succ_self _⟩
end
structure Mid (w:World) (br bx B g:Nat) (s:ByteArray) (e n1 n2:Int) (t:Bool) (nv:Value) (k:Nat) (acc:List KV) (x y:ByteArray) (W:World):Prop where
 core:Cl w br bx s e n1 n2 t nv (.slice none 0 0) W
 row:W.ownsRow B 36 2 nv k (AH acc)
 p:Blk W g 36 #[.string x,.string y]
 lt:bx<B
 bg:B≤g
 off:∀ j,nv.ownBlock=some j→j<g
section
variable {w W W':World} {br bx B g k:Nat} {s s':ByteArray} {e e' n1 n2:Int} {t:Bool} {nv:Value} {acc:List KV} {x y:ByteArray}
theorem Nz (h:Mid w br bx B g s e n1 n2 t nv k acc x y W) {b i:Nat} (hb:b<B∨b=g) (v:Value):(W.setCell ⟨b,i,none⟩ v).ownsRow B 36 2 nv k (AH acc):=by
 refine h.row.kept (row:=some b) ⟨rfl,rfl,rfl,by simp [World.setCell],fun k _ hk=>Below.heap_setCell _ _ _ _ (fun e=>hk (by simp [e]))⟩ (.inr fun e=>?_);have h1:=h.row.lt b e;have h2:=h.off b e
 omega
theorem Mid.next (h:Mid w br bx B g s e n1 n2 t nv k acc x y W) (b:Below W.heap.size W W'):Mid w br bx B g s e n1 n2 t nv k acc x y W':=⟨h.core.next b,GM h.row b,h.p.below b h.p.lt,h.lt,h.bg,h.off⟩
theorem Mid.alloc (h:Mid w br bx B g s e n1 n2 t nv k acc x y W) (o:Obj):Mid w br bx B g s e n1 n2 t nv k acc x y (W.alloc o):=h.next ((Below.refl _ W).alloc (Nat.le_refl _) o)
theorem Mid.setR (h:Mid w br bx B g s e n1 n2 t nv k acc x y W) (s':ByteArray) (e':Int):Mid w br bx B g s' e' n1 n2 t nv k acc x y ((W.setCell ⟨br,0,none⟩ (.string s')).setCell ⟨br,1,none⟩ (.int .i64 e')):=by
 have h1:=h.core.l2;have h2:=h.lt;have h3:=h.bg;have r1:=Nz h (b:=br) (i:=0) (.inl (by omega)) (.string s');refine⟨h.core.setR s' e',r1.kept (row:=some br) ⟨rfl,rfl,rfl,by simp [World.setCell],fun k _ hk=>Below.heap_setCell _ _ _ _ (fun e=>hk (by simp [e]))⟩ (.inr fun e=>by have:=(h.row.lt br e).1;omega),(h.p.far (p:=⟨br,0,none⟩) (by simp only;omega) _).far (p:=⟨br,1,none⟩) (by simp only;omega) _,h2,h3,h.off⟩
theorem Mid.setX (h:Mid w br bx B g s e n1 n2 t nv k acc x y W) (z:ByteArray):Mid w br bx B g s e n1 n2 t nv k acc z y (W.setCell ⟨g,0,none⟩ (.string z)) :=
 ⟨h.core.far (p:=⟨g,0,none⟩) (by have:=h.lt;have:=h.bg;simp only;omega) _,Nz h (.inr rfl) _,h.p.set_ 0 _,h.lt,h.bg,h.off⟩
theorem Mid.setY (h:Mid w br bx B g s e n1 n2 t nv k acc x y W) (z:ByteArray):Mid w br bx B g s e n1 n2 t nv k acc x z (W.setCell ⟨g,1,none⟩ (.string z)) :=
 ⟨h.core.far (p:=⟨g,1,none⟩) (by have:=h.lt;have:=h.bg;simp only;omega) _,Nz h (.inr rfl) _,h.p.set_ 1 _,h.lt,h.bg,h.off⟩
theorem Mid.p0 (h:Mid w br bx B g s e n1 n2 t nv k acc x y W):W.cell? ⟨g,0,none⟩=some (.string x):=h.p.c 0 rfl
theorem Mid.p1 (h:Mid w br bx B g s e n1 n2 t nv k acc x y W):W.cell? ⟨g,1,none⟩=some (.string y):=h.p.c 1 rfl
theorem Mid.pf (h:Mid w br bx B g s e n1 n2 t nv k acc x y W) (i:Nat):W.frozen? ⟨g,i,none⟩=false:=h.p.frozen i
end
theorem MK {w:World} {B k n:Nat} {e:TypeId} {v:Value} {xs:List Value} (h:w.ownsRow B e k v (n+1) xs):∃ g cap,v=.slice (some ⟨g,0,none⟩) (n+1) cap:=by
 rcases h.2 with⟨_,h0⟩|⟨g,cap,cur,rfl,_⟩
 ·cases h0
 ·exact⟨g,cap,rfl⟩
theorem Fc {ops:Array Oper} {rest:List Oper} {o:Oper} {a:Act} {Q:Exit→Act→World→Prop} (hgd:o.guard=none) (s x:Operand)
  (ho:o.op=.call { callee:=.builtin .append,args:=#[s,x],argTypes:=#[110,110] }) (B k:Nat) (v u:Value) (us:List Value) (hs:a.eval s=v) (Y:World) (b:Nat) (hzb:Y.heap.size=b) (hx:a.eval x=.slice (some ⟨b,0,none⟩) 1 1)
  (hown:Y.ownsRow B 74 1 v k us) (hB:B≤Y.heap.size) (hu:u.oneCell'=true) (hk:k≤1000000)
  (h:∀ gg cap w',w'.ownsRow B 74 1 (.slice (some ⟨gg,0,none⟩) (k+1) cap) (k+1) (us++[u])→(Y.alloc (.cells #[u] 74)).grownBy w' v.ownBlock→(v.ownBlock=some gg∨gg=Y.heap.size+1)→wpList qP ops Q rest (a.put o.dst (.slice (some ⟨gg,0,none⟩) (k+1) cap)) w'):wpList qP ops Q (o::rest) a (Y.alloc (.cells #[u] 74)):=by
 subst hzb;obtain⟨i0,hi,hz0,hz1,hz2⟩:=info_parts Rr;refine wpList_plain hgd fun K hK=>?_
 obtain⟨v',w',hr,h2,h3,_,h5⟩:=run_append_own_at (P:=qP) (Y.alloc (.cells #[u] 74)) B 110 o.type 74 i0 (.slice none 0 0) 1 24 Tryz.underlying110 hi hz0 hz1 hz2 rfl (by decide) v k us (GM hown ((Below.refl _ Y).alloc (Nat.le_refl _) _)) ⟨Y.heap.size,0,none⟩ 1 1 [u] rfl (fun j z hj=>by
  match j,hj with
  | 0,hj=>simp at hj;subst hj;simp [Addr.add]
  | (j+1),hj=>simp at hj) (fun z hz=>by rw [List.mem_singleton] at hz;rw [hz];exact hu) (by unfold maxLen;omega) (by omega) (by simp;omega)
 simp [Oper.wp,Oper.upon,execOp,ho,resolve,invoke,builtin,hs,hx,hr,Result.andThen];obtain⟨gg,cap,rfl⟩:=MK h2;refine hK _ _ (h gg cap w' h2 h3 ?_)
 rcases h5 with h5|h5
 ·exact .inl h5.symm
 ·right
  have e:gg=(Y.alloc (.cells #[u] 74)).heap.size:=by simpa [Value.ownBlock] using h5
  rw [e];simp
theorem Lk.symm {a b:ByteArray×Int} (h:Lk a b):Lk b a:=⟨h.1.symm,fun e=>(h.2 (h.1.trans e)).symm⟩
theorem TH {w5:World} {br:Nat} {s5:ByteArray} {e5:Int} {u:Value} {la:List ByteArray} (hT:Txs w5 w5.heap.size u la) (hu:∀ g,u.ownBlock=some g→br<g∧g<w5.heap.size) :
  Txs (((w5.alloc (.cells #[.string s5,.int .i64 e5] 93)).setCell ⟨br,0,none⟩ (.string s5)).setCell ⟨br,1,none⟩ (.int .i64 e5)) (((w5.alloc (.cells #[.string s5,.int .i64 e5] 93)).setCell ⟨br,0,none⟩ (.string s5)).setCell ⟨br,1,none⟩ (.int .i64 e5)).heap.size u la:=by
 refine(hT.moved fun g hg=>?_).more (by simp [World.setCell]);have h1:=hu g hg;exact(Below.heap_setCell _ ⟨br,1,none⟩ _ g (by simp only;omega)).trans ((Below.heap_setCell _ ⟨br,0,none⟩ _ g (by simp only;omega)).trans (((Below.refl w5.heap.size w5).alloc (Nat.le_refl _) (.cells #[.string s5,.int .i64 e5] 93)).block g h1.2))
theorem JY (l out:List UInt8) (HO:Hid (Ax l=out)) (w:World) (hl:l.length≤1000000) :
  Calls qP 76 #[.string (bs l)] w fun e w'=>e=.returned (.string (bs out))∧Below w.heap.size w w':=by
 have h:=ZI (bs l) w (by rw [Aw];omega);rw [Bs,HO.out] at h;exact h
theorem RC (k:ByteArray) (x1:List UInt8) (x2:Int) (h1:Ai k=(x1,x2)) (W:World) :
  Calls qP 93 #[.string k] W fun e w'=>e=.returned (.tuple #[.string (bs x1),.int .i64 x2])∧Below W.heap.size W w':=by
 have:=Tg k W;rw [h1] at this;exact this
theorem cN (n:Int) (x1:List UInt8) (x2:Int) (h1:Ag n=(x1,x2)) (W:World) :
  Calls qP 123 #[.int .i64 n] W fun e w'=>e=.returned (.tuple #[.string (bs x1),.int .i64 x2])∧Below W.heap.size W w':=by
 have:=Wz n W;rw [h1] at this;exact this
theorem RE (k v:ByteArray) (x1 y1:List UInt8) (x2 y2:Int) (h1:Ai k=(x1,x2)) (h2:Ai v=(y1,y2)) (w:World) :
  Calls qP 120 #[.agg #[.string k,.string v]] w fun e w'=>e=.returned (.string (bs (0::(x1++y1))))∧Below w.heap.size w w':=by
 have lx:x1.length≤65544:=by have:=AF k;rw [h1] at this;exact this
 have ly:y1.length≤65544:=by have:=AF v;rw [h2] at this;exact this
 have K1:=qH (RC k x1 x2 h1);have K2:=qH (RC v y1 y2 h2);have a1:∀ W,(Op.stringOp .add ⟨#[0]⟩ (bs x1)).run qP W=.ok (.string (bs (0::x1))) W:=fun W=>AB W [0] x1 (by simp;omega);have a2:∀ W,(Op.stringOp .add (bs (0::x1)) (bs y1)).run qP W=.ok (.string (bs (0::(x1++y1)))) W:=fun W=>AB W (0::x1) y1 (by simp;omega);have HB:=qH (Blk.new w 36 #[.string k,.string v]);have HW:=qH ((Below.refl w.heap.size w).alloc (Nat.le_refl _) (.cells #[.string k,.string v] 36));clear lx ly h1 h2;go_enter Tryz.func120,Tryz.ntmps120
 go_wp2_with fail
 refine(K1.out _).mono ?_;rintro e w1 ⟨rfl,b1⟩;have c1:w1.cell? ⟨w.heap.size,1,none⟩=some (.string v):=(HB.out.next b1).cell 1;have B1:=qH (HW.out.trans (b1.mono (by simp)));clear b1 HB HW K1
 go_wp2_with fail
 refine(K2.out _).mono ?_;rintro e w2 ⟨rfl,b2⟩;have B2:=qH (Ae B1.out b2);clear b2 B1 K2 c1;go_wp2
 go_ret
 exact⟨rfl,B2.out⟩
theorem Xs (p:KV) (w:World) :
  Calls qP 120 #[.agg #[.string p.1,.string p.2]] w fun e w'=>e=.returned (.string (bs (BR p)))∧Below w.heap.size w w' :=
 RE p.1 p.2 _ _ _ _ rfl rfl w
theorem RF (a b:List UInt8) (w:World) (ha:a.length≤70000) (hb:b.length≤70000) :
  Calls qP 122 #[.string (bs a),.string (bs b)] w fun e w'=>e=.returned (.string (bs (AK a b)))∧Below w.heap.size w w':=by
 have a1:∀ W,(Op.stringOp .add ⟨#[1]⟩ (bs a)).run qP W=.ok (.string (bs (1::a))) W:=fun W=>AB W [1] a (by simp;omega);have a2:∀ W,(Op.stringOp .add (bs (1::a)) (bs b)).run qP W=.ok (.string (bs (1::(a++b)))) W:=fun W=>AB W (1::a) b (by simp;omega);clear ha hb;go_enter Tryz.func122,Tryz.ntmps122;go_wp2
 go_ret
 exact⟨rfl,Below.refl _ _⟩
theorem UZ (n:Int) (t:List UInt8) (x1:List UInt8) (x2:Int) (h1:Ag n=(x1,x2)) (w:World) (ht:t.length≤70000) :
  Calls qP 75 #[.int .i64 n,.string (bs t)] w fun e w'=>e=.returned (.string (bs (2::(x1++t))))∧Below w.heap.size w w':=by
 have lx:x1.length≤8:=by have:=Au n;rw [h1] at this;exact this
 have K1:=qH (cN n x1 x2 h1);have a1:∀ W,(Op.stringOp .add ⟨#[2]⟩ (bs x1)).run qP W=.ok (.string (bs (2::x1))) W:=fun W=>AB W [2] x1 (by simp;omega);have a2:∀ W,(Op.stringOp .add (bs (2::x1)) (bs t)).run qP W=.ok (.string (bs (2::(x1++t)))) W:=fun W=>AB W (2::x1) t (by simp;omega);clear lx ht h1;go_enter Tryz.func75,Tryz.ntmps75
 go_wp2_with fail
 refine(K1.out _).mono ?_;rintro e w1 ⟨rfl,b1⟩;go_wp2
 go_ret
 exact⟨rfl,b1⟩
theorem Xt (n:Int) (t:List UInt8) (w:World) (ht:t.length≤70000) :
  Calls qP 75 #[.int .i64 n,.string (bs t)] w fun e w'=>e=.returned (.string (bs (Bt n t)))∧Below w.heap.size w w' :=
 UZ n t _ _ rfl w ht
theorem NA {W0 w:World} (h:Below W0.heap.size W0 w) (c:ByteArray):Aq W0.heap.size (.slice (some ⟨w.heap.size,0,none⟩) 1 1) [c] W0 (w.alloc (.cells #[.string c] 9)) :=
 ⟨⟨rfl,.inr ⟨w.heap.size,1,#[.string c],rfl,h.size,heap_alloc_new w _,Nat.le_refl _,by unfold maxLen;omega,rfl,rfl⟩⟩,h.alloc h.size _,by simp;exact Nat.le_succ_of_le h.size⟩
theorem Aq.lt {B:Nat} {v:Value} {ss:List ByteArray} {W0 w:World} (h:Aq B v ss W0 w):∀ g,v.ownBlock=some g→B≤g∧g<w.heap.size:=fun g hg=>h.1.lt g hg
theorem eH (v:Value) (w:World) (hP:Prs w v []) :
  Calls qP 74 #[v] w fun e w'=>∃ u,e=.returned (.tuple #[.string (bs []),u])∧Aq w.heap.size u (bss []) w w':=by
 obtain⟨A,cap,rfl,_,_⟩:=hP;have h:=Eb w;go_enter Tryz.func74,Tryz.ntmps74;go_wp2
 go_ret2
 exact⟨_,rfl,h⟩
theorem eI (v:Value) (p:KV) (w:World) (hP:Prs w v [p]) :
  Calls qP 74 #[v] w fun e w'=>∃ u,e=.returned (.tuple #[.string (bs (Ax (BR p))),u])∧Aq w.heap.size u (bss [BR p]) w w':=by
 obtain⟨A,cap,rfl,_,hc⟩:=hP;obtain⟨b,off,rfl,c0,c1⟩:=hc 0 (by simp);have H:=qH (Xs p w);have L:=qH (show(BR p).length≤1000000 by have:=If p;omega);generalize BR p=t at *;obtain⟨out,ho⟩:∃ out,Ax t=out:=⟨_,rfl⟩;rw [ho];have HO:=qH ho;simp only [qC,Nat.zero_mul,Nat.add_zero] at c0 c1;simp only [List.length_singleton];clear hc ho;go_enter Tryz.func74,Tryz.ntmps74
 go_wp2_with fail
 refine H.out.mono ?_;rintro e w1 ⟨rfl,b1⟩
 go_wp2_with fail
 refine(JY t out HO w1 L.out).mono ?_;rintro e w2 ⟨rfl,b2⟩;have R:=qH (NA (Ae b1 b2) (bs t));clear b1 b2;go_wp2
 go_ret2
 exact⟨_,rfl,R.out⟩
theorem eJ (A:Option Addr) (n cap s:Nat) (w:World) (A':Option Addr) (n' c':Nat) (x y t out:List UInt8) (X Y:List ByteArray) (hn:2≤n) (hn2:n≤1000000) (hs:spl n=s)
  (hs1:∀ W,(Instr.slice 22 (.slice A n cap) (some (.int .i64 s)) none none).run qP W=.ok (.slice A' n' c') W)
  (hs2:∀ W,(Instr.slice 22 (.slice A n cap) none (some (.int .i64 s)) none).run qP W=.ok (.slice A s cap) W)
  (H1:Hid (∀ W,Aa w W→Calls qP 74 #[.slice A s cap] W fun e w'=>∃ u,e=.returned (.tuple #[.string (bs x),u])∧Aq W.heap.size u X W w'))
  (H2:Hid (∀ W,Aa w W→Calls qP 74 #[.slice A' n' c'] W fun e w'=>∃ u,e=.returned (.tuple #[.string (bs y),u])∧Aq W.heap.size u Y W w'))
  (H3:Hid (∀ W,Calls qP 122 #[.string (bs x),.string (bs y)] W fun e w'=>e=.returned (.string (bs t))∧Below W.heap.size W w'))
  (H4:Hid (∀ W,Calls qP 76 #[.string (bs t)] W fun e w'=>e=.returned (.string (bs out))∧Below W.heap.size W w'))
  (hX:X.length+Y.length≤100000000) :
  Calls qP 74 #[.slice A n cap] w fun e w'=>∃ u,e=.returned (.tuple #[.string (bs out),u])∧Aq w.heap.size u (X++Y++[bs t]) w w':=by
 have K0:=IU n w (by omega);rw [Int.toNat_natCast,hs] at K0;have K:=qH K0;have HX:=qH hX;clear K0 hs hX
 have n0:((n:Int)==0)=false:=by simp;omega
 have n1:((n:Int)==1)=false:=by simp;omega
 clear hn hn2;go_enter Tryz.func74,Tryz.ntmps74
 go_wp2_with fail
 refine K.out.mono ?_;rintro e w1 ⟨rfl,b1⟩;clear K
 go_wp2_with fail
 refine(H1.out w1 (Ad b1)).mono ?_;rintro e w2 ⟨u2,rfl,o2⟩;have B2:=qH (Ae b1 o2.below);have O2:=qH o2;clear b1 o2 H1
 go_wp2_with fail
 refine(H2.out w2 (Ad B2.out)).mono ?_;rintro e w3 ⟨u3,rfl,o3⟩;have B3:=qH (Ae B2.out o3.below);have P2:=qH (O2.out.after o3.below);have O3:=qH o3;clear o3 B2 O2 H2
 go_wp2_with fail
 refine(H3.out w3).mono ?_;rintro e w4 ⟨rfl,b4⟩;have B4:=qH (Ae B3.out b4);have P3:=qH (P2.out.after b4);have O4:=qH (O3.out.after b4);clear b4 B3 P2 O3 H3
 go_wp2_with (at_builtin;first
  | (refine BQ _ rfl _ _ rfl w.heap.size _ _ u2 [] X rfl rfl w (Aq.start B4.out) P3.out.txs (by have:=HX.out;simp;omega) ?_;intro v5 w5 o5 g5;have Q5:=qH (Xu O4.out.txs g5 (fun g hg=>⟨(O4.out.lt g hg).2,by intro e;cases e⟩));have O5:=qH o5;clear o5 g5 O4 P3 B4)
  | (refine BQ _ rfl _ _ rfl w.heap.size _ v5 u3 _ Y rfl rfl w O5.out Q5.out (by have:=HX.out;simp;omega) ?_;intro v6 w6 o6 g6;have O6:=qH o6;clear o6 g6 O5 Q5)
  | (refine Bi rfl _ _ rfl w.heap.size v6 _ rfl w w6 (bs t) O6.out rfl (by have:=HX.out;simp;omega) ?_;intro v7 w7 o7;have O7:=qH o7;clear o7 O6))
 refine(H4.out w7).mono ?_;rintro e w8 ⟨rfl,b8⟩;have R:=qH (O7.out.after b8);clear b8 O7;go_wp2
 go_ret2
 exact⟨_,rfl,by simpa using R.out⟩
theorem RG:∀(n:Nat) (l:List KV) (v:Value) (w:World),l.length=n→Prs w v l→n≤1000000 →
  Calls qP 74 #[v] w fun e w'=>∃ u,e=.returned (.tuple #[.string (bs (Da l)),u])∧Aq w.heap.size u (bss (GB l)) w w':=by
 intro n
 induction n using Nat.strongRecOn with
 | _ n ih =>
   intro l v w hl hP hn;by_cases h2:2≤n
   ·obtain⟨s1,s2,s3⟩:=Dj h2 (by omega)
    have ht:=KO l (by omega) (by omega);have hx:=Ms l (by omega) (by omega);have lx:=Mt l (by omega);rw [hl] at ht hx;rw [hx] at lx;rw [List.length_append,List.length_append] at lx;rw [ht,hx,Co,Co];obtain⟨A,cap,rfl,hcap,hc⟩:=hP;have hP:Prs w (.slice A l.length cap) l:=⟨A,cap,rfl,hcap,hc⟩;obtain⟨A1,c1,hs1,P1⟩:=Ni 22 Tryz.underlying22 (by kernel_rfl) hP (spl n) (by omega);obtain⟨hs2,P2⟩:=IL 22 Tryz.underlying22 (by kernel_rfl) hP (spl n) (by omega);rw [hl] at hs1 hs2 ⊢;have l1:=IF (l.take (spl n)) (by rw [List.length_take];omega);have l2:=IF (l.drop (spl n)) (by rw [List.length_drop];omega);refine eJ A n cap (spl n) w A1 _ c1 (Da (l.take (spl n))) (Da (l.drop (spl n))) (AK (Da (l.take (spl n))) (Da (l.drop (spl n)))) _ (bss (GB (l.take (spl n)))) (bss (GB (l.drop (spl n)))) h2 hn rfl hs1 hs2 ?_ ?_ ?_ ?_ (by rw [BM,BM];omega)
    ·exact qH fun W hW=>ih (spl n) s2 (l.take (spl n)) _ W (by rw [List.length_take];omega) (P2.below hW.below) (by omega)
    ·exact qH fun W hW=>ih (n-spl n) (by omega) (l.drop (spl n)) _ W (by rw [List.length_drop,hl]) (P1.below hW.below) (by omega)
    ·exact qH fun W=>RF _ _ W (by omega) (by omega)
    ·exact qH fun W=>JY _ _ (qH rfl) W (by rw [EG];omega)
   ·match l with
    | []=>exact eH v w hP
    | [p]=>exact eI v p w hP
    | p::q::r=>simp at hl;omega
theorem RI (A:Option Addr) (n cap:Nat) (w:World) (x t out:List UInt8) (X:List ByteArray)
  (H1:Hid (Calls qP 74 #[.slice A n cap] w fun e w'=>∃ u,e=.returned (.tuple #[.string (bs x),u])∧Aq w.heap.size u X w w'))
  (H3:Hid (∀ W,Calls qP 75 #[.int .i64 n,.string (bs x)] W fun e w'=>e=.returned (.string (bs t))∧Below W.heap.size W w'))
  (H4:Hid (∀ W,Calls qP 76 #[.string (bs t)] W fun e w'=>e=.returned (.string (bs out))∧Below W.heap.size W w'))
  (hX:X.length≤100000000) :
  Calls qP 27 #[.slice A n cap] w fun e w'=>∃ u,e=.returned (.tuple #[.string (bs out),u])∧Aq w.heap.size u (X++[bs t]) w w':=by
 have HX:=qH hX;clear hX;go_enter Tryz.func27,Tryz.ntmps27
 go_wp2_with fail
 refine H1.out.mono ?_;rintro e w2 ⟨u2,rfl,o2⟩;have O2:=qH o2;clear o2 H1
 go_wp2_with fail
 refine(H3.out w2).mono ?_;rintro e w4 ⟨rfl,b4⟩;have B4:=qH (Ae O2.out.below b4);have P3:=qH (O2.out.after b4);clear b4 O2 H3
 go_wp2_with (at_builtin;first
  | (refine BQ _ rfl _ _ rfl w.heap.size _ _ u2 [] X rfl rfl w (Aq.start B4.out) P3.out.txs (by have:=HX.out;simp;omega) ?_;intro v5 w5 o5 g5;have O5:=qH o5;clear o5 g5 P3 B4)
  | (refine Bi rfl _ _ rfl w.heap.size v5 _ rfl w w5 (bs t) O5.out rfl (by have:=HX.out;simp;omega) ?_;intro v7 w7 o7;have O7:=qH o7;clear o7 O5))
 refine(H4.out w7).mono ?_;rintro e w8 ⟨rfl,b8⟩;have R:=qH (O7.out.after b8);clear b8 O7;go_wp2
 go_ret2
 exact⟨_,rfl,by simpa using R.out⟩
theorem eK (l:List KV) (v:Value) (w:World) (hP:Prs w v l) (hn:l.length≤1000000) :
  Calls qP 27 #[v] w fun e w'=>∃ u,e=.returned (.tuple #[.string (bs (Bl l)),u])∧Aq w.heap.size u (bss (bZ l)) w w':=by
 have H1:=qH (RG l.length l v w rfl hP hn);have l1:=IF l (by omega);have lx:=Mt l (by omega);have lt:=GZ l.length (Da l);obtain⟨A,cap,rfl,hcap,hc⟩:=hP;have h:=RI A l.length cap w _ (Bt l.length (Da l)) (Bl l) _ H1 (qH fun W=>Xt _ _ W (by omega)) (qH fun W=>JY _ _ (qH rfl) W (by omega)) (by rw [BM];omega);unfold bZ;rw [Co];exact h
theorem eL (A:Option Addr) (n cap s:Nat) (i:Int) (w:World) (A':Option Addr) (n' c':Nat) (y:List UInt8) (X:List ByteArray) (h0:0≤i) (h1:i≤1000000) (hn:2≤n) (hn2:n≤1000000) (hs:spl n=s) (hs2':s≤1000000) (hi:i<s)
  (hs1:∀ W,(Instr.slice 22 (.slice A n cap) (some (.int .i64 s)) none none).run qP W=.ok (.slice A' n' c') W)
  (hs2:∀ W,(Instr.slice 22 (.slice A n cap) none (some (.int .i64 s)) none).run qP W=.ok (.slice A s cap) W)
  (H1:Hid (∀ W,Aa w W→Calls qP 74 #[.slice A' n' c'] W fun e w'=>∃ A m c,e=.returned (.tuple #[.string (bs y),.slice A m c])∧Aa W w'))
  (H2:Hid (∀ W,Aa w W→Calls qP 105 #[.slice A s cap,.int .i64 i] W fun e w'=>∃ A m c,e=.returned (.slice A m c)∧Aq W.heap.size (.slice A m c) X W w'))
  (hX:X.length≤100000000) :
  Calls qP 105 #[.slice A n cap,.int .i64 i] w fun e w'=>∃ u,e=.returned u∧Aq w.heap.size u (X++[bs y]) w w':=by
 have K0:=IU n w (by omega);rw [Int.toNat_natCast,hs] at K0;have K:=qH K0;have HX:=qH hX;have hwi:IntKind.i64.wrap (i-(s:Int))=i-(s:Int):=IntWalk.i64_in _ (by omega);clear K0 hs hX h1 hs2'
 have n0:¬(n:Int)<2:=by omega
 clear hn hn2;go_enter Tryz.func105,Tryz.ntmps105
 go_wp2_with fail
 refine K.out.mono ?_;rintro e w1 ⟨rfl,b1⟩;clear K
 go_wp2_with fail
 refine(H1.out w1 (Ad b1)).mono ?_;rintro e w2 ⟨A2,m2,c2,rfl,s2⟩;have B2:=qH (Ae b1 s2.below);clear b1 s2 H1
 go_wp2_with fail
 refine(H2.out w2 (Ad B2.out)).mono ?_;rintro e w3 ⟨A3,m3,c3,rfl,o3⟩;have O3:=qH (Aq.from B2.out o3);clear o3 B2 H2
 go_wp2_with (at_builtin;refine Bi rfl _ _ rfl w.heap.size (.slice A3 m3 c3) _ rfl w w3 (bs y) O3.out rfl (by have:=HX.out;omega) ?_;intro v7 w7 o7;have O7:=qH o7;clear o7 O3)
 go_ret
 exact⟨_,rfl,O7.out⟩
theorem eN (A:Option Addr) (n cap s:Nat) (i:Int) (w:World) (A':Option Addr) (n' c':Nat) (y:List UInt8) (X:List ByteArray) (h0:0≤i) (h1:i≤1000000) (hn:2≤n) (hn2:n≤1000000) (hs:spl n=s) (hs2':s≤1000000) (hi:¬i<s)
  (hs1:∀ W,(Instr.slice 22 (.slice A n cap) (some (.int .i64 s)) none none).run qP W=.ok (.slice A' n' c') W)
  (hs2:∀ W,(Instr.slice 22 (.slice A n cap) none (some (.int .i64 s)) none).run qP W=.ok (.slice A s cap) W)
  (H1:Hid (∀ W,Aa w W→Calls qP 74 #[.slice A s cap] W fun e w'=>∃ A m c,e=.returned (.tuple #[.string (bs y),.slice A m c])∧Aa W w'))
  (H2:Hid (∀ W,Aa w W→Calls qP 105 #[.slice A' n' c',.int .i64 (i-s)] W fun e w'=>∃ A m c,e=.returned (.slice A m c)∧Aq W.heap.size (.slice A m c) X W w'))
  (hX:X.length≤100000000) :
  Calls qP 105 #[.slice A n cap,.int .i64 i] w fun e w'=>∃ u,e=.returned u∧Aq w.heap.size u (X++[bs y]) w w':=by
 have K0:=IU n w (by omega);rw [Int.toNat_natCast,hs] at K0;have K:=qH K0;have HX:=qH hX;have hwi:IntKind.i64.wrap (i-(s:Int))=i-(s:Int):=IntWalk.i64_in _ (by omega);clear K0 hs hX h1 hs2'
 have n0:¬(n:Int)<2:=by omega
 clear hn hn2;go_enter Tryz.func105,Tryz.ntmps105
 go_wp2_with fail
 refine K.out.mono ?_;rintro e w1 ⟨rfl,b1⟩;clear K
 go_wp2_with fail
 refine(H1.out w1 (Ad b1)).mono ?_;rintro e w2 ⟨A2,m2,c2,rfl,s2⟩;have B2:=qH (Ae b1 s2.below);clear b1 s2 H1
 go_wp2_with fail
 refine(H2.out w2 (Ad B2.out)).mono ?_;rintro e w3 ⟨A3,m3,c3,rfl,o3⟩;have O3:=qH (Aq.from B2.out o3);clear o3 B2 H2
 go_wp2_with (at_builtin;refine Bi rfl _ _ rfl w.heap.size (.slice A3 m3 c3) _ rfl w w3 (bs y) O3.out rfl (by have:=HX.out;omega) ?_;intro v7 w7 o7;have O7:=qH o7;clear o7 O3)
 go_ret
 exact⟨_,rfl,O7.out⟩
theorem eO (A:Option Addr) (n cap:Nat) (i:Int) (w:World) (hn:n<2):Calls qP 105 #[.slice A n cap,.int .i64 i] w fun e w'=>∃ u,e=.returned u∧Aq w.heap.size u [] w w':=by
 have n0:(n:Int)<2:=by omega
 have R:=Eb w;go_enter Tryz.func105,Tryz.ntmps105;go_wp2
 go_ret
 exact⟨_,rfl,R⟩
theorem Hg {B:Nat} {v:Value} {ss:List ByteArray} {W0 w:World} (h:Aq B v ss W0 w):∃ A m c,v=.slice A m c:=by
 obtain⟨A,c,e,_⟩:=h.txs;exact⟨A,_,c,e⟩
theorem eP:∀(n:Nat) (l:List KV) (v:Value) (i:Nat) (w:World),l.length=n→i<1000000→Prs w v l→n≤1000000 →
  Calls qP 105 #[v,.int .i64 i] w fun e w'=>∃ u,e=.returned u∧Aq w.heap.size u (bss (pth l i)) w w':=by
 intro n
 induction n using Nat.strongRecOn with
 | _ n ih =>
   intro l v i w hl hi hP hn;have hP0:=hP;obtain⟨A,cap,rfl,hcap,hc⟩:=hP0;by_cases h2:2≤n
   ·obtain⟨s1,s2,s3⟩:=Dj h2 (by omega)
    obtain⟨A1,c1,hs1,P1⟩:=Ni 22 Tryz.underlying22 (by kernel_rfl) hP (spl n) (by omega);obtain⟨hs2,P2⟩:=IL 22 Tryz.underlying22 (by kernel_rfl) hP (spl n) (by omega);rw [hl] at hs1 hs2 ⊢
    have len1:(l.take (spl n)).length=spl n:=by rw [List.length_take];omega
    have len2:(l.drop (spl n)).length=n-spl n:=by rw [List.length_drop,hl]
    by_cases hlt:i<spl n
    ·have hp:=KQ (l:=l) (by omega) (by omega) (i:=i) (by rw [hl];exact hlt)
     rw [hl] at hp;rw [hp,Co];refine eL A n cap (spl n) i w A1 _ c1 (Da (l.drop (spl n))) (bss (pth (l.take (spl n)) i)) (by omega) (by omega) h2 hn rfl (by omega) (by omega) hs1 hs2 ?_ ?_ ?_
     ·exact qH fun W hW=>(RG _ (l.drop (spl n)) _ W len2 (P1.below hW.below) (by omega)).mono fun e w' ⟨u,he,ho⟩=>by
       obtain⟨A,m,c,rfl⟩:=Hg ho;exact⟨A,m,c,he,Ad ho.below⟩
     ·exact qH fun W hW=>(ih (spl n) s2 (l.take (spl n)) _ i W len1 hi (P2.below hW.below) (by omega)).mono fun e w' ⟨u,he,ho⟩=>by
       obtain⟨A,m,c,rfl⟩:=Hg ho;exact⟨A,m,c,he,ho⟩
     ·rw [BM];have:=(Nd _ (l.take (spl n)) i rfl (by omega)).1;omega
    ·have hp:=Jq (l:=l) (by omega) (by omega) (i:=i) (by rw [hl];exact hlt)
     rw [hl] at hp;rw [hp,Co];refine eN A n cap (spl n) i w A1 _ c1 (Da (l.take (spl n))) (bss (pth (l.drop (spl n)) (i-spl n))) (by omega) (by omega) h2 hn rfl (by omega) (by omega) hs1 hs2 ?_ ?_ ?_
     ·exact qH fun W hW=>(RG _ (l.take (spl n)) _ W len1 (P2.below hW.below) (by omega)).mono fun e w' ⟨u,he,ho⟩=>by
       obtain⟨A,m,c,rfl⟩:=Hg ho;exact⟨A,m,c,he,Ad ho.below⟩
     ·rw [show(i:Int)-(spl n:Nat)=((i-spl n:Nat):Int) by omega]
      exact qH fun W hW=>(ih (n-spl n) (by omega) (l.drop (spl n)) _ (i-spl n) W len2 (by omega) (P1.below hW.below) (by omega)).mono fun e w' ⟨u,he,ho⟩=>by
       obtain⟨A,m,c,rfl⟩:=Hg ho;exact⟨A,m,c,he,ho⟩
     ·rw [BM];have:=(Nd _ (l.drop (spl n)) (i-spl n) rfl (by omega)).1;omega
   ·rw [Jp (by omega),hl]
    exact eO A n cap i w (by omega)
end Go.Proofs.YtkejaepmoabikaaGreatDoor.W
