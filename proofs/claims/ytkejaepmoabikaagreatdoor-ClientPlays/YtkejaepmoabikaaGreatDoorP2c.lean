import Derived.Deep.RegionHeld3
import Derived.Test.YtkejaepmoabikaaGreatDoorP2a
import Derived.Test.YtkejaepmoabikaaGreatDoorP0f
import Derived.Test.YtkejaepmoabikaaGreatDoorP0b
import Derived.Test.YtkejaepmoabikaaGreatDoorP1d
import Derived.Test.YtkejaepmoabikaaGreatDoorP0d
import Derived.Test.YtkejaepmoabikaaGreatDoorP0e
import Derived.Test.YtkejaepmoabikaaGreatDoorP2b
import Derived.Test.YtkejaepmoabikaaGreatDoorP1b
import Derived.Test.YtkejaepmoabikaaGreatDoorP0g
namespace Go.Proofs.YtkejaepmoabikaaGreatDoor.W
open Go.RowKit
open Lib renaming hid → qH
open _root_.Go.Proofs.Tryz renaming prog → qP
set_option maxHeartbeats 4000000
set_option maxRecDepth 100000
theorem do4 (w:World) (S:Nat→Prop) (j m m':Nat) (L L' F:List KV) (A A2:Option Addr) (q r q2 r2:Nat) (id c:ByteArray) (a b:Int) (rt mc key raw p1 p2:ByteArray) (ht:Int) (pr0 pr:ByteArray) (hpr:pr=if raw=⟨#[]⟩ then pr0 else raw) (e:Int) (idn:ByteArray)
  (hJ:Jr w S j [] L m) (_hP:Prs w (.slice A q r) L) (hF:Prs w (.slice A2 q2 r2) F) (_oA:∀ g,(Value.slice A q r).ownBlock=some g→¬S g) (oF:Eg S (.slice A2 q2 r2) F)
  (AT:Hid (∀ W,Aa w W→Calls qP 19 #[wdV j A q r A2 q2 r2 1,.string p1,.string ⟨#[]⟩] W fun en w'=>en=.returned (.agg #[.int .i64 1,.string pr0])∧Aa W w'))
  (RN:Hid (∀ W,Aa w W→Calls qP 25 #[.slice A q r,.string key,.string raw] W fun en w'=>∃ B x y,en=.returned (.tuple #[.slice B x y,.string idn,.int .i64 e])∧Prs w' (.slice B x y) L'∧Aa W w'∧∀ g,(Value.slice B x y).ownBlock=some g→¬S g))
  (CN:Hid (∀ W,Aa w W→Calls qP 23 #[.pointer (some ⟨j,0,none⟩),.string key,.string raw] W fun en w'=>en=.returned (.tuple #[.string idn,.int .i64 e])∧Jm W S j [] L' m' w')) :
  Calls qP 10 #[wdV j A q r A2 q2 r2 1,.agg #[.int .i64 4,.string id,.string c,.int .i64 a,.int .i64 b,.string rt,.string mc,.string key,.string raw,.string p1,.string p2,.int .i64 ht]] w (DE w S j L' m' F A2 q2 r2):=by
 have bS:=qH hJ.bound;have FA:=Hn;by_cases hr:raw=⟨#[]⟩
 ·subst hr
  rw [if_pos rfl] at hpr;subst hpr;have Y:=Cg w (.pointer (some ⟨j,0,none⟩)) (.slice A q r) (.slice A2 q2 r2) (.int .i64 1) #[.int .i64 4,.string id,.string c,.int .i64 a,.int .i64 b,.string rt,.string mc,.string key,.string ⟨#[]⟩,.string p1,.string p2,.int .i64 ht];have y8:=Y.c 8 (v:=.string ⟨#[]⟩) rfl;have y11:=Y.c 11 (v:=.int .i64 ht) rfl;clear Y;have H0:=qH (Bj w j A q r A2 q2 r2 #[.int .i64 4,.string id,.string c,.int .i64 a,.int .i64 b,.string rt,.string mc,.string key,.string ⟨#[]⟩,.string p1,.string p2,.int .i64 ht] ht ⟨#[]⟩).1;have S0:=qH (Bj w j A q r A2 q2 r2 #[.int .i64 4,.string id,.string c,.int .i64 a,.int .i64 b,.string rt,.string mc,.string key,.string ⟨#[]⟩,.string p1,.string p2,.int .i64 ht] ht ⟨#[]⟩).2;have fw0:=H0.out.bw.c 0 (v:=.pointer (some ⟨j,0,none⟩)) rfl;have fw1:=H0.out.bw.c 1 (v:=.slice A q r) rfl;have fw2:=H0.out.bw.c 2 (v:=.slice A2 q2 r2) rfl;have fw3:=H0.out.bw.c 3 (v:=.int .i64 1) rfl;have e9:=H0.out.bd.c 9 (v:=.string p1) rfl;have e8:=H0.out.bd.c 8 (v:=.string ⟨#[]⟩) rfl;go_enter Tryz.func10,Tryz.ntmps10
  go_wp2_with fail
  clear fw0 fw1 fw2 fw3 e9 e8 y8 y11;refine(AT.out _ S0.out).mono ?_;rintro en u0 ⟨rfl,qa⟩;have H1:=qH (H0.out.next qa);have S1:=qH (Ac S0.out qa);have c1:=H1.out.ba.c 1 (v:=.string ⟨#[]⟩) rfl;have c1f:=H1.out.ba.frozen 1;have H:=qH (H1.out.setA pr);have SV:=qH (Ak S1.out (p:=⟨w.heap.size+3,1,none⟩) (by simp) (.string pr));clear AT H0 S0 H1 S1 qa;have fw0:=H.out.bw.c 0 (v:=.pointer (some ⟨j,0,none⟩)) rfl;have fw1:=H.out.bw.c 1 (v:=.slice A q r) rfl;have fw2:=H.out.bw.c 2 (v:=.slice A2 q2 r2) rfl;have fw3:=H.out.bw.c 3 (v:=.int .i64 1) rfl;have fd0:=H.out.bd.c 0 (v:=.int .i64 4) rfl;have fd1:=H.out.bd.c 1 (v:=.string id) rfl;have fd2:=H.out.bd.c 2 (v:=.string c) rfl;have fd3:=H.out.bd.c 3 (v:=.int .i64 a) rfl;have fd4:=H.out.bd.c 4 (v:=.int .i64 b) rfl;have fd5:=H.out.bd.c 5 (v:=.string rt) rfl;have fd6:=H.out.bd.c 6 (v:=.string mc) rfl;have fd7:=H.out.bd.c 7 (v:=.string key) rfl;have fd8:=H.out.bd.c 8 (v:=.string ⟨#[]⟩) rfl;have fd9:=H.out.bd.c 9 (v:=.string p1) rfl;have fd10:=H.out.bd.c 10 (v:=.string p2) rfl;have fd11:=H.out.bd.c 11 (v:=.int .i64 ht) rfl;have fa0:=H.out.ba.c 0 (v:=.int .i64 ht) rfl;have fa1:=H.out.ba.c 1 (v:=.string pr) rfl
  go_wp2_with fail
  clear c1 c1f;refine(RN.out _ SV.out).mono ?_;rintro en u2 ⟨B,x,y,rfl,hPB,s4,oB⟩;have HB:=qH (H.out.next s4);have SB:=qH (Ac SV.out s4);have PB:=qH hPB;have OB:=qH oB;clear H SV hPB oB s4 RN;clear fw0 fw1 fw2 fw3 fd0 fd1 fd2 fd3 fd4 fd5 fd6 fd7 fd8 fd9 fd10 fd11 fa0 fa1;have g1:=HB.out.bw.c 1 (v:=.slice A q r) rfl;have g1f:=HB.out.bw.frozen 1;have H2:=qH (HB.out.setS B x y);have S2:=qH (Ak SB.out (p:=⟨w.heap.size,1,none⟩) (Nat.le_refl _) (.slice B x y));have P2:=qH (PB.out.set1 HB.out.bw 1 (.slice B x y));clear HB SB PB;have fw0:=H2.out.bw.c 0 (v:=.pointer (some ⟨j,0,none⟩)) rfl;have fw1:=H2.out.bw.c 1 (v:=.slice B x y) rfl;have fw2:=H2.out.bw.c 2 (v:=.slice A2 q2 r2) rfl;have fw3:=H2.out.bw.c 3 (v:=.int .i64 1) rfl;have fd0:=H2.out.bd.c 0 (v:=.int .i64 4) rfl;have fd1:=H2.out.bd.c 1 (v:=.string id) rfl;have fd2:=H2.out.bd.c 2 (v:=.string c) rfl;have fd3:=H2.out.bd.c 3 (v:=.int .i64 a) rfl;have fd4:=H2.out.bd.c 4 (v:=.int .i64 b) rfl;have fd5:=H2.out.bd.c 5 (v:=.string rt) rfl;have fd6:=H2.out.bd.c 6 (v:=.string mc) rfl;have fd7:=H2.out.bd.c 7 (v:=.string key) rfl;have fd8:=H2.out.bd.c 8 (v:=.string ⟨#[]⟩) rfl;have fd9:=H2.out.bd.c 9 (v:=.string p1) rfl;have fd10:=H2.out.bd.c 10 (v:=.string p2) rfl;have fd11:=H2.out.bd.c 11 (v:=.int .i64 ht) rfl
  go_wp2_with fail
  clear g1 g1f;clear fw0 fw1 fw2 fw3 fd0 fd1 fd2 fd3 fd4 fd5 fd6 fd7 fd8 fd9 fd10 fd11;refine(CN.out _ S2.out).mono ?_;rintro en u4 ⟨rfl,hm⟩;have EX:=qH (Ei S2.out H2.out bS.out hm P2.out (hF.below S2.out.below) OB.out oF);have fr0:=EX.out.1.br.c 0 (v:=.pointer none) rfl;have gr0:=EX.out.1.br.frozen 0;have fr1:=EX.out.1.br.c 1 (v:=.slice none 0 0) rfl;have gr1:=EX.out.1.br.frozen 1;have fr2:=EX.out.1.br.c 2 (v:=.slice none 0 0) rfl;have gr2:=EX.out.1.br.frozen 2;have fr3:=EX.out.1.br.c 3 (v:=.int .i64 0) rfl;have gr3:=EX.out.1.br.frozen 3;have fw0:=EX.out.1.bw.c 0 (v:=.pointer (some ⟨j,0,none⟩)) rfl;have fw1:=EX.out.1.bw.c 1 (v:=.slice B x y) rfl;have fw2:=EX.out.1.bw.c 2 (v:=.slice A2 q2 r2) rfl;have fw3:=EX.out.1.bw.c 3 (v:=.int .i64 1) rfl;clear CN hm H2 S2 P2
  have hbb:(idn.toList==idn.toList)=true:=by simp
  go_wp2;have D1:=EX.out.2.1;refine bodyPost_ret (v:=.tuple #[wdV j B x y A2 q2 r2 1,.bool true]) (by simp [results,Tryz.results10,go_sem,D1.c 0 rfl,D1.c 1 rfl,D1.c 2 rfl,D1.c 3 rfl]) rfl ?_;exact EX.out.2.2.2
 ·rw [if_neg hr] at hpr
  have hne:raw.toList.isEmpty=false:=by
   cases hl:raw.toList with
   | nil=>exact absurd (Fg (by simpa using hl)) hr
   | cons a r=>rfl
  replace hpr:=hpr.symm
  subst hpr;clear AT hr;have Y:=Cg w (.pointer (some ⟨j,0,none⟩)) (.slice A q r) (.slice A2 q2 r2) (.int .i64 1) #[.int .i64 4,.string id,.string c,.int .i64 a,.int .i64 b,.string rt,.string mc,.string key,.string raw,.string p1,.string p2,.int .i64 ht];have y8:=Y.c 8 (v:=.string raw) rfl;have y11:=Y.c 11 (v:=.int .i64 ht) rfl;clear Y;have H0:=qH (Bj w j A q r A2 q2 r2 #[.int .i64 4,.string id,.string c,.int .i64 a,.int .i64 b,.string rt,.string mc,.string key,.string raw,.string p1,.string p2,.int .i64 ht] ht raw).1;have S0:=qH (Bj w j A q r A2 q2 r2 #[.int .i64 4,.string id,.string c,.int .i64 a,.int .i64 b,.string rt,.string mc,.string key,.string raw,.string p1,.string p2,.int .i64 ht] ht raw).2;have H:=H0;have SV:=S0;clear H0 S0;have fw0:=H.out.bw.c 0 (v:=.pointer (some ⟨j,0,none⟩)) rfl;have fw1:=H.out.bw.c 1 (v:=.slice A q r) rfl;have fw2:=H.out.bw.c 2 (v:=.slice A2 q2 r2) rfl;have fw3:=H.out.bw.c 3 (v:=.int .i64 1) rfl;have fd0:=H.out.bd.c 0 (v:=.int .i64 4) rfl;have fd1:=H.out.bd.c 1 (v:=.string id) rfl;have fd2:=H.out.bd.c 2 (v:=.string c) rfl;have fd3:=H.out.bd.c 3 (v:=.int .i64 a) rfl;have fd4:=H.out.bd.c 4 (v:=.int .i64 b) rfl;have fd5:=H.out.bd.c 5 (v:=.string rt) rfl;have fd6:=H.out.bd.c 6 (v:=.string mc) rfl;have fd7:=H.out.bd.c 7 (v:=.string key) rfl;have fd8:=H.out.bd.c 8 (v:=.string raw) rfl;have fd9:=H.out.bd.c 9 (v:=.string p1) rfl;have fd10:=H.out.bd.c 10 (v:=.string p2) rfl;have fd11:=H.out.bd.c 11 (v:=.int .i64 ht) rfl;have fa0:=H.out.ba.c 0 (v:=.int .i64 ht) rfl;have fa1:=H.out.ba.c 1 (v:=.string raw) rfl;go_enter Tryz.func10,Tryz.ntmps10
  go_wp2_with fail
  clear y8 y11;refine(RN.out _ SV.out).mono ?_;rintro en u2 ⟨B,x,y,rfl,hPB,s4,oB⟩;have HB:=qH (H.out.next s4);have SB:=qH (Ac SV.out s4);have PB:=qH hPB;have OB:=qH oB;clear H SV hPB oB s4 RN;clear fw0 fw1 fw2 fw3 fd0 fd1 fd2 fd3 fd4 fd5 fd6 fd7 fd8 fd9 fd10 fd11 fa0 fa1;have g1:=HB.out.bw.c 1 (v:=.slice A q r) rfl;have g1f:=HB.out.bw.frozen 1;have H2:=qH (HB.out.setS B x y);have S2:=qH (Ak SB.out (p:=⟨w.heap.size,1,none⟩) (Nat.le_refl _) (.slice B x y));have P2:=qH (PB.out.set1 HB.out.bw 1 (.slice B x y));clear HB SB PB;have fw0:=H2.out.bw.c 0 (v:=.pointer (some ⟨j,0,none⟩)) rfl;have fw1:=H2.out.bw.c 1 (v:=.slice B x y) rfl;have fw2:=H2.out.bw.c 2 (v:=.slice A2 q2 r2) rfl;have fw3:=H2.out.bw.c 3 (v:=.int .i64 1) rfl;have fd0:=H2.out.bd.c 0 (v:=.int .i64 4) rfl;have fd1:=H2.out.bd.c 1 (v:=.string id) rfl;have fd2:=H2.out.bd.c 2 (v:=.string c) rfl;have fd3:=H2.out.bd.c 3 (v:=.int .i64 a) rfl;have fd4:=H2.out.bd.c 4 (v:=.int .i64 b) rfl;have fd5:=H2.out.bd.c 5 (v:=.string rt) rfl;have fd6:=H2.out.bd.c 6 (v:=.string mc) rfl;have fd7:=H2.out.bd.c 7 (v:=.string key) rfl;have fd8:=H2.out.bd.c 8 (v:=.string raw) rfl;have fd9:=H2.out.bd.c 9 (v:=.string p1) rfl;have fd10:=H2.out.bd.c 10 (v:=.string p2) rfl;have fd11:=H2.out.bd.c 11 (v:=.int .i64 ht) rfl
  go_wp2_with fail
  clear g1 g1f;clear fw0 fw1 fw2 fw3 fd0 fd1 fd2 fd3 fd4 fd5 fd6 fd7 fd8 fd9 fd10 fd11;refine(CN.out _ S2.out).mono ?_;rintro en u4 ⟨rfl,hm⟩;have EX:=qH (Ei S2.out H2.out bS.out hm P2.out (hF.below S2.out.below) OB.out oF);have fr0:=EX.out.1.br.c 0 (v:=.pointer none) rfl;have gr0:=EX.out.1.br.frozen 0;have fr1:=EX.out.1.br.c 1 (v:=.slice none 0 0) rfl;have gr1:=EX.out.1.br.frozen 1;have fr2:=EX.out.1.br.c 2 (v:=.slice none 0 0) rfl;have gr2:=EX.out.1.br.frozen 2;have fr3:=EX.out.1.br.c 3 (v:=.int .i64 0) rfl;have gr3:=EX.out.1.br.frozen 3;have fw0:=EX.out.1.bw.c 0 (v:=.pointer (some ⟨j,0,none⟩)) rfl;have fw1:=EX.out.1.bw.c 1 (v:=.slice B x y) rfl;have fw2:=EX.out.1.bw.c 2 (v:=.slice A2 q2 r2) rfl;have fw3:=EX.out.1.bw.c 3 (v:=.int .i64 1) rfl;clear CN hm H2 S2 P2
  have hbb:(idn.toList==idn.toList)=true:=by simp
  go_wp2;have D1:=EX.out.2.1;refine bodyPost_ret (v:=.tuple #[wdV j B x y A2 q2 r2 1,.bool true]) (by simp [results,Tryz.results10,go_sem,D1.c 0 rfl,D1.c 1 rfl,D1.c 2 rfl,D1.c 3 rfl]) rfl ?_;exact EX.out.2.2.2
theorem do5 (w:World) (S:Nat→Prop) (j m m':Nat) (L L' F:List KV) (A A2:Option Addr) (q r q2 r2:Nat) (id c:ByteArray) (a b:Int) (rt mc key raw p1 p2:ByteArray) (ht:Int) (pr0 pr:ByteArray) (hpr:pr=if raw=⟨#[]⟩ then pr0 else raw) (kk:Int) (hkk:kk<0∨4<kk) (e:Int) (x1:Int) (x2:ByteArray) (hLm:L'=L∧m'=m)
  (hJ:Jr w S j [] L m) (hP:Prs w (.slice A q r) L) (hF:Prs w (.slice A2 q2 r2) F) (oA:∀ g,(Value.slice A q r).ownBlock=some g→¬S g) (oF:Eg S (.slice A2 q2 r2) F)
  (AT:Hid (∀ W,Aa w W→Calls qP 19 #[wdV j A q r A2 q2 r2 1,.string p1,.string ⟨#[]⟩] W fun en w'=>en=.returned (.agg #[.int .i64 1,.string pr0])∧Aa W w'))
  (CS:Hid (∀ W,Aa w W→Calls qP 21 #[.pointer (some ⟨j,0,none⟩),.string id,.int .i64 ht] W fun en w'=>en=.returned (.tuple #[.agg #[.int .i64 x1,.string x2],.int .i64 e])∧Aa W w'))
  (RS:Hid (∀ W,Aa w W→Calls qP 32 #[.slice A q r,.string id,.int .i64 ht] W fun en w'=>en=.returned (.tuple #[.agg #[.int .i64 x1,.string x2],.int .i64 e])∧Aa W w')) :
  Calls qP 10 #[wdV j A q r A2 q2 r2 1,.agg #[.int .i64 kk,.string id,.string c,.int .i64 a,.int .i64 b,.string rt,.string mc,.string key,.string raw,.string p1,.string p2,.int .i64 ht]] w (DE w S j L' m' F A2 q2 r2):=by
 obtain⟨rfl,rfl⟩:=hLm;have bS:=qH hJ.bound;have FA:=Hn
 have kn0:(kk==0)=false:=by rw [beq_eq_false_iff_ne];omega
 have km0:¬kk=0:=by omega
 have kn1:(kk==1)=false:=by rw [beq_eq_false_iff_ne];omega
 have km1:¬kk=1:=by omega
 have kn2:(kk==2)=false:=by rw [beq_eq_false_iff_ne];omega
 have km2:¬kk=2:=by omega
 have kn3:(kk==3)=false:=by rw [beq_eq_false_iff_ne];omega
 have km3:¬kk=3:=by omega
 have kn4:(kk==4)=false:=by rw [beq_eq_false_iff_ne];omega
 have km4:¬kk=4:=by omega
 clear hkk;by_cases hr:raw=⟨#[]⟩
 ·subst hr
  rw [if_pos rfl] at hpr;subst hpr;have Y:=Cg w (.pointer (some ⟨j,0,none⟩)) (.slice A q r) (.slice A2 q2 r2) (.int .i64 1) #[.int .i64 kk,.string id,.string c,.int .i64 a,.int .i64 b,.string rt,.string mc,.string key,.string ⟨#[]⟩,.string p1,.string p2,.int .i64 ht];have y8:=Y.c 8 (v:=.string ⟨#[]⟩) rfl;have y11:=Y.c 11 (v:=.int .i64 ht) rfl;clear Y;have H0:=qH (Bj w j A q r A2 q2 r2 #[.int .i64 kk,.string id,.string c,.int .i64 a,.int .i64 b,.string rt,.string mc,.string key,.string ⟨#[]⟩,.string p1,.string p2,.int .i64 ht] ht ⟨#[]⟩).1;have S0:=qH (Bj w j A q r A2 q2 r2 #[.int .i64 kk,.string id,.string c,.int .i64 a,.int .i64 b,.string rt,.string mc,.string key,.string ⟨#[]⟩,.string p1,.string p2,.int .i64 ht] ht ⟨#[]⟩).2;have fw0:=H0.out.bw.c 0 (v:=.pointer (some ⟨j,0,none⟩)) rfl;have fw1:=H0.out.bw.c 1 (v:=.slice A q r) rfl;have fw2:=H0.out.bw.c 2 (v:=.slice A2 q2 r2) rfl;have fw3:=H0.out.bw.c 3 (v:=.int .i64 1) rfl;have e9:=H0.out.bd.c 9 (v:=.string p1) rfl;have e8:=H0.out.bd.c 8 (v:=.string ⟨#[]⟩) rfl;go_enter Tryz.func10,Tryz.ntmps10
  go_wp2_with fail
  clear fw0 fw1 fw2 fw3 e9 e8 y8 y11;refine(AT.out _ S0.out).mono ?_;rintro en u0 ⟨rfl,qa⟩;have H1:=qH (H0.out.next qa);have S1:=qH (Ac S0.out qa);have c1:=H1.out.ba.c 1 (v:=.string ⟨#[]⟩) rfl;have c1f:=H1.out.ba.frozen 1;have H:=qH (H1.out.setA pr);have SV:=qH (Ak S1.out (p:=⟨w.heap.size+3,1,none⟩) (by simp) (.string pr));clear AT H0 S0 H1 S1 qa;have fw0:=H.out.bw.c 0 (v:=.pointer (some ⟨j,0,none⟩)) rfl;have fw1:=H.out.bw.c 1 (v:=.slice A q r) rfl;have fw2:=H.out.bw.c 2 (v:=.slice A2 q2 r2) rfl;have fw3:=H.out.bw.c 3 (v:=.int .i64 1) rfl;have fd0:=H.out.bd.c 0 (v:=.int .i64 kk) rfl;have fd1:=H.out.bd.c 1 (v:=.string id) rfl;have fd2:=H.out.bd.c 2 (v:=.string c) rfl;have fd3:=H.out.bd.c 3 (v:=.int .i64 a) rfl;have fd4:=H.out.bd.c 4 (v:=.int .i64 b) rfl;have fd5:=H.out.bd.c 5 (v:=.string rt) rfl;have fd6:=H.out.bd.c 6 (v:=.string mc) rfl;have fd7:=H.out.bd.c 7 (v:=.string key) rfl;have fd8:=H.out.bd.c 8 (v:=.string ⟨#[]⟩) rfl;have fd9:=H.out.bd.c 9 (v:=.string p1) rfl;have fd10:=H.out.bd.c 10 (v:=.string p2) rfl;have fd11:=H.out.bd.c 11 (v:=.int .i64 ht) rfl;have fa0:=H.out.ba.c 0 (v:=.int .i64 ht) rfl;have fa1:=H.out.ba.c 1 (v:=.string pr) rfl
  go_wp2_with fail
  clear c1 c1f;clear fw0 fw1 fw2 fw3 fd0 fd1 fd2 fd3 fd4 fd5 fd6 fd7 fd8 fd9 fd10 fd11 fa0 fa1;refine(CS.out _ SV.out).mono ?_;rintro en u1 ⟨rfl,s3⟩;have H1:=qH (H.out.next (Ab s3 (.cells #[.int .i64 x1,.string x2] 62)));have S1:=qH (Ac SV.out (Ab s3 (.cells #[.int .i64 x1,.string x2] 62)));have X1:=qH (Blk.new u1 62 #[.int .i64 x1,.string x2]);clear H SV s3 CS;have fw0:=H1.out.bw.c 0 (v:=.pointer (some ⟨j,0,none⟩)) rfl;have fw1:=H1.out.bw.c 1 (v:=.slice A q r) rfl;have fw2:=H1.out.bw.c 2 (v:=.slice A2 q2 r2) rfl;have fw3:=H1.out.bw.c 3 (v:=.int .i64 1) rfl;have fd0:=H1.out.bd.c 0 (v:=.int .i64 kk) rfl;have fd1:=H1.out.bd.c 1 (v:=.string id) rfl;have fd2:=H1.out.bd.c 2 (v:=.string c) rfl;have fd3:=H1.out.bd.c 3 (v:=.int .i64 a) rfl;have fd4:=H1.out.bd.c 4 (v:=.int .i64 b) rfl;have fd5:=H1.out.bd.c 5 (v:=.string rt) rfl;have fd6:=H1.out.bd.c 6 (v:=.string mc) rfl;have fd7:=H1.out.bd.c 7 (v:=.string key) rfl;have fd8:=H1.out.bd.c 8 (v:=.string ⟨#[]⟩) rfl;have fd9:=H1.out.bd.c 9 (v:=.string p1) rfl;have fd10:=H1.out.bd.c 10 (v:=.string p2) rfl;have fd11:=H1.out.bd.c 11 (v:=.int .i64 ht) rfl
  go_wp2_with fail
  clear fw0 fw1 fw2 fw3 fd0 fd1 fd2 fd3 fd4 fd5 fd6 fd7 fd8 fd9 fd10 fd11;refine(RS.out _ S1.out).mono ?_;rintro en u2 ⟨rfl,s4⟩;have S2:=qH (Ac S1.out (Ab s4 (.cells #[.int .i64 x1,.string x2] 62)));have EX:=qH (Ei S2.out (H1.out.next (Ab s4 (.cells #[.int .i64 x1,.string x2] 62))) bS.out (Jm.same (hJ.below S2.out.below)) (hP.below S2.out.below) (hF.below S2.out.below) oA oF);have X2:=qH ((X1.out.next s4.below).alloc (.cells #[.int .i64 x1,.string x2] 62));have Y2:=qH (Blk.new u2 62 #[.int .i64 x1,.string x2]);clear H1 S1 X1 s4 RS;have fr0:=EX.out.1.br.c 0 (v:=.pointer none) rfl;have gr0:=EX.out.1.br.frozen 0;have fr1:=EX.out.1.br.c 1 (v:=.slice none 0 0) rfl;have gr1:=EX.out.1.br.frozen 1;have fr2:=EX.out.1.br.c 2 (v:=.slice none 0 0) rfl;have gr2:=EX.out.1.br.frozen 2;have fr3:=EX.out.1.br.c 3 (v:=.int .i64 0) rfl;have gr3:=EX.out.1.br.frozen 3;have fw0:=EX.out.1.bw.c 0 (v:=.pointer (some ⟨j,0,none⟩)) rfl;have fw1:=EX.out.1.bw.c 1 (v:=.slice A q r) rfl;have fw2:=EX.out.1.bw.c 2 (v:=.slice A2 q2 r2) rfl;have fw3:=EX.out.1.bw.c 3 (v:=.int .i64 1) rfl;have ex0:=X2.out.c 0 (v:=.int .i64 x1) rfl;have ex1:=X2.out.c 1 (v:=.string x2) rfl;have ey0:=Y2.out.c 0 (v:=.int .i64 x1) rfl;have ey1:=Y2.out.c 1 (v:=.string x2) rfl
  have EQ:∀ W:World,(Op.equalIn 10000 62 (.agg #[.int .i64 x1,.string x2]) (.agg #[.int .i64 x1,.string x2])).run qP W=.ok true W:=fun W=>by rw [NM];simp
  have GU:=Ks
  go_wp2_with fail
  generalize u2.alloc (.cells #[.int .i64 x1,.string x2] 62)=V3 at *
  go_region
  all_goals go_wp2
  all_goals have D1:=EX.out.2.1
  all_goals have D2:=CL D1
  all_goals refine bodyPost_ret (v:=.tuple #[wdV j A q r A2 q2 r2 1,.bool true]) (by simp [results,Tryz.results10,go_sem,D2.c 0 rfl,D2.c 1 rfl,D2.c 2 rfl,D2.c 3 rfl]) rfl ?_
  all_goals first|exact EX.out.2.2.2|exact EX.out.2.2.2.drew
 ·rw [if_neg hr] at hpr
  have hne:raw.toList.isEmpty=false:=by
   cases hl:raw.toList with
   | nil=>exact absurd (Fg (by simpa using hl)) hr
   | cons a r=>rfl
  replace hpr:=hpr.symm
  subst hpr;clear AT hr;have Y:=Cg w (.pointer (some ⟨j,0,none⟩)) (.slice A q r) (.slice A2 q2 r2) (.int .i64 1) #[.int .i64 kk,.string id,.string c,.int .i64 a,.int .i64 b,.string rt,.string mc,.string key,.string raw,.string p1,.string p2,.int .i64 ht];have y8:=Y.c 8 (v:=.string raw) rfl;have y11:=Y.c 11 (v:=.int .i64 ht) rfl;clear Y;have H0:=qH (Bj w j A q r A2 q2 r2 #[.int .i64 kk,.string id,.string c,.int .i64 a,.int .i64 b,.string rt,.string mc,.string key,.string raw,.string p1,.string p2,.int .i64 ht] ht raw).1;have S0:=qH (Bj w j A q r A2 q2 r2 #[.int .i64 kk,.string id,.string c,.int .i64 a,.int .i64 b,.string rt,.string mc,.string key,.string raw,.string p1,.string p2,.int .i64 ht] ht raw).2;have H:=H0;have SV:=S0;clear H0 S0;have fw0:=H.out.bw.c 0 (v:=.pointer (some ⟨j,0,none⟩)) rfl;have fw1:=H.out.bw.c 1 (v:=.slice A q r) rfl;have fw2:=H.out.bw.c 2 (v:=.slice A2 q2 r2) rfl;have fw3:=H.out.bw.c 3 (v:=.int .i64 1) rfl;have fd0:=H.out.bd.c 0 (v:=.int .i64 kk) rfl;have fd1:=H.out.bd.c 1 (v:=.string id) rfl;have fd2:=H.out.bd.c 2 (v:=.string c) rfl;have fd3:=H.out.bd.c 3 (v:=.int .i64 a) rfl;have fd4:=H.out.bd.c 4 (v:=.int .i64 b) rfl;have fd5:=H.out.bd.c 5 (v:=.string rt) rfl;have fd6:=H.out.bd.c 6 (v:=.string mc) rfl;have fd7:=H.out.bd.c 7 (v:=.string key) rfl;have fd8:=H.out.bd.c 8 (v:=.string raw) rfl;have fd9:=H.out.bd.c 9 (v:=.string p1) rfl;have fd10:=H.out.bd.c 10 (v:=.string p2) rfl;have fd11:=H.out.bd.c 11 (v:=.int .i64 ht) rfl;have fa0:=H.out.ba.c 0 (v:=.int .i64 ht) rfl;have fa1:=H.out.ba.c 1 (v:=.string raw) rfl;go_enter Tryz.func10,Tryz.ntmps10
  go_wp2_with fail
  clear y8 y11;clear fw0 fw1 fw2 fw3 fd0 fd1 fd2 fd3 fd4 fd5 fd6 fd7 fd8 fd9 fd10 fd11 fa0 fa1;refine(CS.out _ SV.out).mono ?_;rintro en u1 ⟨rfl,s3⟩;have H1:=qH (H.out.next (Ab s3 (.cells #[.int .i64 x1,.string x2] 62)));have S1:=qH (Ac SV.out (Ab s3 (.cells #[.int .i64 x1,.string x2] 62)));have X1:=qH (Blk.new u1 62 #[.int .i64 x1,.string x2]);clear H SV s3 CS;have fw0:=H1.out.bw.c 0 (v:=.pointer (some ⟨j,0,none⟩)) rfl;have fw1:=H1.out.bw.c 1 (v:=.slice A q r) rfl;have fw2:=H1.out.bw.c 2 (v:=.slice A2 q2 r2) rfl;have fw3:=H1.out.bw.c 3 (v:=.int .i64 1) rfl;have fd0:=H1.out.bd.c 0 (v:=.int .i64 kk) rfl;have fd1:=H1.out.bd.c 1 (v:=.string id) rfl;have fd2:=H1.out.bd.c 2 (v:=.string c) rfl;have fd3:=H1.out.bd.c 3 (v:=.int .i64 a) rfl;have fd4:=H1.out.bd.c 4 (v:=.int .i64 b) rfl;have fd5:=H1.out.bd.c 5 (v:=.string rt) rfl;have fd6:=H1.out.bd.c 6 (v:=.string mc) rfl;have fd7:=H1.out.bd.c 7 (v:=.string key) rfl;have fd8:=H1.out.bd.c 8 (v:=.string raw) rfl;have fd9:=H1.out.bd.c 9 (v:=.string p1) rfl;have fd10:=H1.out.bd.c 10 (v:=.string p2) rfl;have fd11:=H1.out.bd.c 11 (v:=.int .i64 ht) rfl
  go_wp2_with fail
  clear fw0 fw1 fw2 fw3 fd0 fd1 fd2 fd3 fd4 fd5 fd6 fd7 fd8 fd9 fd10 fd11;refine(RS.out _ S1.out).mono ?_;rintro en u2 ⟨rfl,s4⟩;have S2:=qH (Ac S1.out (Ab s4 (.cells #[.int .i64 x1,.string x2] 62)));have EX:=qH (Ei S2.out (H1.out.next (Ab s4 (.cells #[.int .i64 x1,.string x2] 62))) bS.out (Jm.same (hJ.below S2.out.below)) (hP.below S2.out.below) (hF.below S2.out.below) oA oF);have X2:=qH ((X1.out.next s4.below).alloc (.cells #[.int .i64 x1,.string x2] 62));have Y2:=qH (Blk.new u2 62 #[.int .i64 x1,.string x2]);clear H1 S1 X1 s4 RS;have fr0:=EX.out.1.br.c 0 (v:=.pointer none) rfl;have gr0:=EX.out.1.br.frozen 0;have fr1:=EX.out.1.br.c 1 (v:=.slice none 0 0) rfl;have gr1:=EX.out.1.br.frozen 1;have fr2:=EX.out.1.br.c 2 (v:=.slice none 0 0) rfl;have gr2:=EX.out.1.br.frozen 2;have fr3:=EX.out.1.br.c 3 (v:=.int .i64 0) rfl;have gr3:=EX.out.1.br.frozen 3;have fw0:=EX.out.1.bw.c 0 (v:=.pointer (some ⟨j,0,none⟩)) rfl;have fw1:=EX.out.1.bw.c 1 (v:=.slice A q r) rfl;have fw2:=EX.out.1.bw.c 2 (v:=.slice A2 q2 r2) rfl;have fw3:=EX.out.1.bw.c 3 (v:=.int .i64 1) rfl;have ex0:=X2.out.c 0 (v:=.int .i64 x1) rfl;have ex1:=X2.out.c 1 (v:=.string x2) rfl;have ey0:=Y2.out.c 0 (v:=.int .i64 x1) rfl;have ey1:=Y2.out.c 1 (v:=.string x2) rfl
  have EQ:∀ W:World,(Op.equalIn 10000 62 (.agg #[.int .i64 x1,.string x2]) (.agg #[.int .i64 x1,.string x2])).run qP W=.ok true W:=fun W=>by rw [NM];simp
  have GU:=Ks
  go_wp2_with fail
  generalize u2.alloc (.cells #[.int .i64 x1,.string x2] 62)=V3 at *
  go_region
  all_goals go_wp2
  all_goals have D1:=EX.out.2.1
  all_goals have D2:=CL D1
  all_goals refine bodyPost_ret (v:=.tuple #[wdV j A q r A2 q2 r2 1,.bool true]) (by simp [results,Tryz.results10,go_sem,D2.c 0 rfl,D2.c 1 rfl,D2.c 2 rfl,D2.c 3 rfl]) rfl ?_
  all_goals first|exact EX.out.2.2.2|exact EX.out.2.2.2.drew
theorem Uh:∀ l:List ByteArray,(∀ x ∈ l,x.size≤65536)→(cat l).length≤l.length*65600
 | [],_=>by simp [cat]
 | x::l,h=>by
   have ih:=Uh l (fun y hy=>h y (List.mem_cons_of_mem _ hy));have t:=GE x (h x (List.mem_cons_self ..));rw [OF,List.length_append,List.length_cons]
   omega
theorem Ia:∀ l:List KV,(∀ p ∈ l,p.1.size≤65536∧p.2.size≤65536)→(Bm l).length≤l.length*131200
 | [],_=>by simp [Bm]
 | p::l,h=>by
   have ih:=Ia l (fun y hy=>h y (List.mem_cons_of_mem _ hy));obtain⟨h1,h2⟩:=h p (List.mem_cons_self ..);have t1:=GE p.1 h1;have t2:=GE p.2 h2
   have e:Bm (p::l)=(Cd p.1.data.toList++Cd p.2.data.toList)++Bm l:=by simp [Bm]
   rw [e,List.length_append,List.length_append,List.length_cons]
   omega
theorem Ez {n:Nat} (h:n≤9007199254740992):(num n).length≤8:=by
 have:=Cr n 7 (by omega);rw [Di]
 omega
theorem Ib:∀ l:List (List (List UInt8)),(∀ q ∈ l,q.length≤256∧∀ y ∈ q,y.length≤65536)→(Be l).length≤l.length*16800000
 | [],_=>by simp [Be]
 | q::l,h=>by
   have ih:=Ib l (fun y hy=>h y (List.mem_cons_of_mem _ hy));obtain⟨h1,h2⟩:=h q (List.mem_cons_self ..)
   have t1:=Uh (bss q) (fun x hx=>by
    unfold bss at hx;rw [List.mem_map] at hx;obtain⟨y,hy,rfl⟩:=hx;rw [Aw]
    exact h2 y hy)
   have t2:=Ez (n:=q.length) (by omega)
   have e:Be (q::l)=(num q.length++cat (bss q))++Be l:=by simp [Be]
   rw [BM] at t1;rw [e,List.length_append,List.length_append,List.length_cons]
   omega
theorem Qr {x:Pf} (h:OL x):(FV x).length≤40000000:=by
 have a1:=Ez (n:=x.n.toNat) (by have:=h.n1;omega);have a2:=Ez (n:=x.pos.toNat) (by have:=h.p1;omega);have a3:=Ez (n:=if x.there then 1 else 0) (by split<;>omega);have a4:=Ez (n:=x.near.length) (by have:=h.near;omega);have a5:=Ez (n:=x.paths.length) (by have:=h.paths;omega);have b1:=Ia x.near h.sizes;have b2:=Ib x.paths h.path;have c1:=h.near;have c2:=h.paths;unfold FV;simp only [List.length_append]
 omega
theorem Qs {l:List KV} {key:ByteArray} (hl:l.length≤200) (hs:∀ p ∈ l,p.1.size≤60000∧p.2.size≤60000):OL (bld l key):=by
 have hle:=Ng (l:=l) (key:=key);have hlh:=EJ hle
 have hp:∀ i,(pth l i).length≤256∧∀ y ∈ pth l i,y.length≤65536:=fun i=>by
  obtain⟨h1,h2⟩:=Nd _ l i rfl (by omega);exact⟨by omega,fun y hy=>by have:=h2 y hy;omega⟩
 cases hg:AD l key with
 | some v =>
   rw [II hg];exact⟨by simp only;omega,by simp only;omega,by simp only;omega,by simp only;omega,by simp,fun _=>rfl,fun p hp=>by simp at hp,by simp,fun q hq=>by simp only [List.mem_singleton] at hq;subst hq;exact hp _⟩
 | none =>
   rw [GH hg];refine⟨by simp only;omega,by simp only;omega,by simp only;omega,by simp only;omega,by simp only [FT hle];omega,fun h=>by simp at h,fun p hp=>?_,by simp only [Cx];omega,fun q hq=>?_⟩
   ·have:=hs p (List.mem_of_mem_take (List.mem_of_mem_drop hp))
    omega
   ·simp only [CP,List.mem_map] at hq
    obtain⟨i,_,rfl⟩:=hq;exact hp i
noncomputable def ER (F:List KV) (key:ByteArray):ByteArray:=bs (IJ (bld F key)).1
structure GV (F:List KV):Prop where
 up:Up F
 len:F.length≤200
 size:∀ p ∈ F,p.1.size≤60000∧p.2.size≤60000
theorem GV.plain {F:List KV} (h:GV F) (key:ByteArray):OL (bld F key):=Qs h.len h.size
theorem Ho {F:List KV} (h:GV F) (key:ByteArray):(ER F key).size≤9223372036854775807:=by
 have hp:=h.plain key;have:=Qr hp;unfold ER;rw [My hp,Aw];simp only
 omega
theorem VJ {F:List KV} (h:GV F) (key:ByteArray):FU (ER F key)=(bld F key,0):=by
 have hp:=h.plain key;have hb:=ZD hp [];rw [List.append_nil,if_pos rfl] at hb;unfold ER;rw [My hp];exact hb
theorem YS {l:List KV} {key:ByteArray} (h:Up l):LK l key=bld l key:=by unfold LK;rw [if_pos h]
theorem fX (j:Option Addr) (A A2:Option Addr) (m c m2 c2:Nat) (N:Int) (F:List KV) (key raw:ByteArray) (w:World) (hF:GV F) (hP:Prs w (.slice A2 m2 c2) F) :
  Calls qP 19 #[.agg #[.pointer j,.slice A m c,.slice A2 m2 c2,.int .i64 N],.string key,.string raw] w fun en w'=>en=.returned (.agg #[.int .i64 N,.string (if raw=⟨#[]⟩ then ER F key else raw)])∧Aa w w':=by
 by_cases hr:raw=⟨#[]⟩
 ·rw [if_pos hr]
  subst hr;have hp:=hF.plain key;exact Yn j A A2 m c m2 c2 N key (ER F key) (IJ (bld F key)).2 (bld F key) w
   (qH fun W hW=>(aO _ F key W (hP.below hW.below) (by have:=hF.len;omega)).mono fun en w' ⟨u,k1,k2,k3⟩=>by
     rw [YS hF.up] at k2;have k2':=k2;obtain⟨nv,pv,rfl,⟨B1,r1,rfl,_,_⟩,⟨B2,r2,rfl,_,_⟩⟩:=k2'
     exact⟨_,_,_,_,_,_,_,_,_,k1,k2,k3⟩)
   (qH fun W v _ hv=>jA _ v W hv (by have:=hp.near;omega) (by have:=hp.paths;omega) (fun q hq=>by have:=(hp.path q hq).1;omega))
 ·rw [if_neg hr]
  exact Ym j A A2 m c m2 c2 N key raw w hr
theorem YT (j:Nat) (id pr root:ByteArray) (h:Int) (p1 p2:ByteArray) (x:Pf) (e:Int) (b:Bool) (w:World)
  (OP:Hid (∀ W,Aa w W→Calls qP 54 #[.pointer (some ⟨j,0,none⟩),.string id,.agg #[.int .i64 h,.string pr]] W fun en w'=>∃ n pos there A1 m1 k1 A2 m2 k2,en=.returned (.tuple #[.string root,.agg #[.int .i64 n,.int .i64 pos,.bool there,.slice A1 m1 k1,.slice A2 m2 k2],.int .i64 e])∧Prf w' (.agg #[.int .i64 n,.int .i64 pos,.bool there,.slice A1 m1 k1,.slice A2 m2 k2]) x∧Aa W w'))
  (TL:Hid (∀ W n pos there A1 m1 k1 A2 m2 k2,Aa w W→Prf W (.agg #[.int .i64 n,.int .i64 pos,.bool there,.slice A1 m1 k1,.slice A2 m2 k2]) x→Calls qP 55 #[.string root,.agg #[.string p1,.string p2],.agg #[.int .i64 n,.int .i64 pos,.bool there,.slice A1 m1 k1,.slice A2 m2 k2]] W fun en w'=>en=.returned (.bool b)∧Aa W w')) :
  Calls qP 18 #[.pointer (some ⟨j,0,none⟩),.string id,.agg #[.int .i64 h,.string pr],.agg #[.string p1,.string p2]] w fun en w'=>en=.returned (.int .i64 (if e≠0 then e else if b=true then 0 else 11))∧Aa w w':=by
 obtain⟨ans,hr⟩:∃ y:Int,y=(if e≠0 then e else if b=true then 0 else 11):=⟨_,rfl⟩;rw [←hr];have HR:=qH hr;clear hr
 have z0:(w.alloc (.cells #[.int .i64 h,.string pr] 58)).heap.size=w.heap.size+1:=by simp
 have Q:=Blk.new (w.alloc (.cells #[.int .i64 h,.string pr] 58)) 36 #[.string p1,.string p2];rw [z0] at Q;have Q0:=qH Q;have A0:=qH ((Blk.new w 58 #[.int .i64 h,.string pr]).alloc (.cells #[.string p1,.string p2] 36));have S0:=qH (Ab (Ab (Aa.refl w) (.cells #[.int .i64 h,.string pr] 58)) (.cells #[.string p1,.string p2] 36));clear z0 Q;have a0:((w.alloc (.cells #[.int .i64 h,.string pr] 58)).alloc (.cells #[.string p1,.string p2] 36)).cell? ⟨w.heap.size,0,none⟩=some (.int .i64 h):=A0.out.c 0 rfl;have a1:((w.alloc (.cells #[.int .i64 h,.string pr] 58)).alloc (.cells #[.string p1,.string p2] 36)).cell? ⟨w.heap.size,1,none⟩=some (.string pr):=A0.out.c 1 rfl;go_enter Tryz.func18,Tryz.ntmps18
 go_wp2_with fail
 clear a0 a1;refine(OP.out _ S0.out).mono ?_;rintro en w1 ⟨n,pos,there,A1,m1,k1,A2,m2,k2,rfl,hP,q⟩;have B1:=qH (Blk.new w1 112 #[.int .i64 n,.int .i64 pos,.bool there,.slice A1 m1 k1,.slice A2 m2 k2]);have S1:=qH (Ab (Ac S0.out q) (.cells #[.int .i64 n,.int .i64 pos,.bool there,.slice A1 m1 k1,.slice A2 m2 k2] 112));have P1:=qH (hP.below ((Below.refl _ w1).alloc (Nat.le_refl _) (.cells #[.int .i64 n,.int .i64 pos,.bool there,.slice A1 m1 k1,.slice A2 m2 k2] 112)));have Q1:=qH ((Q0.out.next q.below).alloc (.cells #[.int .i64 n,.int .i64 pos,.bool there,.slice A1 m1 k1,.slice A2 m2 k2] 112));clear Q0;clear A0 S0 OP q hP;by_cases he:e=0
 ·subst he
  have y0:(w1.alloc (.cells #[.int .i64 n,.int .i64 pos,.bool there,.slice A1 m1 k1,.slice A2 m2 k2] 112)).cell? ⟨w1.heap.size,0,none⟩=some (.int .i64 n):=B1.out.c 0 rfl;have y1:(w1.alloc (.cells #[.int .i64 n,.int .i64 pos,.bool there,.slice A1 m1 k1,.slice A2 m2 k2] 112)).cell? ⟨w1.heap.size,1,none⟩=some (.int .i64 pos):=B1.out.c 1 rfl;have y2:(w1.alloc (.cells #[.int .i64 n,.int .i64 pos,.bool there,.slice A1 m1 k1,.slice A2 m2 k2] 112)).cell? ⟨w1.heap.size,2,none⟩=some (.bool there):=B1.out.c 2 rfl;have y3:(w1.alloc (.cells #[.int .i64 n,.int .i64 pos,.bool there,.slice A1 m1 k1,.slice A2 m2 k2] 112)).cell? ⟨w1.heap.size,3,none⟩=some (.slice A1 m1 k1):=B1.out.c 3 rfl;have y4:(w1.alloc (.cells #[.int .i64 n,.int .i64 pos,.bool there,.slice A1 m1 k1,.slice A2 m2 k2] 112)).cell? ⟨w1.heap.size,4,none⟩=some (.slice A2 m2 k2):=B1.out.c 4 rfl;have z0:(w1.alloc (.cells #[.int .i64 n,.int .i64 pos,.bool there,.slice A1 m1 k1,.slice A2 m2 k2] 112)).cell? ⟨w.heap.size+1,0,none⟩=some (.string p1):=Q1.out.c 0 rfl;have z1:(w1.alloc (.cells #[.int .i64 n,.int .i64 pos,.bool there,.slice A1 m1 k1,.slice A2 m2 k2] 112)).cell? ⟨w.heap.size+1,1,none⟩=some (.string p2):=Q1.out.c 1 rfl
  go_wp2_with fail
  refine(TL.out _ _ _ _ _ _ _ _ _ _ S1.out P1.out).mono ?_;rintro en w2 ⟨rfl,q⟩;have S2:=qH (Ac S1.out q);clear TL S1 P1 B1 q y0 y1 y2 y3 y4 Q1 z0 z1
  cases b with
  | true =>
    have hr:=HR.out;rw [if_neg (by simp),if_pos rfl] at hr;subst hr;clear HR;go_wp2
    go_ret
    exact⟨rfl,S2.out⟩
  | false =>
    have hr:=HR.out;rw [if_neg (by simp),if_neg (by simp)] at hr;subst hr;clear HR;go_wp2
    go_ret
    exact⟨rfl,S2.out⟩
 ·have heb:(e != 0)=true:=by rw [bne_iff_ne];exact he
  have hr:=HR.out;rw [if_pos he] at hr;subst hr;clear HR he TL B1 P1 Q1;go_wp2
  go_ret
  exact⟨rfl,S1.out⟩
theorem St (j:Nat) (id pr root:ByteArray) (h:Int) (p1:ByteArray) (x:Pf) (e:Int) (b:Bool) (w:World)
  (OP:Hid (∀ W,Aa w W→Calls qP 54 #[.pointer (some ⟨j,0,none⟩),.string id,.agg #[.int .i64 h,.string pr]] W fun en w'=>∃ n pos there A1 m1 k1 A2 m2 k2,en=.returned (.tuple #[.string root,.agg #[.int .i64 n,.int .i64 pos,.bool there,.slice A1 m1 k1,.slice A2 m2 k2],.int .i64 e])∧Prf w' (.agg #[.int .i64 n,.int .i64 pos,.bool there,.slice A1 m1 k1,.slice A2 m2 k2]) x∧Aa W w'))
  (TL:Hid (∀ W n pos there A1 m1 k1 A2 m2 k2,Aa w W→Prf W (.agg #[.int .i64 n,.int .i64 pos,.bool there,.slice A1 m1 k1,.slice A2 m2 k2]) x→Calls qP 58 #[.string root,.string p1,.agg #[.int .i64 n,.int .i64 pos,.bool there,.slice A1 m1 k1,.slice A2 m2 k2]] W fun en w'=>en=.returned (.bool b)∧Aa W w')) :
  Calls qP 20 #[.pointer (some ⟨j,0,none⟩),.string id,.agg #[.int .i64 h,.string pr],.string p1] w fun en w'=>en=.returned (.int .i64 (if e≠0 then e else if b=true then 0 else 11))∧Aa w w':=by
 obtain⟨ans,hr⟩:∃ y:Int,y=(if e≠0 then e else if b=true then 0 else 11):=⟨_,rfl⟩;rw [←hr];have HR:=qH hr;clear hr;have A0:=qH (Blk.new w 58 #[.int .i64 h,.string pr]);have S0:=qH (Ab (Aa.refl w) (.cells #[.int .i64 h,.string pr] 58));have a0:(w.alloc (.cells #[.int .i64 h,.string pr] 58)).cell? ⟨w.heap.size,0,none⟩=some (.int .i64 h):=A0.out.c 0 rfl;have a1:(w.alloc (.cells #[.int .i64 h,.string pr] 58)).cell? ⟨w.heap.size,1,none⟩=some (.string pr):=A0.out.c 1 rfl;go_enter Tryz.func20,Tryz.ntmps20
 go_wp2_with fail
 clear a0 a1;refine(OP.out _ S0.out).mono ?_;rintro en w1 ⟨n,pos,there,A1,m1,k1,A2,m2,k2,rfl,hP,q⟩;have B1:=qH (Blk.new w1 112 #[.int .i64 n,.int .i64 pos,.bool there,.slice A1 m1 k1,.slice A2 m2 k2]);have S1:=qH (Ab (Ac S0.out q) (.cells #[.int .i64 n,.int .i64 pos,.bool there,.slice A1 m1 k1,.slice A2 m2 k2] 112));have P1:=qH (hP.below ((Below.refl _ w1).alloc (Nat.le_refl _) (.cells #[.int .i64 n,.int .i64 pos,.bool there,.slice A1 m1 k1,.slice A2 m2 k2] 112)));clear A0 S0 OP q hP;by_cases he:e=0
 ·subst he
  have y0:(w1.alloc (.cells #[.int .i64 n,.int .i64 pos,.bool there,.slice A1 m1 k1,.slice A2 m2 k2] 112)).cell? ⟨w1.heap.size,0,none⟩=some (.int .i64 n):=B1.out.c 0 rfl;have y1:(w1.alloc (.cells #[.int .i64 n,.int .i64 pos,.bool there,.slice A1 m1 k1,.slice A2 m2 k2] 112)).cell? ⟨w1.heap.size,1,none⟩=some (.int .i64 pos):=B1.out.c 1 rfl;have y2:(w1.alloc (.cells #[.int .i64 n,.int .i64 pos,.bool there,.slice A1 m1 k1,.slice A2 m2 k2] 112)).cell? ⟨w1.heap.size,2,none⟩=some (.bool there):=B1.out.c 2 rfl;have y3:(w1.alloc (.cells #[.int .i64 n,.int .i64 pos,.bool there,.slice A1 m1 k1,.slice A2 m2 k2] 112)).cell? ⟨w1.heap.size,3,none⟩=some (.slice A1 m1 k1):=B1.out.c 3 rfl;have y4:(w1.alloc (.cells #[.int .i64 n,.int .i64 pos,.bool there,.slice A1 m1 k1,.slice A2 m2 k2] 112)).cell? ⟨w1.heap.size,4,none⟩=some (.slice A2 m2 k2):=B1.out.c 4 rfl
  go_wp2_with fail
  refine(TL.out _ _ _ _ _ _ _ _ _ _ S1.out P1.out).mono ?_;rintro en w2 ⟨rfl,q⟩;have S2:=qH (Ac S1.out q);clear TL S1 P1 B1 q y0 y1 y2 y3 y4
  cases b with
  | true =>
    have hr:=HR.out;rw [if_neg (by simp),if_pos rfl] at hr;subst hr;clear HR;go_wp2
    go_ret
    exact⟨rfl,S2.out⟩
  | false =>
    have hr:=HR.out;rw [if_neg (by simp),if_neg (by simp)] at hr;subst hr;clear HR;go_wp2
    go_ret
    exact⟨rfl,S2.out⟩
 ·have heb:(e != 0)=true:=by rw [bne_iff_ne];exact he
  have hr:=HR.out;rw [if_pos he] at hr;subst hr;clear HR he TL B1 P1;go_wp2
  go_ret
  exact⟨rfl,S1.out⟩
section
variable {w:World} {S:Nat→Prop} {j m:Nat} {Lv:List (List KV)} {L:List KV}
theorem YU (hJ:Jr w S j Lv L m) (hs:BD L) (hL:ED w) (hr:Ba w) (id:ByteArray) (hid:id.size≤1000000) (h:Int) (pr:ByteArray) (hpr:pr.size≤9223372036854775807) (p:KV) :
  Calls qP 18 #[.pointer (some ⟨j,0,none⟩),.string id,.agg #[.int .i64 h,.string pr],.agg #[.string p.1,.string p.2]] w fun en w'=>en=.returned (.int .i64 (QW L id h pr p))∧Aa w w':=by
 have OP:=qH (fun W hW=>MV hJ hs hL id hid h pr hpr W hW);obtain⟨hI,hq⟩:=cOpen_holds L id h pr;unfold QW
 exact YT j id pr (AX L id h pr).1.2 h p.1 p.2 (AX L id h pr).1.1 (AX L id h pr).2 (OH (AX L id h pr).1.2.data.toList p (AX L id h pr).1.1) w OP (qH fun W n pos there A1 m1 k1 A2 m2 k2 hW hp=>by
  have k:=kQ (AX L id h pr).1.2.data.toList p _ _ W hp (hr.since hW) hI.n1 hq;rw [Ch] at k
  exact k)
theorem LQ (hJ:Jr w S j Lv L m) (hs:BD L) (hL:ED w) (hr:Ba w) (id:ByteArray) (hid:id.size≤1000000) (h:Int) (pr:ByteArray) (hpr:pr.size≤9223372036854775807) (key:ByteArray) :
  Calls qP 20 #[.pointer (some ⟨j,0,none⟩),.string id,.agg #[.int .i64 h,.string pr],.string key] w fun en w'=>en=.returned (.int .i64 (Ga L id h pr key))∧Aa w w':=by
 have OP:=qH (fun W hW=>MV hJ hs hL id hid h pr hpr W hW);obtain⟨hI,hq⟩:=cOpen_holds L id h pr;unfold Ga
 exact St j id pr (AX L id h pr).1.2 h key (AX L id h pr).1.1 (AX L id h pr).2 (CC (AX L id h pr).1.2.data.toList key (AX L id h pr).1.1) w OP (qH fun W n pos there A1 m1 k1 A2 m2 k2 hW hp=>by
  have k:=eY (AX L id h pr).1.2.data.toList key _ _ W hp (hr.since hW) hI.n1 hq;rw [Ch] at k
  exact k)
end
structure NS (d:DR):Prop where
 raw:d.raw.size≤3000
 key:d.key.size≤300
 id:d.id.size≤100
 p1:d.p1.size≤150
 p2:d.p2.size≤300
 chain:d.h.chain.size≤100
 root:d.h.root.size≤100
theorem dA {w:World} {S:Nat→Prop} {j m:Nat} {L:List KV} {W:World} {A:Option Addr} {q r:Nat} {v:Value} (hJ:Jr w S j [] L m) (hW:Aa w W) (oA:∀ g,(Value.slice A q r).ownBlock=some g→¬S g) (h:v=.slice A q r∨∀ g,v.ownBlock=some g→W.heap.size≤g):∀ g,v.ownBlock=some g→¬S g:=fun g e hs=>by
 rcases h with h|h
 ·rw [h] at e
  exact oA g e hs
 ·have h1:=h g e
  have h2:=hJ.bound g hs;have h3:=hW.below.size
  omega
theorem doC (w:World) (E:Fit w) (S:Nat→Prop) (j m:Nat) (L F:List KV) (A A2:Option Addr) (q r q2 r2 k:Nat) (d:DR) (hd:NS d) (hG:Jc L k) (hk:k≤1000) (hFar:GV F) (hm:m+100≤1000000000)
  (hJ:Jr w S j [] L m) (hP:Prs w (.slice A q r) L) (hF:Prs w (.slice A2 q2 r2) F) (oA:∀ g,(Value.slice A q r).ownBlock=some g→¬S g) (oF:Eg S (.slice A2 q2 r2) F) :
  ∃ L' m',Jc L' (k+1)∧m'≤m+14∧Calls qP 10 #[wdV j A q r A2 q2 r2 1,.agg d.cells] w (DE w S j L' m' F A2 q2 r2):=by
 obtain⟨kd,id,⟨c,a,b,rt,mc⟩,key,raw,p1,p2,ht⟩:=d;obtain⟨h1,h2,h3,h4,h5,h6,h7⟩:=hd;simp only at h1 h2 h3 h4 h5 h6 h7;have hu:=hJ.up;have hl:=hG.len;have AT:=qH (fun W (hW:Aa w W)=>fX (some ⟨j,0,none⟩) A A2 q r q2 r2 1 F p1 ⟨#[]⟩ W hFar (hF.below hW.below));obtain⟨pr,hpr⟩:∃ pr,pr=if raw=⟨#[]⟩ then ER F p1 else raw:=⟨_,rfl⟩
 have hps:pr.size≤9223372036854775807:=by
  rw [hpr]
  split
  ·exact Ho hFar _
  ·omega
 have RU:∀(rw':ByteArray),rw'.size≤60000→∀ W,Aa w W→Calls qP 28 #[.slice A q r,.string id,.string rw'] W fun en w'=>∃ B x y,en=.returned (.tuple #[.slice B x y,.int .i64 (GJ L id rw').2])∧Prs w' (.slice B x y) (GJ L id rw').1∧Aa W w'∧∀ g,(Value.slice B x y).ownBlock=some g→¬S g:=fun rw' hrw W hW =>
  (TE (hP.below hW.below) hu (by omega) hG.sized id (by omega) rw' (by omega)).mono fun en w' ⟨v,k1,k2,k3,k4⟩=>by
    have k2':=k2;obtain⟨B,y,rfl,_,_⟩:=k2';exact⟨B,_,y,k1,k2,k3,dA hJ hW oA k4⟩
 have CU:∀(rw':ByteArray),rw'.size≤60000→∀ W,Aa w W→Calls qP 16 #[.pointer (some ⟨j,0,none⟩),.string id,.string rw'] W fun en w'=>en=.returned (.int .i64 (GJ L id rw').2)∧Jm W S j [] (GJ L id rw').1 (m+14) w':=fun rw' hrw W hW =>
  cZ (hJ.below hW.below) hG.sized (E.since hW) id rw' (by omega) hrw (hG.clt id) hm
 by_cases e0:kd=0
 ·subst e0
  have hrw:(Ef key ⟨c,a,b,rt,mc⟩).size≤60000:=by have:=Qp (key:=key) (h:=⟨c,a,b,rt,mc⟩) (by simp only;omega) (by simp only;omega);omega
  exact⟨(GJ L id (Ef key ⟨c,a,b,rt,mc⟩)).1,m+14,Qq hG (by omega) hrw,Nat.le_refl _,do0 w S j m (m+14) L _ F A A2 q r q2 r2 id c a b rt mc key raw p1 p2 ht (ER F p1) pr hpr _ (Ef key ⟨c,a,b,rt,mc⟩) hJ hP hF oA oF AT (qH fun W _=>lB 0 id ⟨c,a,b,rt,mc⟩ key raw p1 p2 ht W (by omega)) (qH (RU _ hrw)) (qH (CU _ hrw))⟩
 ·by_cases e1:kd=1
  ·subst e1
   exact⟨(GJ L id raw).1,m+14,Qq hG (by omega) (by omega),Nat.le_refl _,do1 w S j m (m+14) L _ F A A2 q r q2 r2 id c a b rt mc key raw p1 p2 ht (ER F p1) pr hpr _ hJ hP hF oA oF AT (qH (RU _ (by omega))) (qH (CU _ (by omega)))⟩
  ·by_cases e2:kd=2
   ·subst e2
    exact⟨L,m,hG.more,by omega,do2 w S j m m L L F A A2 q r q2 r2 id c a b rt mc key raw p1 p2 ht (ER F p1) pr hpr (QW L id ht pr (p1,p2)) ⟨rfl,rfl⟩ hJ hP hF oA oF AT (qH fun W hW=>YU (hJ.below hW.below) hG.sized (E.since hW).play (E.since hW).roots id (by omega) ht pr hps (p1,p2)) (qH fun W hW=>eZ (hP.below hW.below) hu (by omega) hG.sized id (by omega) ht pr hps (p1,p2))⟩
   ·by_cases e3:kd=3
    ·subst e3
     exact⟨L,m,hG.more,by omega,do3 w S j m m L L F A A2 q r q2 r2 id c a b rt mc key raw p1 p2 ht (ER F p1) pr hpr (Ga L id ht pr p1) ⟨rfl,rfl⟩ hJ hP hF oA oF AT (qH fun W hW=>LQ (hJ.below hW.below) hG.sized (E.since hW).play (E.since hW).roots id (by omega) ht pr hps p1) (qH fun W hW=>XT (hP.below hW.below) hu (by omega) hG.sized id (by omega) ht pr hps p1)⟩
    ·by_cases e4:kd=4
     ·subst e4
      exact⟨(IK L key raw).1.1,m+14,YR hG (by omega) (by omega),Nat.le_refl _,do4 w S j m (m+14) L _ F A A2 q r q2 r2 id c a b rt mc key raw p1 p2 ht (ER F p1) pr hpr _ (IK L key raw).1.2 hJ hP hF oA oF AT (qH fun W hW=>(TC (hP.below hW.below) hu (by omega) hG.sized key raw (by omega)).mono fun en w' ⟨v,k1,k2,k3,k4⟩=>by
        have k2':=k2;obtain⟨B,y,rfl,_,_⟩:=k2'
        exact⟨B,_,y,k1,k2,k3,dA hJ hW oA k4⟩) (qH fun W hW=>cY (hJ.below hW.below) hG.sized (E.since hW) key raw (by omega) (by omega) (by have:=hG.cnt;omega) hm)⟩
     ·exact⟨L,m,hG.more,by omega,do5 w S j m m L L F A A2 q r q2 r2 id c a b rt mc key raw p1 p2 ht (ER F p1) pr hpr kd (by omega) (Dn L id ht).2 (Dn L id ht).1.time (Dn L id ht).1.root ⟨rfl,rfl⟩ hJ hP hF oA oF AT (qH fun W hW=>YK (hJ.below hW.below) hG.sized (E.since hW).play id (by omega) ht) (qH fun W hW=>Ro (hP.below hW.below) hu (by omega) hG.sized id (by omega) ht)⟩
theorem VM:Up Bq:=FP (FP List.Pairwise.nil)
theorem Sv:Bq.length≤2:=Nat.le_trans (CJ _) (by have:=CJ (k:=Ce) (v:=bs (Ag 1).1) [];simp at this ⊢;omega)
theorem Er:BD Bq:=BD.set (BD.set (fun p hp=>by cases hp) (by decide +kernel) (by decide +kernel)) (by decide +kernel) (by decide +kernel)
def jP (w:World) (S:Nat→Prop) (j mm:Nat) (t:Int) (r:ByteArray):Prop:=∀ W,Aa w W→Calls qP 16 #[.pointer (some ⟨j,0,none⟩),.string cId,.string (Ef cK (EP 1 t r))] W fun en w'=>en=.returned (.int .i64 0)∧Jm W S j [] (Cq t r) (mm+14) w'
theorem gA (j mm:Nat) (S:Nat→Prop) (A Al:Option Addr) (m c cl:Nat) (t:Int) (l:List KV) (w:World) (hl:l.length≤1000) (hmm:mm+14≤1000000000) (hJ:Jr w S j [] Bq mm) (ht:0≤t) (ht2:t≤9007199254740992)
  (hP:Prs w (.slice A m c) Bq) (hn:∀ g,(Value.slice A m c).ownBlock=some g→¬S g) (hL:Prs w (.slice Al l.length cl) l)
  (CU:jP w S j mm t (bs (Bl (AY l)))) :
  Calls qP 9 #[wdV j A m c none 0 0 0,.slice Al l.length cl,.int .i64 t] w (EN w S j (Cq t (bs (Bl (AY l)))) (mm+14) (AY l) 1):=by
 have hr:(bs (Bl (AY l))).size≤65536:=by rw [Aw,show(Bl (AY l)).length=32 from Bc _];decide
 have hb:=TY (n:=1) (t:=t) (r:=bs (Bl (AY l))) (by decide) (by decide) ht ht2 hr;obtain⟨g1,_,g3,_⟩:=Mj cK _ hb
 have hraw:(Ef cK (EP 1 t (bs (Bl (AY l))))).size≤9223372036854775807:=by
  unfold Ef;rw [Aw];have h1:=Iy (AO cK (EP 1 t (bs (Bl (AY l))))).1;have h2:=AF (AO cK (EP 1 t (bs (Bl (AY l))))).1.mac;have h3:=AZ (Br (AO cK (EP 1 t (bs (Bl (AY l))))).1) (Ai (AO cK (EP 1 t (bs (Bl (AY l))))).1.mac);unfold Gk
  omega
 have hu:=cU ht ht2 hr;have hb0:=hJ.bound;refine Qi j mm S A none Al m c 0 0 cl 0 t l Bq (Cq t (bs (Bl (AY l)))) (bs (Bl (AY l))) (Ef cK (EP 1 t (bs (Bl (AY l))))) (AO cK (EP 1 t (bs (Bl (AY l))))).1.chain (AO cK (EP 1 t (bs (Bl (AY l))))).1.height (AO cK (EP 1 t (bs (Bl (AY l))))).1.time (AO cK (EP 1 t (bs (Bl (AY l))))).1.root (AO cK (EP 1 t (bs (Bl (AY l))))).1.mac w hl (by decide) (by decide) hmm hJ hL (qH fun k hk W B q r hW hp=>?_) (qH fun W B q r hW hp=>?_) (qH fun W _=>?_) (qH fun W _=>?_) (qH fun W hW=>?_) (qH fun W hW=>CU W hW)
 ·rw [Yt hk]
  have hf:=NL (l.take k)
  have h1:(AY (l.take k)).length≤1000:=by rw [List.length_take] at hf;omega
  refine(Hd _ _ l[k].1 l[k].2 W hp (Yu _) (by omega)).mono fun en w' ⟨v,h2,h3,h4,h5⟩=>?_;have h3':=h3;obtain⟨B',r',rfl,_,_⟩:=h3';exact⟨_,_,_,h2,h3,h4,fun g hg hs=>by have:=h5 g hg;have:=hW.below.size;have:=hb0 g hs;omega⟩
 ·have hf:=NL l
  refine(eK (AY l) _ W hp (by omega)).mono fun en w' ⟨u,h2,h3⟩=>?_;obtain⟨C,x,rfl,_⟩:=Db h3.1;exact⟨C,_,x,h2,Ad h3.below⟩
 ·have k:=WO cK (EP 1 t (bs (Bl (AY l)))) W (by decide)
  unfold Bu at k;rw [g1] at k;exact k
 ·have k:=cG (AO cK (EP 1 t (bs (Bl (AY l))))).1 W
  unfold AP at k;rw [g3] at k;exact k
 ·refine(TE (hP.below hW.below) VM (by have:=Sv;omega) Er cId (by decide) (Ef cK (EP 1 t (bs (Bl (AY l))))) hraw).mono fun en w' ⟨v,h1,h2,h3,h4⟩=>?_
  rw [hu] at h1 h2;have h2':=h2;obtain⟨B',r',rfl,_,_⟩:=h2';refine⟨_,_,_,h1,h2,h3,fun g hg hs=>?_⟩
  rcases h4 with h4|h4
  ·rw [h4] at hg;exact hn g hg hs
  ·have:=h4 g hg;have:=hW.below.size;have:=hb0 g hs;omega
theorem Qu (w:World) (E:Fit w):Calls qP 8 #[] w (Hm w):=by
 refine aT w (qH fun W S j hW hJ=>?_) (qH fun W=>?_)
 ·have k:=cY hJ (fun p hp=>by cases hp) (E.since hW) CX cK (by decide) (by decide) (by rw [show AL []=0 from Kd];decide) (by decide)
  rw [MS] at k;exact k
 ·have k:=TC (s:=.slice none 0 0) (L:=[]) (w:=W) (Prs.nil _ _ _) List.Pairwise.nil (by decide) (fun p hp=>by cases hp) CX cK (by decide)
  rw [MS] at k;refine k.mono fun en w' ⟨v,h1,h2,h3,h4⟩=>?_;have h2':=h2;obtain⟨B,r,rfl,_,_⟩:=h2';refine⟨B,_,r,h1,h2,h3,fun g hg=>?_⟩
  rcases h4 with h4|h4
  ·rw [h4] at hg;simp [Value.ownBlock] at hg
  ·exact h4 g hg
theorem Ui (j mm:Nat) (S:Nat→Prop) (A Al:Option Addr) (m c cl:Nat) (t:Int) (l:List KV) (w:World) (E:Fit w) (hl:l.length≤1000) (hmm:mm+100≤1000000000) (hJ:Jr w S j [] Bq mm) (ht:0≤t) (ht2:t≤9007199254740992)
  (hP:Prs w (.slice A m c) Bq) (hn:∀ g,(Value.slice A m c).ownBlock=some g→¬S g) (hL:Prs w (.slice Al l.length cl) l) :
  Calls qP 9 #[wdV j A m c none 0 0 0,.slice Al l.length cl,.int .i64 t] w (EN w S j (Cq t (bs (Bl (AY l)))) (mm+14) (AY l) 1):=by
 refine gA j mm S A Al m c cl t l w hl (by omega) hJ ht ht2 hP hn hL fun W hW=>?_
 have hr:(bs (Bl (AY l))).size=32:=by rw [Aw];exact Bc _
 have hu:=cU ht ht2 (show(bs (Bl (AY l))).size≤65536 by omega);have k:=cZ (hJ.below hW.below) Er (E.since hW) cId (Ef cK (EP 1 t (bs (Bl (AY l))))) (by decide) (by have:=Qp (key:=cK) (h:=EP 1 t (bs (Bl (AY l)))) (by show CX.size≤1000;decide) (by show(bs (Bl (AY l))).size≤1000;omega);omega) (fun _=>by rw [Yr];exact⟨by show CX.size≤1000;decide,by show cK.size≤60000;decide,by decide,by decide⟩) (by omega);rw [hu] at k;exact k
structure VN (w:World) (b j:Nat) (L F:List KV) (m:Nat) (A A2:Option Addr) (q r q2 r2:Nat) (W:World):Prop where
 bx:Blk W b 29 #[.pointer (some ⟨j,0,none⟩),.slice A q r,.slice A2 q2 r2,.int .i64 1]
 jr:∃ S,Jr W S j [] L m
 far:Prs W (.slice A2 q2 r2) F
 sn:Aa w W
theorem VN.next {w:World} {b j:Nat} {L F:List KV} {m:Nat} {A A2:Option Addr} {q r q2 r2:Nat} {W W':World} (h:VN w b j L F m A A2 q r q2 r2 W) (k:Aa W W'):VN w b j L F m A A2 q r q2 r2 W' :=
 ⟨h.bx.next k.below,h.jr.elim fun S hS=>⟨S,hS.below k.below⟩,h.far.below k.below,Ac h.sn k⟩
theorem VN.put {w V w2:World} {b j:Nat} {L F:List KV} {m:Nat} {A A0 A1 A2:Option Addr} {q r q0 r0 q1 r1 q2 r2:Nat} {N0:Int} {S S':Nat→Prop} (hV:Aa w V) (hB:Blk V b 29 #[.pointer (some ⟨j,0,none⟩),.slice A0 q0 r0,.slice A1 q1 r1,.int .i64 N0]) (hwb:w.heap.size≤b) (hb:¬S b) (hS:∀ i,S i→w.heap.size≤i)
  (hJ:Jr w2 S' j [] L m) (hF:Prs w2 (.slice A2 q2 r2) F) (hk:At S V w2) (hg:AR S S' V) :
  Blk w2 b 29 #[.pointer (some ⟨j,0,none⟩),.slice A0 q0 r0,.slice A1 q1 r1,.int .i64 N0] ∧
  VN w b j L F m A A2 q r q2 r2 ((((w2.setCell ⟨b,0,none⟩ (.pointer (some ⟨j,0,none⟩))).setCell ⟨b,1,none⟩ (.slice A q r)).setCell ⟨b,2,none⟩ (.slice A2 q2 r2)).setCell ⟨b,3,none⟩ (.int .i64 1)):=by
 have hB2:=hk.blk hB hb;have h1:Aa w w2:=Ad (hV.below.trans (hk.below hV.below.size hS));exact⟨hB2,put4 hB2 _ _ _ _,⟨S',hJ.put4 hB2 (by decide) (hg.not hB.lt hb) _ _ _ _⟩,hF.put4 hB2 _ _ _ _,Bv h1 hwb _ _ _ _⟩
theorem Sw (w:World) (L1 F:List KV) (m:Nat) (x2:ByteArray) (p1 p2:ByteArray) (y1 y2:ByteArray) (y3:Int) (y4:Bool) (n1:Int) (n2:ByteArray)
  (BG:Hid (Calls qP 8 #[] w (Hm w)))
  (TL:Hid (∀ W S j B q r b,Aa w W→Jr W S j [] Bq 14→Prs W (.slice B q r) Bq→(∀ g,(Value.slice B q r).ownBlock=some g→¬S g)→Blk W b 36 #[.string ⟨#[97]⟩,.string ⟨#[49]⟩]→Calls qP 9 #[wdV j B q r none 0 0 0,.slice (some ⟨b,0,none⟩) 1 1,.int .i64 5] W (EN W S j L1 m F 1)))
  (SE:Hid (∀ W S j,Aa w W→Jr W S j [] L1 m→Calls qP 21 #[.pointer (some ⟨j,0,none⟩),.string ⟨#[99,108,105,101,110,116,45,48]⟩,.int .i64 1] W fun e w'=>e=.returned (.tuple #[.agg #[.int .i64 5,.string x2],.int .i64 0])∧Aa W w'))
  (GT:Hid (∀ W S j,Aa w W→Jr W S j [] L1 m→Calls qP 11 #[.pointer (some ⟨j,0,none⟩),.string ⟨#[99,108,105,101,110,116,45,48]⟩] W fun e w'=>e=.returned (.tuple #[.agg #[.string ⟨#[111,116,104,101,114]⟩,.string ⟨#[107]⟩,.int .i64 1,.bool false],.int .i64 0])∧Aa W w'))
  (A1:Hid (∀ W j A q r A2 q2 r2,Aa w W→Prs W (.slice A2 q2 r2) F→Calls qP 19 #[wdV j A q r A2 q2 r2 1,.string ⟨#[97]⟩,.string ⟨#[]⟩] W fun e w'=>e=.returned (.agg #[.int .i64 1,.string p1])∧Aa W w'))
  (A2:Hid (∀ W j A q r A2 q2 r2,Aa w W→Prs W (.slice A2 q2 r2) F→Calls qP 19 #[wdV j A q r A2 q2 r2 1,.string ⟨#[98]⟩,.string ⟨#[]⟩] W fun e w'=>e=.returned (.agg #[.int .i64 1,.string p2])∧Aa W w'))
  (HS:Hid (∀ W S j,Aa w W→Jr W S j [] L1 m→Calls qP 18 #[.pointer (some ⟨j,0,none⟩),.string ⟨#[99,108,105,101,110,116,45,48]⟩,.agg #[.int .i64 1,.string p1],.agg #[.string ⟨#[97]⟩,.string ⟨#[49]⟩]] W fun e w'=>e=.returned (.int .i64 0)∧Aa W w'))
  (LB:Hid (∀ W S j,Aa w W→Jr W S j [] L1 m→Calls qP 20 #[.pointer (some ⟨j,0,none⟩),.string ⟨#[99,108,105,101,110,116,45,48]⟩,.agg #[.int .i64 1,.string p2],.string ⟨#[98]⟩] W fun e w'=>e=.returned (.int .i64 0)∧Aa W w'))
  (LA:Hid (∀ W S j,Aa w W→Jr W S j [] L1 m→Calls qP 20 #[.pointer (some ⟨j,0,none⟩),.string ⟨#[99,108,105,101,110,116,45,48]⟩,.agg #[.int .i64 1,.string p1],.string ⟨#[97]⟩] W fun e w'=>e=.returned (.int .i64 11)∧Aa W w'))
  (SF:Hid (∀ W S j,Aa w W→Jr W S j [] L1 m→Calls qP 21 #[.pointer (some ⟨j,0,none⟩),.string ⟨#[99,108,105,101,110,116,45,48]⟩,.int .i64 2] W fun e w'=>e=.returned (.tuple #[.agg #[.int .i64 n1,.string n2],.int .i64 13])∧Aa W w'))
  (GU:Hid (∀ W S j,Aa w W→Jr W S j [] L1 m→Calls qP 11 #[.pointer (some ⟨j,0,none⟩),.string ⟨#[99,108,105,101,110,116,45,49]⟩] W fun e w'=>e=.returned (.tuple #[.agg #[.string y1,.string y2,.int .i64 y3,.bool y4],.int .i64 8])∧Aa W w'))
  (NW:Hid (∀ W j,Aa w W→Calls qP 23 #[.pointer (some ⟨j,0,none⟩),.string ⟨#[97,47,98]⟩,.string ⟨#[]⟩] W fun e w'=>e=.returned (.tuple #[.string ⟨#[]⟩,.int .i64 7])∧Aa W w'))
  (hx:x2.size=32) :
  Calls qP 7 #[] w fun e w'=>e=.returned (.bool true)∧Aa w w':=by
 go_enter Tryz.func7,Tryz.ntmps7
 go_wp2_with fail
 refine BG.out.mono ?_;rintro e w1 ⟨S,j,B,q,r,rfl,⟨hJ,hT⟩,hP,hS,hn⟩;have J1:=qH (And.intro hJ (And.intro hT (And.intro hP (And.intro hS hn))));have X1:=qH (Blk.new w1 29 #[.pointer (some ⟨j,0,none⟩),.slice B q r,.slice none 0 0,.int .i64 0])
 have z1:(w1.alloc (.cells #[.pointer (some ⟨j,0,none⟩),.slice B q r,.slice none 0 0,.int .i64 0] 29)).heap.size=w1.heap.size+1:=by simp
 have Y:=Blk.new (w1.alloc (.cells #[.pointer (some ⟨j,0,none⟩),.slice B q r,.slice none 0 0,.int .i64 0] 29)) 36 #[.string ⟨#[97]⟩,.string ⟨#[49]⟩];rw [z1] at Y;have Y2:=qH Y;have X2:=qH (X1.out.alloc (.cells #[.string ⟨#[97]⟩,.string ⟨#[49]⟩] 36));have Q2:=qH (Ab (Ab (Aa.refl w1) (.cells #[.pointer (some ⟨j,0,none⟩),.slice B q r,.slice none 0 0,.int .i64 0] 29)) (.cells #[.string ⟨#[97]⟩,.string ⟨#[49]⟩] 36));have nb:=qH (show ¬S w1.heap.size from fun h=>by have:=hJ.bound _ h;omega);clear BG hJ hT hP hS hn Y z1 X1
 go_wp2_with fail
 refine(TL.out _ S j B q r _ (Ac J1.out.2.2.2.1 Q2.out) (J1.out.1.below Q2.out.below) (J1.out.2.2.1.below Q2.out.below) J1.out.2.2.2.2 Y2.out).mono ?_;rintro e w2 ⟨S',B',q',r',B2,q2,r2,rfl,hJ2,hP2,hF2,hk,hg,hoA,hoF⟩;have HA:=qH (VN.put (A:=B') (q:=q') (r:=r') (Ac J1.out.2.2.2.1 Q2.out) X2.out J1.out.2.2.2.1.below.size nb.out J1.out.2.1 hJ2 hF2 hk hg);clear TL J1 X2 Y2 Q2 nb hJ2 hP2 hF2 hk hg hoA hoF;have d0:=HA.out.1.c 0 (v:=.pointer (some ⟨j,0,none⟩)) rfl;have d1:=HA.out.1.c 1 (v:=.slice B q r) rfl;have d2:=HA.out.1.c 2 (v:=.slice none 0 0) rfl;have d3:=HA.out.1.c 3 (v:=.int .i64 0) rfl;have f0:=HA.out.1.frozen 0;have f1:=HA.out.1.frozen 1;have f2:=HA.out.1.frozen 2;have f3:=HA.out.1.frozen 3;have H3:=qH HA.out.2;clear HA;have u0:=H3.out.bx.c 0 (v:=.pointer (some ⟨j,0,none⟩)) rfl;generalize w1.heap.size=b1 at *
 go_wp2_with fail
 clear u0;refine(H3.out.jr.elim fun SS hSS=>SE.out _ SS j H3.out.sn hSS).mono ?_;rintro e w3 ⟨rfl,s3⟩;have H4:=qH (H3.out.next (Ab s3 (.cells #[.int .i64 5,.string x2] 62)));have X4:=qH (Blk.new w3 62 #[.int .i64 5,.string x2]);clear SE H3 s3;have u0:=H4.out.bx.c 0 (v:=.pointer (some ⟨j,0,none⟩)) rfl
 go_wp2_with fail
 clear u0;refine(H4.out.jr.elim fun SS hSS=>GT.out _ SS j H4.out.sn hSS).mono ?_;rintro e w4 ⟨rfl,s4⟩;have H5:=qH (H4.out.next (Ab s4 (.cells #[.string ⟨#[111,116,104,101,114]⟩,.string ⟨#[107]⟩,.int .i64 1,.bool false] 41)));have X5:=qH ((X4.out.next s4.below).alloc (.cells #[.string ⟨#[111,116,104,101,114]⟩,.string ⟨#[107]⟩,.int .i64 1,.bool false] 41));have C5:=qH (Blk.new w4 41 #[.string ⟨#[111,116,104,101,114]⟩,.string ⟨#[107]⟩,.int .i64 1,.bool false]);clear GT H4 X4 s4;go_wp2;generalize w4.alloc (.cells #[.string ⟨#[111,116,104,101,114]⟩,.string ⟨#[107]⟩,.int .i64 1,.bool false] 41)=V5 at *;generalize w3.heap.size=b3 at *;generalize w4.heap.size=b4 at *;have k0:=H5.out.bx.c 0 (v:=.pointer (some ⟨j,0,none⟩)) rfl;have k1:=H5.out.bx.c 1 (v:=.slice B' q' r') rfl;have k2:=H5.out.bx.c 2 (v:=.slice B2 q2 r2) rfl;have k3:=H5.out.bx.c 3 (v:=.int .i64 1) rfl;have r0:=Aa.refl V5;have AT:=qH (fun W (hW:Aa V5 W)=>(A1.out W j B' q' r' B2 q2 r2 (Ac H5.out.sn hW) (H5.out.far.below hW.below)).mono fun en w' (h:en=.returned _∧Aa W w')=>And.intro h.1 (Ac hW h.2));have HC:=qH (fun W (hW:Aa V5 W)=>(H5.out.jr.elim fun SS hSS=>HS.out W SS j (Ac H5.out.sn hW) (hSS.below hW.below)).mono fun en w' (h:en=.returned _∧Aa W w')=>And.intro h.1 (Ac hW h.2));clear HS
 go_region_held3 (fun W=>W.cell? ⟨b1,0,none⟩=some (.pointer (some ⟨j,0,none⟩))∧W.cell? ⟨b1,1,none⟩=some (.slice B' q' r')∧W.cell? ⟨b1,2,none⟩=some (.slice B2 q2 r2)∧W.cell? ⟨b1,3,none⟩=some (.int .i64 1))
  (first|exact⟨s3.cell k0,s3.cell k1,s3.cell k2,s3.cell k3⟩|exact⟨s4.cell k0,s4.cell k1,s4.cell k2,s4.cell k3⟩|go_keep)
  (first
    | (go_at_call 19;refine(AT.out _ (by exact r0)).mono ?_;clear AT;rintro en u5a ⟨rfl,s3⟩)
    | (go_at_call 18;refine(HC.out _ (by exact s3)).mono ?_;clear HC;rintro en u5b ⟨rfl,s4⟩))
 have H6:=qH (H5.out.next s4);have X6:=qH (X5.out.next s4.below);have C6:=qH (C5.out.next s4.below);clear H5 X5 C5 k0 k1 k2 k3 r0 s3 s4;go_wp2;have k0:=H6.out.bx.c 0 (v:=.pointer (some ⟨j,0,none⟩)) rfl;have k1:=H6.out.bx.c 1 (v:=.slice B' q' r') rfl;have k2:=H6.out.bx.c 2 (v:=.slice B2 q2 r2) rfl;have k3:=H6.out.bx.c 3 (v:=.int .i64 1) rfl;have r0:=Aa.refl u5b;have AT:=qH (fun W (hW:Aa u5b W)=>(A2.out W j B' q' r' B2 q2 r2 (Ac H6.out.sn hW) (H6.out.far.below hW.below)).mono fun en w' (h:en=.returned _∧Aa W w')=>And.intro h.1 (Ac hW h.2));have HC:=qH (fun W (hW:Aa u5b W)=>(H6.out.jr.elim fun SS hSS=>LB.out W SS j (Ac H6.out.sn hW) (hSS.below hW.below)).mono fun en w' (h:en=.returned _∧Aa W w')=>And.intro h.1 (Ac hW h.2));clear LB
 go_region_held3 (fun W=>W.cell? ⟨b1,0,none⟩=some (.pointer (some ⟨j,0,none⟩))∧W.cell? ⟨b1,1,none⟩=some (.slice B' q' r')∧W.cell? ⟨b1,2,none⟩=some (.slice B2 q2 r2)∧W.cell? ⟨b1,3,none⟩=some (.int .i64 1))
  (first|exact⟨s3.cell k0,s3.cell k1,s3.cell k2,s3.cell k3⟩|exact⟨s4.cell k0,s4.cell k1,s4.cell k2,s4.cell k3⟩|go_keep)
  (first
    | (go_at_call 19;refine(AT.out _ (by exact r0)).mono ?_;clear AT;rintro en u6a ⟨rfl,s3⟩)
    | (go_at_call 20;refine(HC.out _ (by exact s3)).mono ?_;clear HC;rintro en u6b ⟨rfl,s4⟩))
 have H7:=qH (H6.out.next s4);have X7:=qH (X6.out.next s4.below);have C7:=qH (C6.out.next s4.below);clear H6 X6 C6 k0 k1 k2 k3 r0 s3 s4;go_wp2;have k0:=H7.out.bx.c 0 (v:=.pointer (some ⟨j,0,none⟩)) rfl;have k1:=H7.out.bx.c 1 (v:=.slice B' q' r') rfl;have k2:=H7.out.bx.c 2 (v:=.slice B2 q2 r2) rfl;have k3:=H7.out.bx.c 3 (v:=.int .i64 1) rfl;have r0:=Aa.refl u6b;have AT:=qH (fun W (hW:Aa u6b W)=>(A1.out W j B' q' r' B2 q2 r2 (Ac H7.out.sn hW) (H7.out.far.below hW.below)).mono fun en w' (h:en=.returned _∧Aa W w')=>And.intro h.1 (Ac hW h.2));have HC:=qH (fun W (hW:Aa u6b W)=>(H7.out.jr.elim fun SS hSS=>LA.out W SS j (Ac H7.out.sn hW) (hSS.below hW.below)).mono fun en w' (h:en=.returned _∧Aa W w')=>And.intro h.1 (Ac hW h.2));clear LA
 go_region_held3 (fun W=>W.cell? ⟨b1,0,none⟩=some (.pointer (some ⟨j,0,none⟩))∧W.cell? ⟨b1,1,none⟩=some (.slice B' q' r')∧W.cell? ⟨b1,2,none⟩=some (.slice B2 q2 r2)∧W.cell? ⟨b1,3,none⟩=some (.int .i64 1))
  (first|exact⟨s3.cell k0,s3.cell k1,s3.cell k2,s3.cell k3⟩|exact⟨s4.cell k0,s4.cell k1,s4.cell k2,s4.cell k3⟩|go_keep)
  (first
    | (go_at_call 19;refine(AT.out _ (by exact r0)).mono ?_;clear AT;rintro en u7a ⟨rfl,s3⟩)
    | (go_at_call 20;refine(HC.out _ (by exact s3)).mono ?_;clear HC;rintro en u7b ⟨rfl,s4⟩))
 have H8:=qH (H7.out.next s4);have X8:=qH (X7.out.next s4.below);have C8:=qH (C7.out.next s4.below);clear H7 X7 C7 k0 k1 k2 k3 r0 s3 s4;have u0:=H8.out.bx.c 0 (v:=.pointer (some ⟨j,0,none⟩)) rfl
 go_wp2_with fail
 clear u0;refine(H8.out.jr.elim fun SS hSS=>SF.out _ SS j H8.out.sn hSS).mono ?_;rintro e w8 ⟨rfl,s8⟩;have H9:=qH (H8.out.next (Ab s8 (.cells #[.int .i64 n1,.string n2] 62)));have X9:=qH ((X8.out.next s8.below).alloc (.cells #[.int .i64 n1,.string n2] 62));have C9:=qH ((C8.out.next s8.below).alloc (.cells #[.int .i64 n1,.string n2] 62));clear SF H8 X8 C8 s8;have u0:=H9.out.bx.c 0 (v:=.pointer (some ⟨j,0,none⟩)) rfl
 go_wp2_with fail
 clear u0;refine(H9.out.jr.elim fun SS hSS=>GU.out _ SS j H9.out.sn hSS).mono ?_;rintro e w9 ⟨rfl,s9⟩;have H10:=qH (H9.out.next (Ab s9 (.cells #[.string y1,.string y2,.int .i64 y3,.bool y4] 41)));have X10:=qH ((X9.out.next s9.below).alloc (.cells #[.string y1,.string y2,.int .i64 y3,.bool y4] 41));have C10:=qH ((C9.out.next s9.below).alloc (.cells #[.string y1,.string y2,.int .i64 y3,.bool y4] 41));clear GU H9 X9 C9 s9;have u0:=H10.out.bx.c 0 (v:=.pointer (some ⟨j,0,none⟩)) rfl
 go_wp2_with fail
 clear u0;refine(NW.out _ j H10.out.sn).mono ?_;rintro e w10 ⟨rfl,s10⟩;have S11:=qH (Ac H10.out.sn s10);have X11:=X10.out.next s10.below;have C11:=C10.out.next s10.below;clear NW H10 X10 C10 s10;have q0:=X11.c 0 (v:=.int .i64 5) rfl;have q1:=X11.c 1 (v:=.string x2) rfl;have p0:=C11.c 0 (v:=.string ⟨#[111,116,104,101,114]⟩) rfl;have p1:=C11.c 1 (v:=.string ⟨#[107]⟩) rfl;have p2:=C11.c 2 (v:=.int .i64 1) rfl;have p3:=C11.c 3 (v:=.bool false) rfl;clear X11 C11
 have EQ:∀ W:World,(Op.equalIn 10000 41 (.agg #[.string ⟨#[111,116,104,101,114]⟩,.string ⟨#[107]⟩,.int .i64 1,.bool false]) (.agg #[.string ⟨#[111,116,104,101,114]⟩,.string ⟨#[107]⟩,.int .i64 1,.bool false])).run qP W=.ok true W:=fun W=>by rw [Ub];simp
 have GC:=Ua
 have hl:((x2.size:Nat):Int)=32:=by omega
 have hl2:(((x2.size:Nat):Int)==32)=true:=by rw [hl];rfl
 go_wp2
 go_ret
 exact⟨rfl,S11.out⟩
theorem Uj {L F:List KV} {id:ByteArray} {c:Clt} {x:Sn} {h:Int} (key:ByteArray) (hg:AA L id=(c,0)) (hf:c.frozen=false) (hs:Dn L id h=(x,0)) (hF:GV F):AX L id h (ER F key)=((bld F key,x.root),0):=by
 unfold AX;rw [hg,hs,VJ hF];simp only;rw [if_neg (by simp),if_neg (by simp [hf]),if_neg (by simp),if_neg (by simp)]
def wA:ByteArray:=⟨#[97]⟩
def wB:ByteArray:=⟨#[98]⟩
def Qv:ByteArray:=⟨#[49]⟩
def Fm:List KV:=AY [(wA,Qv)]
theorem NT:Fm=[(wA,Qv)]:=rfl
theorem Gi:GV Fm:=by
 rw [NT];exact⟨List.pairwise_singleton _ _,by decide,fun p hp=>by obtain rfl:=List.mem_singleton.1 hp;exact⟨by show wA.size≤60000;decide,by show Qv.size≤60000;decide⟩⟩
theorem YY:AD Fm wA=some Qv:=by rw [NT];decide
theorem gB:AD Fm wB=none:=by rw [NT];decide
theorem YZ {W:World} {b:Nat} {x y:ByteArray} (h:Blk W b 36 #[.string x,.string y]):Prs W (.slice (some ⟨b,0,none⟩) 1 1) [(x,y)] :=
 Prs.of_own (Jb W (B:=0) b (Nat.zero_le _) (x,y) h)
theorem gC (w:World) (hL:Lay w) (j:Nat):Calls qP 23 #[.pointer (some ⟨j,0,none⟩),.string ⟨#[97,47,98]⟩,.string ⟨#[]⟩] w fun e w'=>e=.returned (.tuple #[.string ⟨#[]⟩,.int .i64 7])∧Aa w w':=by
 have h0:ck 6 (⟨#[97,47,98]⟩:ByteArray).data.toList=7:=by decide +kernel
 exact YC j _ _ 7 (by decide) w (qH fun W hW=>h0▸(WY 6 ⟨#[97,47,98]⟩ W (hL.next hW.below) (by decide)).mono fun _ _ ⟨he,hb⟩=>⟨he,Ad hb⟩)
theorem NV {t:Int} {r:ByteArray} (hr:r.size≤60000):BD (Cq t r) :=
 BD.set (BD.set Er (by have:=Gh cId 1;have e:cId.size=8:=rfl;omega) (by have:=Kt t r;omega)) (by decide +kernel) (by decide +kernel)
theorem jQ:cId≠⟨#[99,108,105,101,110,116,45,49]⟩:=by decide
theorem bT (w:World) (E:Fit w):Calls qP 7 #[] w fun e w'=>e=.returned (.bool true)∧Aa w w':=by
 obtain⟨x2,hx2⟩:∃ x2,x2=bs (Bl Fm):=⟨_,rfl⟩
 have hsz:x2.size=32:=by rw [hx2,Aw];exact Bc _
 have hdat:x2.data.toList=Bl Fm:=by rw [hx2,Bs]
 have hg:=cV 5 x2;have hs:=jE (t:=5) (r:=x2) (by decide) (by decide) (by omega);have hz:=NV (t:=5) (r:=x2) (by omega);have ha:=Uj (h:=1) wA hg rfl hs Gi;have hb:=Uj (h:=1) wB hg rfl hs Gi;have hu:=Gi.up
 have h63:Fm.length<2 ^ 63:=by have:=Gi.len;omega
 have v1:QW (Cq 5 x2) cId 1 (ER Fm wA) (wA,Qv)=0:=by
  unfold QW;rw [ha];simp only;rw [if_neg (by simp),hdat,ZB hu h63 YY,if_pos rfl]
 have v2:Ga (Cq 5 x2) cId 1 (ER Fm wB) wB=0:=by
  unfold Ga;rw [hb];simp only;rw [if_neg (by simp),hdat,UD hu h63 gB,if_pos rfl]
 have v3:Ga (Cq 5 x2) cId 1 (ER Fm wA) wA=11:=by
  have hl:CC (Bl Fm) wA (bld Fm wA)=false:=by rw [II YY];simp [CC,OI]
  unfold Ga;rw [ha];simp only;rw [if_neg (by simp),hdat,hl,if_neg (by simp)]
 have v4:(Dn (Cq 5 x2) cId 2).2=13:=by
  refine TW hg ?_;unfold Cq;rw [Bw,if_neg (fun e=>Dv _ _ _ e.symm),Bw,if_neg (fun e=>absurd (Vw e).2 (by decide +kernel))];unfold Bq;rw [Bw,if_neg (fun e=>Dv _ _ _ e.symm),Bw,if_neg (Gg _ _)]
  rfl
 have v5:AA (Cq 5 x2) ⟨#[99,108,105,101,110,116,45,49]⟩=(Clt.zero,8):=by
  unfold AA Cq;rw [Bw,if_neg (fun e=>jQ (Ja e).symm),Bw,if_neg (Dv _ _ _)];unfold Bq;rw [Bw,if_neg (fun e=>jQ (Ja e).symm),Bw,if_neg (Hl _)]
  rfl
 refine Sw w (Cq 5 x2) Fm 28 x2 (ER Fm wA) (ER Fm wB) ⟨#[]⟩ ⟨#[]⟩ 0 false (Dn (Cq 5 x2) cId 2).1.time (Dn (Cq 5 x2) cId 2).1.root (qH (Qu w E))
  (qH fun W S j B q r b hW hJ hP hn hB=>?_) (qH fun W S j hW hJ=>?_) (qH fun W S j hW hJ=>?_)
  (qH fun W j A q r A2 q2 r2 hW hF=>fX _ A A2 q r q2 r2 1 Fm wA ⟨#[]⟩ W Gi hF) (qH fun W j A q r A2 q2 r2 hW hF=>fX _ A A2 q r q2 r2 1 Fm wB ⟨#[]⟩ W Gi hF)
  (qH fun W S j hW hJ=>?_) (qH fun W S j hW hJ=>?_) (qH fun W S j hW hJ=>?_) (qH fun W S j hW hJ=>?_) (qH fun W S j hW hJ=>?_) (qH fun W j hW=>gC W (E.since hW).lay j) hsz
 ·have k:=Ui j 14 S B (some ⟨b,0,none⟩) q r 1 5 [(wA,Qv)] W (E.since hW) (by simp) (by decide) hJ (by decide) (by decide) hP hn (YZ hB)
  rw [show AY [(wA,Qv)]=Fm from rfl,←hx2] at k;exact k
 ·have k:=YK hJ hz (E.since hW).play cId (by decide) 1
  rw [hs] at k;exact k
 ·have k:=Qn hJ hz (E.since hW).play cId (by decide)
  rw [hg] at k;exact k
 ·have k:=YU hJ hz (E.since hW).play (E.since hW).roots cId (by decide) 1 (ER Fm wA) (Ho Gi _) (wA,Qv)
  rw [v1] at k;exact k
 ·have k:=LQ hJ hz (E.since hW).play (E.since hW).roots cId (by decide) 1 (ER Fm wB) (Ho Gi _) wB
  rw [v2] at k;exact k
 ·have k:=LQ hJ hz (E.since hW).play (E.since hW).roots cId (by decide) 1 (ER Fm wA) (Ho Gi _) wA
  rw [v3] at k;exact k
 ·have k:=YK hJ hz (E.since hW).play cId (by decide) 2
  unfold Ck at k;rw [v4] at k;exact k
 ·have k:=Qn hJ hz (E.since hW).play ⟨#[99,108,105,101,110,116,45,49]⟩ (by decide)
  rw [v5] at k;exact k
end Go.Proofs.YtkejaepmoabikaaGreatDoor.W
namespace Go.Proofs.YtkejaepmoabikaaGreatDoor.W
theorem bU {l:List KV} {p:KV} (h:p ∈ AY l):p ∈ l:=by
 unfold AY at h
 suffices hs:∀(l s:List KV) (p:KV),p ∈ l.foldl (fun s p=>Az s p.1 p.2) s→p ∈ s∨p ∈ l by
  rcases hs l [] p h with h|h
  ·cases h
  ·exact h
 intro l
 induction l with
 | nil=>exact fun s p h=>.inl h
 | cons x l ih =>
   intro s p h
   rcases ih _ p h with h|h
   ·rcases Oz h with h|h
    ·exact .inr (by rw [h];exact List.mem_cons_self ..)
    ·exact .inl h
   ·exact .inr (List.mem_cons_of_mem _ h)
theorem jR {l:List KV} (h:l.length≤12) (hs:Dk l):GV (AY l) :=
 ⟨Yu l,by have:=NL l;omega,fun p hp=>by have:=hs p (bU hp);omega⟩
end Go.Proofs.YtkejaepmoabikaaGreatDoor.W
