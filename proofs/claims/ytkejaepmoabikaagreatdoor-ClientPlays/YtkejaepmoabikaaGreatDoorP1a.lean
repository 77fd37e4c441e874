import Derived.Deep.AppendLies
import Derived.OwnWalk
import Derived.Test.YtkejaepmoabikaaGreatDoorPSRefB
import Derived.Test.YtkejaepmoabikaaGreatDoorP0c
import Derived.Test.YtkejaepmoabikaaGreatDoorP0b
import Derived.Test.YtkejaepmoabikaaGreatDoorP0d
namespace Go.Proofs.YtkejaepmoabikaaGreatDoor.W
open Go.RowKit
open Lib renaming hid → qH
open _root_.Go.Proofs.Tryz renaming prog → qP
set_option maxHeartbeats 4000000
set_option maxRecDepth 100000
def Kh (p:List UInt8) (w:World) (H k:Nat) (wr:World):Prop:=Blk wr H 189 (wv (Gw p k))∧Below w.heap.size w wr∧w.heap.size≤H
theorem Kh.start (p:List UInt8) (w w3:World) (h:Below w.heap.size w w3):Kh p w w3.heap.size 0 ((w3.alloc (.cells (wv (List.replicate 8 0)) 189)).setRow w3.heap.size (wv Gv)) :=
 ⟨setRow_heap _ _ _ _ _ _ (Blk.new w3 189 _),Bp (h.alloc h.size _) h.size,h.size⟩
theorem Kh.drew {p:List UInt8} {w wr:World} {H k:Nat} (h:Kh p w H k wr):Kh p w H k wr.drew:=⟨h.1,Below.drewN h.2.1 1,h.2.2⟩
theorem Kh.reg {p:List UInt8} {w wr:World} {H k:Nat} (h:Kh p w H k wr) (i:Nat) (hi:i<8):wr.cell? ⟨H,i,none⟩=some (.int .u32 (nth (Gw p k) i)):=by
 rw [h.1.cell i,Fs _ _ (by rw [Fo];exact hi)]
theorem Kh.step {p:ByteArray} {w w2 w3:World} {H k:Nat} (h:Kh p.data.toList w H k w2) (b:Below w2.heap.size w2 w3):Kh p.data.toList w H (k+1) (w3.setRow H (wv (blk (Gw p.data.toList k) (p.extract (64*k) (64*k+64)).data.toList))):=by
 refine⟨?_,Bp (h.2.1.trans (b.mono h.2.1.size)) h.2.2,h.2.2⟩
 have e:Gw p.data.toList (k+1)=blk (Gw p.data.toList k) (p.extract (64*k) (64*k+64)).data.toList:=by
  rw [IP,show 64*k+64-64*k=64 by omega]
  rfl
 rw [e];exact setRow_heap _ _ _ _ _ _ (h.1.next b)
def Rh (hh:List Nat) (H j:Nat) (v:Value) (W0 wr:World):Prop:=wr.ownsRow (H+1) 5 1 v (4*j) (cells (DG hh j))∧Below (H+1) W0 wr∧H+1≤wr.heap.size
theorem Rh.start {hh:List Nat} {H:Nat} {w:World} (h:H<w.heap.size):Rh hh H 0 (.slice none 0 0) w w:=⟨World.ownsRow_nil _ _ _ _,Below.refl _ _,h⟩
theorem Rh.step {hh:List Nat} {H j x:Nat} {l:List Value} {v:Value} {W0 w:World} (hx:nth hh j=x) (hl:cells (by4 x)=l) (h:w.ownsRow (H+1) 5 1 v (4*j+4) (cells (DG hh j)++l)) (hb:Below (H+1) W0 w) (hs:H+1≤w.heap.size):Rh hh H (j+1) v W0 w:=by
 refine⟨?_,hb,hs⟩;rw [show DG hh (j+1)=DG hh j++by4 (nth hh j) from rfl,Cz,hx,hl];exact h
theorem UN (s p:ByteArray) (nb:Nat) (w:World) (hs:s.size≤1099511627776) (HP:Hid (p=bs (Dc s.data.toList))) (hp:p.size=64*nb) (out:List UInt8) (HO:Hid (DG (Gw p.data.toList nb) 8=out)) :
  Calls qP 76 #[.string s] w fun e w'=>e=.returned (.string (bs out))∧Below w.heap.size w w':=by
 have hps:p.size≤1099511627776+72:=by
  have h1:=Fn s.size;have h2:=Mf s.size;rw [HP.out,Aw,Dc,List.length_append,Ah]
  omega
 have hadd:∀ W:World,(Op.stringOp .add s (bs (Gu s.size))).run qP W=.ok (.string p) W:=fun W=>by
  have h:=AB W s.data.toList (Gu s.size) (by have h1:=Fn s.size;have h2:=Mf s.size;rw [Ah];omega);rw [Ch] at h;rw [h,HP.out,Dc,Ah]
 obtain⟨i0,hi,hz0,hz1,hz2⟩:=info_parts Ff;have HPAD:=qH (kJ s.size (by omega) w);have HPS:=qH hp;clear hp HP;go_enter Tryz.func76,Tryz.ntmps76
 go_wp2_with fail
 refine HPAD.out.mono ?_;rintro e w2 ⟨rfl,b2⟩;clear HPAD
 go_wp2_with fail
 refine(gV w2).mono ?_;rintro e w3 ⟨rfl,b3⟩;have HS:=qH (Kh.start p.data.toList w w3 (Ae b2 b3));clear b2 b3 hadd
 go_wp2_with (refine wpList_store_row rfl 189 _ _ rfl w3.heap.size (wv Gv) rfl rfl 189 (wv (List.replicate 8 0)) (Blk.new w3 189 _) Ed rfl (DO _) ?_)
 rw [OT];generalize (w3.alloc (Obj.cells (wv (List.replicate 8 0)) 189)).setRow w3.heap.size (wv Gv)=w4 at *;generalize w3.heap.size=H at *;clear w3
 go_loopw [4] (fun i wr=>∃ k:Nat,k≤nb∧i=.int .i64 ((64*k:Nat):Int)∧Kh p.data.toList w H k wr) (fun i _=>p.size-(intOf i).toNat)
 case atStart=>exact⟨0,Nat.zero_le _,rfl,HS.out⟩
 case round =>
  clear HS;obtain⟨k,hk,rfl,hS⟩:=hrel;by_cases hlt:k<nb
  ·have t1:64*(k:Int)<(p.size:Int):=by have:=HPS.out;omega
   have t2:64*(k:Int)+64≤(p.size:Int):=by have:=HPS.out;omega
   have n1:(64*(k:Int)).toNat=64*k:=by omega
   have n2:(64*(k:Int)+64).toNat=64*k+64:=by omega
   have p1:0≤64*(k:Int):=by omega
   have p2:0≤64*(k:Int)+64:=by omega
   have p3:64*(k:Int)≤64*(k:Int)+64:=by omega
   have wr1:IntKind.i64.wrap (64*(k:Int)+64)=64*(k:Int)+64:=IntWalk.i64_in _ (by omega);have HS:=qH hS.drew;have hc:=hS.drew;obtain⟨a0,a1,a2,a3,a4,a5,a6,a7,ha⟩:=cH (Fo p.data.toList k);have c0:=hc.reg 0 (by decide);have c1:=hc.reg 1 (by decide);have c2:=hc.reg 2 (by decide);have c3:=hc.reg 3 (by decide);have c4:=hc.reg 4 (by decide);have c5:=hc.reg 5 (by decide);have c6:=hc.reg 6 (by decide);have c7:=hc.reg 7 (by decide);rw [ha] at c0 c1 c2 c3 c4 c5 c6 c7
   replace c0:wr.drew.cell? ⟨H,0,none⟩=some (.int .u32 a0):=c0
   replace c1:wr.drew.cell? ⟨H,1,none⟩=some (.int .u32 a1):=c1
   replace c2:wr.drew.cell? ⟨H,2,none⟩=some (.int .u32 a2):=c2
   replace c3:wr.drew.cell? ⟨H,3,none⟩=some (.int .u32 a3):=c3
   replace c4:wr.drew.cell? ⟨H,4,none⟩=some (.int .u32 a4):=c4
   replace c5:wr.drew.cell? ⟨H,5,none⟩=some (.int .u32 a5):=c5
   replace c6:wr.drew.cell? ⟨H,6,none⟩=some (.int .u32 a6):=c6
   replace c7:wr.drew.cell? ⟨H,7,none⟩=some (.int .u32 a7):=c7
   have HA:=qH ha;clear hc hS ha;go_wp2;refine wp_region_still_tail 6 (by kernel_rfl) (by kernel_rfl) ?_;simp only [List.take_succ_cons,List.take_zero,List.drop_succ_cons,List.drop_zero]
   change wpStill _ _ wr.drew (fun a'=>wpList _ _ _ _ a' wr.drew) _ _
   generalize wr.drew=w3 at *
   repeat still_step
   refine wpStill_nil ?_;clear c0 c1 c2 c3 c4 c5 c6 c7 p1 p2 p3 n1 n2 wr1
   go_wp2_with fail
   obtain⟨o8,h8⟩:∃ o8,blk [a0,a1,a2,a3,a4,a5,a6,a7] (p.extract (64*k) (64*k+64)).data.toList=o8:=⟨_,rfl⟩
   have l8:o8.length=8:=by rw [←h8,MZ _ _ rfl]
   have H8:=qH h8;have L8:=qH l8;clear h8 l8;refine(dU [a0,a1,a2,a3,a4,a5,a6,a7] (p.extract (64*k) (64*k+64)) w3 (by rw [ByteArray.size_extract];unfold maxLen;omega) rfl o8 H8).mono ?_;rintro e w4 ⟨rfl,b4⟩;have R:=qH (HS.out.step b4);rw [HA.out,H8.out] at R;have hB:=HS.out.1.next b4;rw [HA.out] at hB;have HB:=qH hB;clear hB HS HA b4 H8
   go_wp2_with (refine wpList_store_row rfl 189 _ _ rfl H (wv o8) rfl rfl 189 _ HB.out (by rw [AS,L8.out];exact Ed) (by rw [AS,AS,L8.out];rfl) (DO _) ?_)
   go_roundw
   case rel=>exact⟨k+1,by omega,Tn k,R.out⟩
   case measure =>
    show p.size-(64*(k:Int)+64).toNat<p.size-((64*k:Nat):Int).toNat
    omega
  ·obtain rfl:k=nb:=by omega
   have t1:¬64*(k:Int)<(p.size:Int):=by have:=HPS.out;omega
   obtain⟨hh,hhh⟩:∃ hh,Gw p.data.toList k=hh:=⟨_,rfl⟩;have H8:=qH (show hh.length=8 by rw [←hhh,Fo]);have hB:=hS.1;rw [hhh] at hB;have HB:=qH hB;have HL:=qH hS.2;have HO2:=qH (show DG hh 8=out by rw [←hhh];exact HO.out);clear hS hB hhh HO;go_wp2;generalize hW:wr=W0 at *;clear hW
   go_loopw [5,6] (fun v i wr=>∃ j:Nat,j≤8∧i=.int .i64 j∧Rh hh H j v W0 wr) (fun _ i _=>8-(intOf i).toNat)
   case atStart=>exact⟨0,Nat.zero_le _,rfl,Rh.start HB.out.lt⟩
   case round =>
    obtain⟨j,hj,rfl,hown⟩:=hrel;by_cases hjl:j<8
    ·obtain⟨x,hx⟩:∃ x,nth hh j=x:=⟨_,rfl⟩
     have cj:wr.cell? ⟨H,j,none⟩=some (.int .u32 x):=by
      have h:=(HB.out.below hown.2.1 (Nat.lt_succ_self H)).cell j;rw [Fs _ _ (by rw [H8.out];exact hjl),hx] at h;exact h
     obtain⟨b0,h0⟩:∃ b,x/16777216%256=b:=⟨_,rfl⟩;obtain⟨b1,h1⟩:∃ b,x/65536%256=b:=⟨_,rfl⟩;obtain⟨b2,h2⟩:∃ b,x/256%256=b:=⟨_,rfl⟩;obtain⟨b3,h3⟩:∃ b,x%256=b:=⟨_,rfl⟩
     have e0:IntKind.u8.wrap ((x:Int)/16777216)=(b0:Int):=by rw [IntKind.wrap_u8];omega
     have e1:IntKind.u8.wrap ((x:Int)/65536)=(b1:Int):=by rw [IntKind.wrap_u8];omega
     have e2:IntKind.u8.wrap ((x:Int)/256)=(b2:Int):=by rw [IntKind.wrap_u8];omega
     have e3:IntKind.u8.wrap (x:Int)=(b3:Int):=by rw [IntKind.wrap_u8];omega
     have f0:(x:Int)/16777216%256=(b0:Int):=by omega
     have f1:(x:Int)/65536%256=(b1:Int):=by omega
     have f2:(x:Int)/256%256=(b2:Int):=by omega
     have f3:(x:Int)%256=(b3:Int):=by omega
     have HX:=qH (ME x b0 b1 b2 b3 h0 h1 h2 h3);have HN:=qH hx
     have jl:(j:Int)<8:=by omega
     have jp:(0:Int)≤(j:Int):=by omega
     have hHl:H<wr.heap.size:=hown.2.2
     have hne:some H≠u5.ownBlock:=fun e=>by have:=(hown.1.lt H e.symm).1;omega
     have hlo:∀ g,u5.ownBlock=some g→H+1≤g:=fun g hg=>(hown.1.lt g hg).1;have HNE:=qH hne;have HLO:=qH hlo;have HWN:=qH hown;clear h0 h1 h2 h3 hx hown hne hlo;go_wp2
     go_region_held3 (fun w'=>w'.cell? ⟨H,j,none⟩=some (.int .u32 x))
      (first
        | go_keep
        | (rw [hgrow.cell_far _ (by simp<;>omega) HNE.out];assumption))
      ((refine step_append_lies _ (by rfl) _ _ _ (by rfl) (H+1) 5 i0 _ 1 1 Tryz.underlying121 hi hz0 hz1 hz2 rfl (by omega) u5 (4*j) _ (by rfl) ((HWN.out.1.alloc _).drew)
         ⟨wr.heap.size,0,none⟩ 4 4 [.int .u8 b0,.int .u8 b1,.int .u8 b2,.int .u8 b3] (by rfl) (by rfl) (World.news_of_block (cs:=#[.int .u8 b0,.int .u8 b1,.int .u8 b2,.int .u8 b3]) (t:=5) (fr:=(0,0)) (heap_alloc_new wr _)) (by simp [Value.oneCell'])
         (by omega) (by unfold maxLen;omega) (by omega) (by simp;omega) (wr.heap.size+1) (by simp) ?_;intro gg cap w1 hown1 hgrow hat hlt'))
     have hbel:Below (H+1) W0 w1:=Below.grown (by
       have h:=HWN.out.2.1.alloc hHl (.cells #[.int .u8 b0,.int .u8 b1,.int .u8 b2,.int .u8 b3] 5)
       exact⟨h.os,h.tape,h.output,h.size,h.block⟩) hgrow (by simp;omega) HLO.out
     have hsz:H+1≤w1.heap.size:=by have:=hgrow.size;simp at this;omega
     have R:=qH (Rh.step HN.out HX.out hown1 hbel hsz);clear hown1 hgrow hat hlt' hbel hsz HWN HLO HNE HX HN cj e0 e1 e2 e3 f0 f1 f2 f3;go_wp2
     go_roundw
     case rel=>exact⟨j+1,by omega,by go_num,R.out⟩
     case measure=>simp [intOf];omega
    ·obtain rfl:j=8:=by omega
     have hst:=CT (H+1) u5 (DG hh 8) W0 wr (by rw [Jh];exact⟨World.ownsRowF_of hown.1,hown.2⟩);rw [HO2.out] at hst;have hb:Below w.heap.size w wr:=HL.out.1.trans (hown.2.1.mono (by have:=HL.out.2;omega));go_wp2
     go_ret
     exact⟨rfl,hb⟩
theorem ZI (s:ByteArray) (w:World) (hs:s.size≤1099511627776) :
  Calls qP 76 #[.string s] w fun e w'=>e=.returned (.string (bs (Ax s.data.toList)))∧Below w.heap.size w w':=by
 refine UN s (bs (Dc s.data.toList)) ((Dc s.data.toList).length/64) w hs (qH rfl) ?_ _ (qH rfl);rw [Aw];exact KC _
theorem Lj {f:List UInt8} {x c:UInt8} {j:Nat} {B:Nat} {v:Value} {W0 w:World} (hc:f[j]?=some c) (h:Lib.OwnBuf B 5 v (j+1) (cells (mix x (f.take j))++[.int .u8 (c ^^^ x).toNat]) W0 w) :
  Lib.OwnBuf B 5 v (j+1) (cells (mix x (f.take (j+1)))) W0 w:=by
 have hj:j<f.length:=by
  rcases Nat.lt_or_ge j f.length with h|h
  ·exact h
  ·rw [List.getElem?_eq_none h] at hc;cases hc
 have e:f[j]=c:=by rw [List.getElem?_eq_getElem hj] at hc;exact Option.some.inj hc
 rw [VZ f x j hj,Cz,e];exact h
theorem cI (k:ByteArray) (x:UInt8) (w:World) (hk:k.size≤64) (f out:List UInt8) (HF:Hid (FI k.data.toList=f)) (HO:Hid (mix x f=out)) :
  Calls qP 92 #[.string k,.int .u8 x.toNat] w fun e w'=>e=.returned (.string (bs out))∧Below w.heap.size w w':=by
 have FL:=qH (show f.length=64 by rw [←HF.out,Gx _ (by rw [Ah];exact hk)]);obtain⟨i0,hi,hz0,hz1,hz2⟩:=info_parts Ff;go_enter Tryz.func92,Tryz.ntmps92;go_wp2
 go_loopw [5,6] (fun v i wr=>∃ j:Nat,j≤64∧i=.int .i64 j∧Lib.OwnBuf w.heap.size 5 v j (cells (mix x (f.take j))) w wr) (fun _ i _=>64-(intOf i).toNat)
 case atStart=>exact⟨0,Nat.zero_le _,rfl,FG w 5⟩
 case round =>
  obtain⟨j,hj,rfl,hown⟩:=hrel;by_cases hlt:j<64
  ·have jl:(j:Int)<64:=by omega
   by_cases hjk:j<k.size
   ·have tk:(j:Int)<(k.size:Int):=by omega
    have hc:f[j]?=some (k[j]):=by rw [←HF.out,Zp _ _ (by rw [Ah];exact hjk)];rfl
    have HC:=qH hc;obtain⟨c,hcc⟩:∃ c,k[j]=c:=⟨_,rfl⟩;rw [hcc] at HC;have hx:=Lh c x;have ST:=qH (fun v W h=>Lj (B:=w.heap.size) (v:=v) (W0:=w) (w:=W) (x:=x) HC.out h);clear hc HC;generalize c ^^^ x=y at *
    go_wp2_with (at_builtin;go_must (refine Lib.wpList_append_byte rfl _ _ 121 rfl w.heap.size 5 i0 Tryz.underlying121 hi hz0 hz1 hz2 u5 j _ rfl w wr _ hown rfl (by omega) ?_))
    intro v7 w7 h7;have R:=qH (ST.out v7 w7 h7);clear h7 hown ST hx;go_wp2
    go_roundw
    case rel=>exact⟨j+1,by omega,by go_num,R.out⟩
    case measure=>simp [intOf];omega
   ·have tk:¬(j:Int)<(k.size:Int):=by omega
    have hc:f[j]?=some 0:=by rw [←HF.out,VX _ _ (by rw [Ah];omega) hlt]
    have hx:bits .xor .u8 0 (x.toNat:Int)=((0 ^^^ x:UInt8).toNat:Int):=Lh 0 x;have ST:=qH (fun v W h=>Lj (B:=w.heap.size) (v:=v) (W0:=w) (w:=W) (x:=x) hc h);clear hc;generalize (0 ^^^ x:UInt8)=y at *
    go_wp2_with (at_builtin;go_must (refine Lib.wpList_append_byte rfl _ _ 121 rfl w.heap.size 5 i0 Tryz.underlying121 hi hz0 hz1 hz2 u5 j _ rfl w wr _ hown rfl (by omega) ?_))
    intro v7 w7 h7;have R:=qH (ST.out v7 w7 h7);clear h7 hown ST hx;go_wp2
    go_roundw
    case rel=>exact⟨j+1,by omega,by go_num,R.out⟩
    case measure=>simp [intOf];omega
  ·obtain rfl:j=64:=by omega
   have hst:=CT w.heap.size u5 out w wr (by
    rw [show out.length=64 by rw [←HO.out,ET,FL.out],←HO.out]
    rwa [List.take_of_length_le (by rw [FL.out];exact Nat.le_refl _)] at hown)
   go_wp2
   go_ret
   exact⟨rfl,hown.2.1⟩
theorem UO (k s k2:ByteArray) (w:World) (hk:k.size≤1099511627776) (hs:s.size≤1000000) (f m1 m2 q1 q2:List UInt8) (h1:mix 92 f=m1) (h2:mix 54 f=m2)
  (h3:Ax (m2++s.data.toList)=q1) (h4:Ax (m1++q1)=q2) (hk2:k2=bs (Gj k.data.toList)) (hf:FI k2.data.toList=f) :
  Calls qP 46 #[.string k,.string s] w fun e w'=>e=.returned (.string (bs q2))∧Below w.heap.size w w':=by
 have kl:k2.size≤64:=by rw [hk2,Aw];exact Mg _
 have fl:f.length=64:=by rw [←hf,Gx _ (by rw [Ah];exact kl)]
 have l1:m1.length=64:=by rw [←h1,ET,fl]
 have l2:m2.length=64:=by rw [←h2,ET,fl]
 have l3:q1.length=32:=by rw [←h3,Bc]
 have a1:∀ W:World,(Op.stringOp .add (bs m2) s).run qP W=.ok (.string (bs (m2++s.data.toList))) W:=fun W=>by
  have h:=AB W m2 s.data.toList (by rw [Ah,l2];omega)
  rwa [Ch] at h
 have a2:∀ W:World,(Op.stringOp .add (bs m1) (bs q1)).run qP W=.ok (.string (bs (m1++q1))) W:=fun W=>AB W m1 q1 (by omega);have S1:=qH (fun(W:World)=>ZI (bs (m2++s.data.toList)) W (by rw [Aw,List.length_append,l2,Ah];omega));have S2:=qH (fun(W:World)=>ZI (bs (m1++q1)) W (by rw [Aw,List.length_append,l1,l3];omega));rw [Bs,h3] at S1;rw [Bs,h4] at S2;have M1:=qH (fun(W:World)=>cI k2 92 W kl f m1 (qH hf) (qH h1));have M2:=qH (fun(W:World)=>cI k2 54 W kl f m2 (qH hf) (qH h2));clear h1 h2 h3 h4 hf fl l1 l2 l3;by_cases hk64:64<k.size
 ·have R:=qH (ZI k w hk)
  rw [←KF _ (by rw [Ah];exact hk64),←hk2] at R;clear hk2
  have t64:(64:Int)<(k.size:Int):=by omega
  go_enter Tryz.func46,Tryz.ntmps46
  go_wp2_with fail
  refine R.out.mono ?_;rintro e w1 ⟨rfl,b1⟩;clear R
  go_wp2_with fail
  refine(M1.out _).mono ?_;rintro e w2 ⟨rfl,b2⟩
  replace b2:=qH (Ae b1 b2)
  clear b1 M1
  go_wp2_with fail
  refine(M2.out w2).mono ?_;rintro e w3 ⟨rfl,b3⟩
  replace b3:=qH (Ae b2.out b3)
  clear b2 M2
  go_wp2_with fail
  refine(S1.out w3).mono ?_;rintro e w4 ⟨rfl,b4⟩
  replace b4:=qH (Ae b3.out b4)
  clear b3 S1 a1
  go_wp2_with fail
  refine(S2.out w4).mono ?_;rintro e w5 ⟨rfl,b5⟩
  replace b5:=Ae b4.out b5
  clear b4 S2 a2;go_wp2
  go_ret
  exact⟨rfl,b5⟩
 ·obtain rfl:k=k2:=by rw [hk2,JL _ (by rw [Ah];omega),Ch]
  have t64:¬(64:Int)<(k.size:Int):=by omega
  have b1:=Below.refl w.heap.size w;clear hk2;go_enter Tryz.func46,Tryz.ntmps46
  go_wp2_with fail
  refine(M1.out _).mono ?_;rintro e w2 ⟨rfl,b2⟩
  replace b2:=qH (Ae b1 b2)
  clear b1 M1
  go_wp2_with fail
  refine(M2.out w2).mono ?_;rintro e w3 ⟨rfl,b3⟩
  replace b3:=qH (Ae b2.out b3)
  clear b2 M2
  go_wp2_with fail
  refine(S1.out w3).mono ?_;rintro e w4 ⟨rfl,b4⟩
  replace b4:=qH (Ae b3.out b4)
  clear b3 S1 a1
  go_wp2_with fail
  refine(S2.out w4).mono ?_;rintro e w5 ⟨rfl,b5⟩
  replace b5:=Ae b4.out b5
  clear b4 S2 a2;go_wp2
  go_ret
  exact⟨rfl,b5⟩
theorem kK (k s:ByteArray) (w:World) (hk:k.size≤1099511627776) (hs:s.size≤1000000) :
  Calls qP 46 #[.string k,.string s] w fun e w'=>e=.returned (.string (bs (Ht k.data.toList s.data.toList)))∧Below w.heap.size w w' :=
 UO k s (bs (Gj k.data.toList)) w hk hs _ _ _ _ _ rfl rfl rfl rfl rfl rfl
def Bu (r:Hdr×Int):Value:=.tuple #[hdV r.1,.int .i64 r.2]
structure DF (w:World) (c:ByteArray) (a b:Int) (r m:ByteArray) (W:World):Prop where
 x:Blk W w.heap.size 34 #[.string c,.int .i64 a,.int .i64 b,.string r,.string m]
 o:Blk W (w.heap.size+1) 34 #[.string ⟨#[]⟩,.int .i64 0,.int .i64 0,.string ⟨#[]⟩,.string ⟨#[]⟩]
 s:Aa w W
section
variable {w W W':World} {c r m:ByteArray} {a b:Int}
theorem Pd (w:World) (c:ByteArray) (a b:Int) (r m:ByteArray):DF w c a b r m ((w.alloc (.cells #[.string c,.int .i64 a,.int .i64 b,.string r,.string m] 34)).alloc (.cells #[.string ⟨#[]⟩,.int .i64 0,.int .i64 0,.string ⟨#[]⟩,.string ⟨#[]⟩] 34)):=by
 have h1:=Blk.new w 34 #[.string c,.int .i64 a,.int .i64 b,.string r,.string m];have b1:Below w.heap.size w (w.alloc (.cells #[.string c,.int .i64 a,.int .i64 b,.string r,.string m] 34)):=(Below.refl _ w).alloc (Nat.le_refl _) _
 have e1:(w.alloc (.cells #[.string c,.int .i64 a,.int .i64 b,.string r,.string m] 34)).heap.size=w.heap.size+1:=by simp
 generalize w.alloc (.cells #[.string c,.int .i64 a,.int .i64 b,.string r,.string m] 34)=W1 at *;have h2:=Blk.new W1 34 #[.string ⟨#[]⟩,.int .i64 0,.int .i64 0,.string ⟨#[]⟩,.string ⟨#[]⟩];rw [e1] at h2;exact⟨h1.alloc _,h2,Ad (b1.alloc b1.size _)⟩
theorem DF.next (h:DF w c a b r m W) (k:Below W.heap.size W W'):DF w c a b r m W':=⟨h.x.below k h.x.lt,h.o.below k h.o.lt,Ad (Ae h.s.below k)⟩
theorem DF.put (h:DF w c a b r m W) (m':ByteArray):DF w c a b r m' (W.setCell ⟨w.heap.size,4,none⟩ (.string m')) :=
 ⟨h.x.set_ 4 _,h.o.far (p:=⟨w.heap.size,4,none⟩) (by simp only;omega) _,Ad (h.s.below.setCell (Nat.le_refl _) _)⟩
theorem DF.c0 (h:DF w c a b r m W):W.cell? ⟨w.heap.size,0,none⟩=some (.string c):=h.x.c 0 rfl
theorem DF.c1 (h:DF w c a b r m W):W.cell? ⟨w.heap.size,1,none⟩=some (.int .i64 a):=h.x.c 1 rfl
theorem DF.c2 (h:DF w c a b r m W):W.cell? ⟨w.heap.size,2,none⟩=some (.int .i64 b):=h.x.c 2 rfl
theorem DF.c3 (h:DF w c a b r m W):W.cell? ⟨w.heap.size,3,none⟩=some (.string r):=h.x.c 3 rfl
theorem DF.c4 (h:DF w c a b r m W):W.cell? ⟨w.heap.size,4,none⟩=some (.string m):=h.x.c 4 rfl
theorem DF.d0 (h:DF w c a b r m W):W.cell? ⟨w.heap.size+1,0,none⟩=some (.string ⟨#[]⟩):=h.o.c 0 rfl
theorem DF.d1 (h:DF w c a b r m W):W.cell? ⟨w.heap.size+1,1,none⟩=some (.int .i64 0):=h.o.c 1 rfl
theorem DF.d2 (h:DF w c a b r m W):W.cell? ⟨w.heap.size+1,2,none⟩=some (.int .i64 0):=h.o.c 2 rfl
theorem DF.d3 (h:DF w c a b r m W):W.cell? ⟨w.heap.size+1,3,none⟩=some (.string ⟨#[]⟩):=h.o.c 3 rfl
theorem DF.d4 (h:DF w c a b r m W):W.cell? ⟨w.heap.size+1,4,none⟩=some (.string ⟨#[]⟩):=h.o.c 4 rfl
theorem Km (h:DF w c a b r m W) (v0 v1 v2 v3 v4:Value) :
  Blk (((((W.setCell ⟨w.heap.size+1,0,none⟩ v0).setCell ⟨w.heap.size+1,1,none⟩ v1).setCell ⟨w.heap.size+1,2,none⟩ v2).setCell ⟨w.heap.size+1,3,none⟩ v3).setCell ⟨w.heap.size+1,4,none⟩ v4) (w.heap.size+1) 34 #[v0,v1,v2,v3,v4] ∧
  Aa w (((((W.setCell ⟨w.heap.size+1,0,none⟩ v0).setCell ⟨w.heap.size+1,1,none⟩ v1).setCell ⟨w.heap.size+1,2,none⟩ v2).setCell ⟨w.heap.size+1,3,none⟩ v3).setCell ⟨w.heap.size+1,4,none⟩ v4) :=
 ⟨CK h.o v0 v1 v2 v3 v4,AE h.s (by omega) v0 v1 v2 v3 v4⟩
end
theorem Ri (key:ByteArray) (c:ByteArray) (a b:Int) (r m:ByteArray) (s:List UInt8) (f:Int) (q:List UInt8) (w:World)
  (K1:Hid (∀ W,Calls qP 45 #[.agg #[.string c,.int .i64 a,.int .i64 b,.string r,.string m]] W fun e w'=>e=.returned (.tuple #[.string (bs s),.int .i64 f])∧Aa W w'))
  (K2:Hid (∀ W,Calls qP 46 #[.string key,.string (bs s)] W fun e w'=>e=.returned (.string (bs q))∧Below W.heap.size W w')) :
  Calls qP 14 #[.string key,.agg #[.string c,.int .i64 a,.int .i64 b,.string r,.string m]] w fun e w'=>e=.returned (Bu (if f≠0 then (Hdr.zero,f) else (⟨c,a,b,r,bs q⟩,0)))∧Aa w w':=by
 have H0:=qH (Pd w c a b r m);have y0:=H0.out.c0;have y1:=H0.out.c1;have y2:=H0.out.c2;have y3:=H0.out.c3;have y4:=H0.out.c4;go_enter Tryz.func14,Tryz.ntmps14
 go_wp2_with fail
 clear y0 y1 y2 y3 y4;generalize ((w.alloc (.cells #[.string c,.int .i64 a,.int .i64 b,.string r,.string m] 34)).alloc (.cells #[.string ⟨#[]⟩,.int .i64 0,.int .i64 0,.string ⟨#[]⟩,.string ⟨#[]⟩] 34))=W0 at *;refine(K1.out _).mono ?_;rintro e w1 ⟨rfl,q1⟩;have H1:=qH (H0.out.next q1.below);clear H0 K1 q1;have d0:=H1.out.d0;have d1:=H1.out.d1;have d2:=H1.out.d2;have d3:=H1.out.d3;have d4:=H1.out.d4;have f0:=H1.out.o.frozen 0;have f1:=H1.out.o.frozen 1;have f2:=H1.out.o.frozen 2;have f3:=H1.out.o.frozen 3;have f4:=H1.out.o.frozen 4;by_cases hf:f=0
 ·subst hf
  have y4:=H1.out.c4;have z4:=H1.out.x.frozen 4
  go_wp2_with fail
  refine(K2.out _).mono ?_;rintro e w2 ⟨rfl,q2⟩;have H2:=qH (H1.out.next q2);clear d0 d1 d2 d3 d4 f0 f1 f2 f3 f4 y4 z4 H1 K2 q2;have y0:=H2.out.c0;have y1:=H2.out.c1;have y2:=H2.out.c2;have y3:=H2.out.c3;have y4:=H2.out.c4;have z4:=H2.out.x.frozen 4;have d0:=H2.out.d0;have d1:=H2.out.d1;have d2:=H2.out.d2;have d3:=H2.out.d3;have d4:=H2.out.d4;have f0:=H2.out.o.frozen 0;have f1:=H2.out.o.frozen 1;have f2:=H2.out.o.frozen 2;have f3:=H2.out.o.frozen 3;have f4:=H2.out.o.frozen 4;have D:=qH (Km (H2.out.put (bs q)) (.string c) (.int .i64 a) (.int .i64 b) (.string r) (.string (bs q)));go_wp2;have D1:=D.out.1;refine bodyPost_ret (v:=Bu (⟨c,a,b,r,bs q⟩,0)) (by simp [results,Tryz.results14,go_sem,Bu,hdV,D1.c 0 rfl,D1.c 1 rfl,D1.c 2 rfl,D1.c 3 rfl,D1.c 4 rfl]) rfl ?_;exact⟨rfl,D.out.2⟩
 ·have hen:(f != 0)=true:=by rw [bne_iff_ne];exact hf
  have D:=qH (Km H1.out (.string ⟨#[]⟩) (.int .i64 0) (.int .i64 0) (.string ⟨#[]⟩) (.string ⟨#[]⟩));go_wp2;have D1:=D.out.1;refine bodyPost_ret (v:=Bu (Hdr.zero,f)) (by simp [results,Tryz.results14,go_sem,Bu,hdV,Hdr.zero,D1.c 0 rfl,D1.c 1 rfl,D1.c 2 rfl,D1.c 3 rfl,D1.c 4 rfl]) rfl ?_;exact⟨rfl,D.out.2⟩
theorem WO (key:ByteArray) (h:Hdr) (w:World) (hk:key.size≤1099511627776) :
  Calls qP 14 #[.string key,hdV h] w fun e w'=>e=.returned (Bu (AO key h))∧Aa w w':=by
 have hl:=Iy h;have K1:=qH (fun W=>cF h W);obtain⟨⟨s,f⟩,eb⟩:∃ s,s=Br h:=⟨_,rfl⟩;unfold AO;rw [←eb] at K1 hl ⊢;have K2:=qH (fun W=>kK key (bs s) W hk (by rw [Aw];simp only at hl;omega));simp only [Bs] at K2;exact Ri key h.chain h.height h.time h.root h.mac s f _ w K1 K2
structure CW (w:World) (t:ByteArray) (e:Int) (c:ByteArray) (a b:Int) (r m:ByteArray) (W:World):Prop where
 o:Blk W w.heap.size 34 #[.string ⟨#[]⟩,.int .i64 0,.int .i64 0,.string ⟨#[]⟩,.string ⟨#[]⟩]
 x:Blk W (w.heap.size+1) 34 #[.string c,.int .i64 a,.int .i64 b,.string r,.string m]
 q:Blk W (w.heap.size+1+1) 93 #[.string t,.int .i64 e]
 s:Aa w W
section
variable {w W W':World} {t t' c r m c' r' m':ByteArray} {e e' a b a' b':Int}
theorem WR (w:World) (t:ByteArray) (e:Int):CW w t e ⟨#[]⟩ 0 0 ⟨#[]⟩ ⟨#[]⟩ (((w.alloc (.cells #[.string ⟨#[]⟩,.int .i64 0,.int .i64 0,.string ⟨#[]⟩,.string ⟨#[]⟩] 34)).alloc (.cells #[.string ⟨#[]⟩,.int .i64 0,.int .i64 0,.string ⟨#[]⟩,.string ⟨#[]⟩] 34)).alloc (.cells #[.string t,.int .i64 e] 93)):=by
 have h1:=Blk.new w 34 #[.string ⟨#[]⟩,.int .i64 0,.int .i64 0,.string ⟨#[]⟩,.string ⟨#[]⟩];have b1:Below w.heap.size w (w.alloc (.cells #[.string ⟨#[]⟩,.int .i64 0,.int .i64 0,.string ⟨#[]⟩,.string ⟨#[]⟩] 34)):=(Below.refl _ w).alloc (Nat.le_refl _) _
 have e1:(w.alloc (.cells #[.string ⟨#[]⟩,.int .i64 0,.int .i64 0,.string ⟨#[]⟩,.string ⟨#[]⟩] 34)).heap.size=w.heap.size+1:=by simp
 generalize w.alloc (.cells #[.string ⟨#[]⟩,.int .i64 0,.int .i64 0,.string ⟨#[]⟩,.string ⟨#[]⟩] 34)=W1 at *;have h2:=Blk.new W1 34 #[.string ⟨#[]⟩,.int .i64 0,.int .i64 0,.string ⟨#[]⟩,.string ⟨#[]⟩];rw [e1] at h2;have b2:Below w.heap.size w (W1.alloc (.cells #[.string ⟨#[]⟩,.int .i64 0,.int .i64 0,.string ⟨#[]⟩,.string ⟨#[]⟩] 34)):=b1.alloc b1.size _
 have e2:(W1.alloc (.cells #[.string ⟨#[]⟩,.int .i64 0,.int .i64 0,.string ⟨#[]⟩,.string ⟨#[]⟩] 34)).heap.size=w.heap.size+1+1:=by simp [e1]
 have h1':=h1.alloc (.cells #[.string ⟨#[]⟩,.int .i64 0,.int .i64 0,.string ⟨#[]⟩,.string ⟨#[]⟩] 34);generalize W1.alloc (.cells #[.string ⟨#[]⟩,.int .i64 0,.int .i64 0,.string ⟨#[]⟩,.string ⟨#[]⟩] 34)=W2 at *;have h3:=Blk.new W2 93 #[.string t,.int .i64 e];rw [e2] at h3;exact⟨h1'.alloc _,h2.alloc _,h3,Ad (b2.alloc b2.size _)⟩
theorem CW.next (h:CW w t e c a b r m W) (k:Below W.heap.size W W'):CW w t e c a b r m W':=⟨h.o.below k h.o.lt,h.x.below k h.x.lt,h.q.below k h.q.lt,Ad (Ae h.s.below k)⟩
theorem CW.setR (h:CW w t e c a b r m W) (t':ByteArray) (e':Int):CW w t' e' c a b r m ((W.setCell ⟨w.heap.size+1+1,0,none⟩ (.string t')).setCell ⟨w.heap.size+1+1,1,none⟩ (.int .i64 e')) :=
 ⟨(h.o.far (p:=⟨w.heap.size+1+1,0,none⟩) (by simp only;omega) _).far (p:=⟨w.heap.size+1+1,1,none⟩) (by simp only;omega) _,(h.x.far (p:=⟨w.heap.size+1+1,0,none⟩) (by simp only;omega) _).far (p:=⟨w.heap.size+1+1,1,none⟩) (by simp only;omega) _,(h.q.set_ 0 _).set_ 1 _,Ak (Ak h.s (by simp only;omega) _) (by simp only;omega) _⟩
theorem CW.setX (h:CW w t e c a b r m W) (i:Nat) (v:Value) (hx:(#[.string c,.int .i64 a,.int .i64 b,.string r,.string m]:Array Value).setIfInBounds i v=#[.string c',.int .i64 a',.int .i64 b',.string r',.string m']) :
  CW w t e c' a' b' r' m' (W.setCell ⟨w.heap.size+1,i,none⟩ v):=by
 have hxs:=h.x.set_ i v;rw [hx] at hxs;exact⟨h.o.far (p:=⟨w.heap.size+1,i,none⟩) (by simp only;omega) _,hxs,h.q.far (p:=⟨w.heap.size+1,i,none⟩) (by simp only;omega) _,Ak h.s (by simp only;omega) _⟩
theorem Tr (h:CW w t e c a b r m W) (v0 v1 v2 v3 v4:Value) :
  Blk (((((W.setCell ⟨w.heap.size,0,none⟩ v0).setCell ⟨w.heap.size,1,none⟩ v1).setCell ⟨w.heap.size,2,none⟩ v2).setCell ⟨w.heap.size,3,none⟩ v3).setCell ⟨w.heap.size,4,none⟩ v4) w.heap.size 34 #[v0,v1,v2,v3,v4] ∧
  Aa w (((((W.setCell ⟨w.heap.size,0,none⟩ v0).setCell ⟨w.heap.size,1,none⟩ v1).setCell ⟨w.heap.size,2,none⟩ v2).setCell ⟨w.heap.size,3,none⟩ v3).setCell ⟨w.heap.size,4,none⟩ v4) :=
 ⟨CK h.o v0 v1 v2 v3 v4,AE h.s (Nat.le_refl _) v0 v1 v2 v3 v4⟩
theorem CW.c0 (h:CW w t e c a b r m W):W.cell? ⟨w.heap.size+1,0,none⟩=some (.string c):=h.x.c 0 rfl
theorem CW.c1 (h:CW w t e c a b r m W):W.cell? ⟨w.heap.size+1,1,none⟩=some (.int .i64 a):=h.x.c 1 rfl
theorem CW.c2 (h:CW w t e c a b r m W):W.cell? ⟨w.heap.size+1,2,none⟩=some (.int .i64 b):=h.x.c 2 rfl
theorem CW.c3 (h:CW w t e c a b r m W):W.cell? ⟨w.heap.size+1,3,none⟩=some (.string r):=h.x.c 3 rfl
theorem CW.c4 (h:CW w t e c a b r m W):W.cell? ⟨w.heap.size+1,4,none⟩=some (.string m):=h.x.c 4 rfl
theorem CW.d0 (h:CW w t e c a b r m W):W.cell? ⟨w.heap.size,0,none⟩=some (.string ⟨#[]⟩):=h.o.c 0 rfl
theorem CW.d1 (h:CW w t e c a b r m W):W.cell? ⟨w.heap.size,1,none⟩=some (.int .i64 0):=h.o.c 1 rfl
theorem CW.d2 (h:CW w t e c a b r m W):W.cell? ⟨w.heap.size,2,none⟩=some (.int .i64 0):=h.o.c 2 rfl
theorem CW.d3 (h:CW w t e c a b r m W):W.cell? ⟨w.heap.size,3,none⟩=some (.string ⟨#[]⟩):=h.o.c 3 rfl
theorem CW.d4 (h:CW w t e c a b r m W):W.cell? ⟨w.heap.size,4,none⟩=some (.string ⟨#[]⟩):=h.o.c 4 rfl
theorem CW.q0 (h:CW w t e c a b r m W):W.cell? ⟨w.heap.size+1+1,0,none⟩=some (.string t):=h.q.c 0 rfl
theorem CW.q1 (h:CW w t e c a b r m W):W.cell? ⟨w.heap.size+1+1,1,none⟩=some (.int .i64 e):=h.q.c 1 rfl
end
def Rd (f:FuncId) (s:ByteArray) (e:Int) (s':ByteArray) (e':Int) (v:Value):Prop :=
 ∀ t:ByteArray,(e=0→t=s)→t.size≤9223372036854775807→∀ W,Calls qP f #[.agg #[.string t,.int .i64 e]] W fun en w'=>∃ t',en=.returned (.tuple #[.agg #[.string t',.int .i64 e'],v])∧(e'=0→t'=s')∧t'.size≤9223372036854775807∧Below W.heap.size W w'
theorem He (s:ByteArray) (e:Int):Rd 40 s e (Aj s e).1.1 (Aj s e).1.2 (.string (Aj s e).2):=by
 intro t h1 h2 W;by_cases he:e=0
 ·have:=h1 he
  subst this;exact Kn t e W h2
 ·have k:=Kn t e W h2
  rw [FK t he] at k;rw [FK s he];refine k.mono ?_;rintro en w' ⟨s',q1,q2,q3,q4⟩;exact⟨s',q1,fun h=>absurd h he,q3,q4⟩
theorem Jw (s:ByteArray) (e:Int):Rd 41 s e (Ao s e).1.1 (Ao s e).1.2 (.int .i64 (Ao s e).2):=by
 intro t h1 h2 W;have k:=GL t e W h2;have hf:=(Ay t e).2.1;by_cases he:e=0
 ·have:=h1 he
  subst this;refine k.mono ?_;rintro en w' ⟨q1,q2⟩;exact⟨_,q1,fun _=>rfl,by omega,q2⟩
 ·rw [Do t he] at k
  rw [Do s he];refine k.mono ?_;rintro en w' ⟨q1,q2⟩;exact⟨t,q1,fun h=>absurd h he,h2,q2⟩
theorem Ko (s:ByteArray) (e:Int) (t:ByteArray) (h:e=0→t=s) (W:World) :
  Calls qP 42 #[.agg #[.string t,.int .i64 e]] W fun en w'=>en=.returned (.int .i64 (AG s e))∧Below W.heap.size W w':=by
 have k:=Tq t e W;by_cases he:e=0
 ·have:=h he
  subst this;exact k
 ·have e1:AG t e=AG s e:=by unfold AG;rw [if_pos he,if_pos he]
  rw [e1] at k;exact k
theorem Pg (s s1 s2 s3 s4 s5:ByteArray) (e1 e2 e3 e4 e5:Int) (c:ByteArray) (a b:Nat) (r m:ByteArray) (d:Int) (w:World) (hs:s.size≤9223372036854775807)
  (N1:Hid (Rd 40 s 0 s1 e1 (.string c)))
  (N2:Hid (Rd 41 s1 e1 s2 e2 (.int .i64 a)))
  (N3:Hid (Rd 41 s2 e2 s3 e3 (.int .i64 b)))
  (N4:Hid (Rd 40 s3 e3 s4 e4 (.string r)))
  (N5:Hid (Rd 40 s4 e4 s5 e5 (.string m)))
  (N6:Hid (∀ t:ByteArray,(e5=0→t=s5)→∀ W,Calls qP 42 #[.agg #[.string t,.int .i64 e5]] W fun en w'=>en=.returned (.int .i64 d)∧Below W.heap.size W w')) :
  Calls qP 127 #[.string s] w fun e w'=>e=.returned (Bu (if d≠0 then (Hdr.zero,d) else (⟨c,a,b,r,m⟩,0)))∧Aa w w':=by
 have H0:=qH (WR w s 0);go_enter Tryz.func127,Tryz.ntmps127
 go_wp2_with fail
 generalize (((w.alloc (.cells #[.string ⟨#[]⟩,.int .i64 0,.int .i64 0,.string ⟨#[]⟩,.string ⟨#[]⟩] 34)).alloc (.cells #[.string ⟨#[]⟩,.int .i64 0,.int .i64 0,.string ⟨#[]⟩,.string ⟨#[]⟩] 34)).alloc (.cells #[.string s,.int .i64 0] 93))=W0 at *;refine(N1.out _ (fun _=>rfl) hs _).mono ?_;rintro e w1 ⟨t1,rfl,k1,z1,q1⟩;have H1:=qH (H0.out.next q1);have a0:=H1.out.q0;have a1:=H1.out.q1;have a2:=H1.out.q.frozen 0;have a3:=H1.out.q.frozen 1;have b0:=H1.out.c0;have b1:=H1.out.x.frozen 0;clear N1 H0 q1
 go_wp2_with fail
 have G1:=qH ((H1.out.setR t1 e1).setX (c':=c) (a':=0) (b':=0) (r':=⟨#[]⟩) (m':=⟨#[]⟩) 0 (.string c) rfl);clear a0 a1 a2 a3 b0 b1 H1;generalize (((w1.setCell ⟨w.heap.size+1+1,0,none⟩ (.string t1)).setCell ⟨w.heap.size+1+1,1,none⟩ (.int .i64 e1)).setCell ⟨w.heap.size+1,0,none⟩ (.string c))=W1 at *;have H1:=G1;clear G1;refine(N2.out t1 k1 z1 _).mono ?_;rintro e w2 ⟨t2,rfl,k2,z2,q2⟩;have H2:=qH (H1.out.next q2);have a0:=H2.out.q0;have a1:=H2.out.q1;have a2:=H2.out.q.frozen 0;have a3:=H2.out.q.frozen 1;have b0:=H2.out.c1;have b1:=H2.out.x.frozen 1;clear N2 H1 q2
 go_wp2_with fail
 have G2:=qH ((H2.out.setR t2 e2).setX (c':=c) (a':=a) (b':=0) (r':=⟨#[]⟩) (m':=⟨#[]⟩) 1 (.int .i64 a) rfl);clear a0 a1 a2 a3 b0 b1 H2;generalize (((w2.setCell ⟨w.heap.size+1+1,0,none⟩ (.string t2)).setCell ⟨w.heap.size+1+1,1,none⟩ (.int .i64 e2)).setCell ⟨w.heap.size+1,1,none⟩ (.int .i64 a))=W2 at *;have H2:=G2;clear G2;refine(N3.out t2 k2 z2 _).mono ?_;rintro e w3 ⟨t3,rfl,k3,z3,q3⟩;have H3:=qH (H2.out.next q3);have a0:=H3.out.q0;have a1:=H3.out.q1;have a2:=H3.out.q.frozen 0;have a3:=H3.out.q.frozen 1;have b0:=H3.out.c2;have b1:=H3.out.x.frozen 2;clear N3 H2 q3
 go_wp2_with fail
 have G3:=qH ((H3.out.setR t3 e3).setX (c':=c) (a':=a) (b':=b) (r':=⟨#[]⟩) (m':=⟨#[]⟩) 2 (.int .i64 b) rfl);clear a0 a1 a2 a3 b0 b1 H3;generalize (((w3.setCell ⟨w.heap.size+1+1,0,none⟩ (.string t3)).setCell ⟨w.heap.size+1+1,1,none⟩ (.int .i64 e3)).setCell ⟨w.heap.size+1,2,none⟩ (.int .i64 b))=W3 at *;have H3:=G3;clear G3;refine(N4.out t3 k3 z3 _).mono ?_;rintro e w4 ⟨t4,rfl,k4,z4,q4⟩;have H4:=qH (H3.out.next q4);have a0:=H4.out.q0;have a1:=H4.out.q1;have a2:=H4.out.q.frozen 0;have a3:=H4.out.q.frozen 1;have b0:=H4.out.c3;have b1:=H4.out.x.frozen 3;clear N4 H3 q4
 go_wp2_with fail
 have G4:=qH ((H4.out.setR t4 e4).setX (c':=c) (a':=a) (b':=b) (r':=r) (m':=⟨#[]⟩) 3 (.string r) rfl);clear a0 a1 a2 a3 b0 b1 H4;generalize (((w4.setCell ⟨w.heap.size+1+1,0,none⟩ (.string t4)).setCell ⟨w.heap.size+1+1,1,none⟩ (.int .i64 e4)).setCell ⟨w.heap.size+1,3,none⟩ (.string r))=W4 at *;have H4:=G4;clear G4;refine(N5.out t4 k4 z4 _).mono ?_;rintro e w5 ⟨t5,rfl,k5,z5,q5⟩;have H5:=qH (H4.out.next q5);have a0:=H5.out.q0;have a1:=H5.out.q1;have a2:=H5.out.q.frozen 0;have a3:=H5.out.q.frozen 1;have b0:=H5.out.c4;have b1:=H5.out.x.frozen 4;clear N5 H4 q5
 go_wp2_with fail
 have G5:=qH ((H5.out.setR t5 e5).setX (c':=c) (a':=a) (b':=b) (r':=r) (m':=m) 4 (.string m) rfl);clear a0 a1 a2 a3 b0 b1 H5;generalize (((w5.setCell ⟨w.heap.size+1+1,0,none⟩ (.string t5)).setCell ⟨w.heap.size+1+1,1,none⟩ (.int .i64 e5)).setCell ⟨w.heap.size+1,4,none⟩ (.string m))=W5 at *;have H5:=G5;clear G5;refine(N6.out t5 k5 _).mono ?_;rintro e w6 ⟨rfl,q6⟩;have H6:=qH (H5.out.next q6);clear N6 H5 q6;have d0:=H6.out.d0;have d1:=H6.out.d1;have d2:=H6.out.d2;have d3:=H6.out.d3;have d4:=H6.out.d4;have f0:=H6.out.o.frozen 0;have f1:=H6.out.o.frozen 1;have f2:=H6.out.o.frozen 2;have f3:=H6.out.o.frozen 3;have f4:=H6.out.o.frozen 4;by_cases hf:d=0
 ·subst hf
  have y0:=H6.out.c0;have y1:=H6.out.c1;have y2:=H6.out.c2;have y3:=H6.out.c3;have y4:=H6.out.c4;have D:=qH (Tr H6.out (.string c) (.int .i64 a) (.int .i64 b) (.string r) (.string m));go_wp2;have D1:=D.out.1;refine bodyPost_ret (v:=Bu (⟨c,a,b,r,m⟩,0)) (by simp [results,Tryz.results127,go_sem,Bu,hdV,D1.c 0 rfl,D1.c 1 rfl,D1.c 2 rfl,D1.c 3 rfl,D1.c 4 rfl]) rfl ?_;exact⟨rfl,D.out.2⟩
 ·have hen:(d != 0)=true:=by rw [bne_iff_ne];exact hf
  have D:=qH (Tr H6.out (.string ⟨#[]⟩) (.int .i64 0) (.int .i64 0) (.string ⟨#[]⟩) (.string ⟨#[]⟩));go_wp2;have D1:=D.out.1;refine bodyPost_ret (v:=Bu (Hdr.zero,d)) (by simp [results,Tryz.results127,go_sem,Bu,hdV,Hdr.zero,D1.c 0 rfl,D1.c 1 rfl,D1.c 2 rfl,D1.c 3 rfl,D1.c 4 rfl]) rfl ?_;exact⟨rfl,D.out.2⟩
theorem dW (s:ByteArray) (w:World) (hs:s.size≤9223372036854775807) :
  Calls qP 127 #[.string s] w fun e w'=>e=.returned (Bu (CR s))∧Aa w w':=by
 have h:=Pg s _ _ _ _ _ _ _ _ _ _ _ _ _ _ _ _ w hs (qH (He s 0)) (qH (Jw _ _)) (qH (Jw _ _)) (qH (He _ _)) (qH (He _ _)) (qH (fun t k W=>Ko _ _ t k W));exact h
theorem Pt (c k:ByteArray) (h:Int) (f:Bool) (s1 s2 s3 s4:List UInt8) (w:World) (l1:s1.length≤100000) (l2:s2.length≤100000) (l3:s3.length≤100000) (l4:s4.length≤100000)
  (K1:Hid (∀ W,Calls qP 79 #[.string c] W fun e w'=>e=.returned (.string (bs s1))∧Aa W w'))
  (K2:Hid (∀ W,Calls qP 79 #[.string k] W fun e w'=>e=.returned (.string (bs s2))∧Aa W w'))
  (K3:Hid (∀ W,Calls qP 78 #[.int .i64 h] W fun e w'=>e=.returned (.string (bs s3))∧Aa W w'))
  (K4:Hid (∀ W,Calls qP 78 #[.int .i64 (fz f)] W fun e w'=>e=.returned (.string (bs s4))∧Aa W w')) :
  Calls qP 72 #[.agg #[.string c,.string k,.int .i64 h,.bool f]] w fun e w'=>e=.returned (.string (bs (((s1++s2)++s3)++s4)))∧Aa w w':=by
 have a1:∀ W,(Op.stringOp .add (bs s1) (bs s2)).run qP W=.ok (.string (bs (s1++s2))) W:=fun W=>AB W s1 s2 (by omega);have a2:∀ W,(Op.stringOp .add (bs (s1++s2)) (bs s3)).run qP W=.ok (.string (bs ((s1++s2)++s3))) W:=fun W=>AB W _ _ (by rw [List.length_append];omega);have a3:∀ W,(Op.stringOp .add (bs ((s1++s2)++s3)) (bs s4)).run qP W=.ok (.string (bs (((s1++s2)++s3)++s4))) W:=fun W=>AB W _ _ (by rw [List.length_append,List.length_append];omega);generalize ((s1++s2)++s3)++s4=x3 at *;generalize (s1++s2)++s3=x2 at *;generalize s1++s2=x1 at *;clear l1 l2 l3 l4;have HB:=qH (Blk.new w 41 #[.string c,.string k,.int .i64 h,.bool f]);have HS:=qH (Ab (Aa.refl w) (.cells #[.string c,.string k,.int .i64 h,.bool f] 41));have y3:(w.alloc (.cells #[.string c,.string k,.int .i64 h,.bool f] 41)).cell? ⟨w.heap.size,3,none⟩=some (.bool f):=HB.out.c 3 rfl;have k0:(w.alloc (.cells #[.string c,.string k,.int .i64 h,.bool f] 41)).cell? ⟨w.heap.size,0,none⟩=some (.string c):=HB.out.c 0 rfl;have k1:(w.alloc (.cells #[.string c,.string k,.int .i64 h,.bool f] 41)).cell? ⟨w.heap.size,1,none⟩=some (.string k):=HB.out.c 1 rfl;have k2:(w.alloc (.cells #[.string c,.string k,.int .i64 h,.bool f] 41)).cell? ⟨w.heap.size,2,none⟩=some (.int .i64 h):=HB.out.c 2 rfl
 cases f
 all_goals
  unfold fz at K4;simp only [Bool.false_eq_true,if_false,if_true] at K4;go_enter Tryz.func72,Tryz.ntmps72;go_wp2;generalize w.alloc (.cells #[.string c,.string k,.int .i64 h,.bool _] 41)=V at *;have r0:=Aa.refl V;clear y3 HB
  go_region_held3 (fun W=>W.cell? ⟨w.heap.size,0,none⟩=some (.string c)∧W.cell? ⟨w.heap.size,1,none⟩=some (.string k)∧W.cell? ⟨w.heap.size,2,none⟩=some (.int .i64 h))
   (first|exact⟨s3.cell k0,s3.cell k1,s3.cell k2⟩|exact⟨s4.cell k0,s4.cell k1,s4.cell k2⟩|exact⟨s5.cell k0,s5.cell k1,s5.cell k2⟩|exact⟨s6.cell k0,s6.cell k1,s6.cell k2⟩|go_keep)
   (first
     | (go_at_call 79;refine(K1.out _).mono ?_;clear K1;rintro en w3 ⟨rfl,q⟩;have s3:=Ac r0 q;clear q)
     | (go_at_call 79;refine(K2.out _).mono ?_;clear K2;rintro en w4 ⟨rfl,q⟩;have s4:=Ac s3 q;clear q)
     | (go_at_call 78;refine(K3.out _).mono ?_;clear K3;rintro en w5 ⟨rfl,q⟩;have s5:=Ac s4 q;clear q)
     | (go_at_call 78;refine(K4.out _).mono ?_;clear K4;rintro en w6 ⟨rfl,q⟩;have s6:=Ac s5 q;clear q))
 all_goals go_wp2
 all_goals go_ret
 all_goals exact⟨rfl,Ac HS.out s6⟩
theorem Rn (c:Clt) (w:World):Calls qP 72 #[FZ c] w fun e w'=>e=.returned (.string (bs (BC c)))∧Aa w w' :=
 Pt c.chain c.key c.height c.frozen _ _ _ _ w (by have:=AF c.chain;omega) (by have:=AF c.key;omega) (by have:=Au c.height;omega) (by have:=Au (fz c.frozen);omega) (qH fun W=>Nm _ W) (qH fun W=>Nm _ W) (qH fun W=>Nl _ W) (qH fun W=>Nl _ W)
theorem Pu (s:Value) (key v s1:ByteArray) (g:Bool) (e1:Int) (n:Nat) (d:Int) (w:World) (hv:v.size≤9223372036854775807)
  (G:Hid (Calls qP 17 #[s,.string key] w fun e w'=>e=.returned (.tuple #[.string v,.bool g])∧w'=w))
  (N1:Hid (Rd 41 v 0 s1 e1 (.int .i64 n)))
  (N2:Hid (∀ t:ByteArray,(e1=0→t=s1)→∀ W,Calls qP 42 #[.agg #[.string t,.int .i64 e1]] W fun en w'=>en=.returned (.int .i64 d)∧Below W.heap.size W w')) (hs:∃ A m c,s=.slice A m c) :
  Calls qP 118 #[s,.string key] w fun e w'=>e=.returned (.int .i64 (if d≠0 then 0 else (n:Int)))∧Aa w w':=by
 obtain⟨A,m,c,rfl⟩:=hs;obtain⟨r,hr⟩:∃ r,r=(if d≠0 then 0 else (n:Int)):=⟨_,rfl⟩;rw [←hr];have HR:=qH hr;clear hr;have HB:=qH (Blk.new w 93 #[.string v,.int .i64 0]);have HS:=qH (Ab (Aa.refl w) (.cells #[.string v,.int .i64 0] 93));go_enter Tryz.func118,Tryz.ntmps118
 go_wp2_with fail
 refine G.out.mono ?_;rintro e w1 ⟨rfl,rfl⟩;clear G;have y0:(w1.alloc (.cells #[.string v,.int .i64 0] 93)).cell? ⟨w1.heap.size,0,none⟩=some (.string v):=HB.out.c 0 rfl;have y1:(w1.alloc (.cells #[.string v,.int .i64 0] 93)).cell? ⟨w1.heap.size,1,none⟩=some (.int .i64 0):=HB.out.c 1 rfl
 go_wp2_with fail
 clear y0 y1;refine(N1.out v (fun _=>rfl) hv _).mono ?_;rintro e w2 ⟨t,rfl,k,z,q⟩;have HB2:=qH (HB.out.next q);have HS2:=qH (Ad (Ae HS.out.below q));clear HB HS N1 q z;have f0:=HB2.out.frozen 0;have f1:=HB2.out.frozen 1;have c0:w2.cell? ⟨w1.heap.size,0,none⟩=some (.string v):=HB2.out.c 0 rfl;have c1:w2.cell? ⟨w1.heap.size,1,none⟩=some (.int .i64 0):=HB2.out.c 1 rfl;have HB3:=qH ((HB2.out.set_ 0 (.string t)).set_ 1 (.int .i64 e1));have HS3:=qH (Ak (Ak HS2.out (p:=⟨w1.heap.size,0,none⟩) (Nat.le_refl _) (.string t)) (p:=⟨w1.heap.size,1,none⟩) (Nat.le_refl _) (.int .i64 e1));have z0:((w2.setCell ⟨w1.heap.size,0,none⟩ (.string t)).setCell ⟨w1.heap.size,1,none⟩ (.int .i64 e1)).cell? ⟨w1.heap.size,0,none⟩=some (.string t):=HB3.out.c 0 rfl;have z1:((w2.setCell ⟨w1.heap.size,0,none⟩ (.string t)).setCell ⟨w1.heap.size,1,none⟩ (.int .i64 e1)).cell? ⟨w1.heap.size,1,none⟩=some (.int .i64 e1):=HB3.out.c 1 rfl;clear HB2 HS2 HB3
 go_wp2_with fail
 refine(N2.out t k _).mono ?_;rintro e w3 ⟨rfl,q⟩;have HS4:=qH (Ad (Ae HS3.out.below q));clear f0 f1 c0 c1 z0 z1 HS3 N2 q;by_cases hd:d=0
 ·subst hd
  have h:=HR.out;rw [if_neg (by simp)] at h;subst h;clear HR;go_wp2
  go_ret
  exact⟨rfl,HS4.out⟩
 ·have hb:(d != 0)=true:=by rw [bne_iff_ne];exact hd
  have h:=HR.out;rw [if_pos hd] at h;subst h;clear HR;go_wp2
  go_ret
  exact⟨rfl,HS4.out⟩
theorem eD (s:Value) (l:List KV) (key:ByteArray) (w:World) (hP:Prs w s l) (hu:Up l) (hz:l.length≤1000000000) (hv:((AD l key).getD ⟨#[]⟩).size≤9223372036854775807) :
  Calls qP 118 #[s,.string key] w fun e w'=>e=.returned (.int .i64 (Fb ((AD l key).getD ⟨#[]⟩)))∧Aa w w':=by
 have h:=Pu s key _ _ _ _ _ _ w hv (qH (dM s l key w hP hu hz)) (qH (Jw _ _)) (qH (fun t k W=>Ko _ _ t k W)) (by obtain⟨A,c,rfl,_⟩:=hP;exact⟨_,_,_,rfl⟩);refine h.mono fun e w' ⟨he,hs⟩=>⟨?_,hs⟩;rw [he];unfold Fb
 split<;>rfl
def Cb (r:Clt×Int):Value:=.tuple #[FZ r.1,.int .i64 r.2]
def Ck (r:Sn×Int):Value:=.tuple #[snV r.1,.int .i64 r.2]
theorem Pv (A:Option Addr) (m c:Nat) (id key:ByteArray) (w:World)
  (KEY:Hid (∀ W b,Aa w W→Blk W b 9 #[.string ⟨#[99,108,105,101,110,116]⟩,.string id]→Calls qP 39 #[.slice (some ⟨b,0,none⟩) 2 2] W fun e w'=>e=.returned (.string key)∧Aa W w'))
  (G:Hid (∀ W,Aa w W→Calls qP 17 #[.slice A m c,.string key] W fun e w'=>e=.returned (.tuple #[.string ⟨#[]⟩,.bool false])∧w'=W)) :
  Calls qP 12 #[.slice A m c,.string id] w fun e w'=>e=.returned (Cb (Clt.zero,8))∧Aa w w':=by
 have O0:=qH (Blk.new w 41 #[.string ⟨#[]⟩,.string ⟨#[]⟩,.int .i64 0,.bool false]);have S0:=qH (Ab (Aa.refl w) (.cells #[.string ⟨#[]⟩,.string ⟨#[]⟩,.int .i64 0,.bool false] 41))
 have z0:(w.alloc (.cells #[.string ⟨#[]⟩,.string ⟨#[]⟩,.int .i64 0,.bool false] 41)).heap.size=w.heap.size+1:=by simp
 have K1:=qH (Blk.new (w.alloc (.cells #[.string ⟨#[]⟩,.string ⟨#[]⟩,.int .i64 0,.bool false] 41)) 9 #[.string ⟨#[99,108,105,101,110,116]⟩,.string id]);have O1:=qH (O0.out.alloc (.cells #[.string ⟨#[99,108,105,101,110,116]⟩,.string id] 9));have S1:=qH (Ab S0.out (.cells #[.string ⟨#[99,108,105,101,110,116]⟩,.string id] 9));rw [z0] at K1;go_enter Tryz.func12,Tryz.ntmps12
 go_wp2_with fail
 refine(KEY.out _ _ S1.out K1.out).mono ?_;rintro e w1 ⟨rfl,q⟩;have O2:=qH (O1.out.next q.below);have S2:=qH (Ac S1.out q);clear KEY K1 O0 O1 S0 S1 q z0
 go_wp2_with fail
 refine(G.out _ S2.out).mono ?_;rintro e w2 ⟨rfl,rfl⟩;clear G;have f0:=O2.out.frozen 0;have f1:=O2.out.frozen 1;have f2:=O2.out.frozen 2;have f3:=O2.out.frozen 3;have d0:w2.cell? ⟨w.heap.size,0,none⟩=some (.string ⟨#[]⟩):=O2.out.c 0 rfl;have d1:w2.cell? ⟨w.heap.size,1,none⟩=some (.string ⟨#[]⟩):=O2.out.c 1 rfl;have d2:w2.cell? ⟨w.heap.size,2,none⟩=some (.int .i64 0):=O2.out.c 2 rfl;have d3:w2.cell? ⟨w.heap.size,3,none⟩=some (.bool false):=O2.out.c 3 rfl;have D:=qH (And.intro (put4 O2.out (.string ⟨#[]⟩) (.string ⟨#[]⟩) (.int .i64 0) (.bool false)) (Bv S2.out (Nat.le_refl _) (.string ⟨#[]⟩) (.string ⟨#[]⟩) (.int .i64 0) (.bool false)));clear O2 S2;go_wp2;have D1:=D.out.1;refine bodyPost_ret (v:=Cb (Clt.zero,8)) (by simp [results,Tryz.results12,go_sem,Cb,FZ,Clt.zero,D1.c 0 rfl,D1.c 1 rfl,D1.c 2 rfl,D1.c 3 rfl]) rfl ?_;exact⟨rfl,D.out.2⟩
theorem Pw (A:Option Addr) (m c:Nat) (id key v s1 s2 s3 s4:ByteArray) (e1 e2 e3 e4:Int) (x1 x2:ByteArray) (x3 x4:Nat) (d:Int) (w:World) (hv:v.size≤9223372036854775807)
  (KEY:Hid (∀ W b,Aa w W→Blk W b 9 #[.string ⟨#[99,108,105,101,110,116]⟩,.string id]→Calls qP 39 #[.slice (some ⟨b,0,none⟩) 2 2] W fun e w'=>e=.returned (.string key)∧Aa W w'))
  (G:Hid (∀ W,Aa w W→Calls qP 17 #[.slice A m c,.string key] W fun e w'=>e=.returned (.tuple #[.string v,.bool true])∧w'=W))
  (N1:Hid (Rd 40 v 0 s1 e1 (.string x1)))
  (N2:Hid (Rd 40 s1 e1 s2 e2 (.string x2)))
  (N3:Hid (Rd 41 s2 e2 s3 e3 (.int .i64 x3)))
  (N4:Hid (Rd 41 s3 e3 s4 e4 (.int .i64 x4)))
  (N5:Hid (∀ t:ByteArray,(e4=0→t=s4)→∀ W,Calls qP 42 #[.agg #[.string t,.int .i64 e4]] W fun en w'=>en=.returned (.int .i64 d)∧Below W.heap.size W w')) :
  Calls qP 12 #[.slice A m c,.string id] w fun e w'=>e=.returned (Cb (if d≠0∨1<x4 then (Clt.zero,8) else (⟨x1,x2,x3,decide (x4=1)⟩,0)))∧Aa w w':=by
 obtain⟨ans,hr⟩:∃ x:Clt×Int,x=(if d≠0∨1<x4 then (Clt.zero,8) else (⟨x1,x2,x3,decide (x4=1)⟩,0)):=⟨_,rfl⟩;rw [←hr];have HR:=qH hr;clear hr;have O0:=qH (Blk.new w 41 #[.string ⟨#[]⟩,.string ⟨#[]⟩,.int .i64 0,.bool false]);have S0:=qH (Ab (Aa.refl w) (.cells #[.string ⟨#[]⟩,.string ⟨#[]⟩,.int .i64 0,.bool false] 41))
 have z0:(w.alloc (.cells #[.string ⟨#[]⟩,.string ⟨#[]⟩,.int .i64 0,.bool false] 41)).heap.size=w.heap.size+1:=by simp
 have K1:=qH (Blk.new (w.alloc (.cells #[.string ⟨#[]⟩,.string ⟨#[]⟩,.int .i64 0,.bool false] 41)) 9 #[.string ⟨#[99,108,105,101,110,116]⟩,.string id]);have O1:=qH (O0.out.alloc (.cells #[.string ⟨#[99,108,105,101,110,116]⟩,.string id] 9));have S1:=qH (Ab S0.out (.cells #[.string ⟨#[99,108,105,101,110,116]⟩,.string id] 9));rw [z0] at K1;go_enter Tryz.func12,Tryz.ntmps12
 go_wp2_with fail
 refine(KEY.out _ _ S1.out K1.out).mono ?_;rintro e w1 ⟨rfl,q⟩;have O2:=qH (O1.out.next q.below);have S2:=qH (Ac S1.out q);clear KEY K1 O0 O1 S0 S1 q z0
 go_wp2_with fail
 refine(G.out _ S2.out).mono ?_;rintro e w2 ⟨rfl,rfl⟩;clear G;have lt0:=O2.out.lt
 have z1:(w2.alloc (.cells #[.string ⟨#[]⟩,.string ⟨#[]⟩,.int .i64 0,.bool false] 41)).heap.size=w2.heap.size+1:=by simp
 have Q3:=Blk.new (w2.alloc (.cells #[.string ⟨#[]⟩,.string ⟨#[]⟩,.int .i64 0,.bool false] 41)) 93 #[.string v,.int .i64 0];rw [z1] at Q3;have H0:Hid (LAt w w.heap.size w2.heap.size (w2.heap.size+1) 41 41 #[.string ⟨#[]⟩,.string ⟨#[]⟩,.int .i64 0,.bool false] #[.string ⟨#[]⟩,.string ⟨#[]⟩,.int .i64 0,.bool false] v 0 ((w2.alloc (.cells #[.string ⟨#[]⟩,.string ⟨#[]⟩,.int .i64 0,.bool false] 41)).alloc (.cells #[.string v,.int .i64 0] 93))):=qH ⟨(O2.out.alloc _).alloc _,(Blk.new w2 41 #[.string ⟨#[]⟩,.string ⟨#[]⟩,.int .i64 0,.bool false]).alloc _,Q3,Ab (Ab S2.out _) _,by omega⟩;clear O2 S2 Q3 z1;have y0:((w2.alloc (.cells #[.string ⟨#[]⟩,.string ⟨#[]⟩,.int .i64 0,.bool false] 41)).alloc (.cells #[.string v,.int .i64 0] 93)).cell? ⟨w2.heap.size+1,0,none⟩=some (.string v):=H0.out.q0;have y1:((w2.alloc (.cells #[.string ⟨#[]⟩,.string ⟨#[]⟩,.int .i64 0,.bool false] 41)).alloc (.cells #[.string v,.int .i64 0] 93)).cell? ⟨w2.heap.size+1,1,none⟩=some (.int .i64 0):=H0.out.q1
 go_wp2_with fail
 clear y0 y1;generalize ((w2.alloc (.cells #[.string ⟨#[]⟩,.string ⟨#[]⟩,.int .i64 0,.bool false] 41)).alloc (.cells #[.string v,.int .i64 0] 93))=W0 at *;generalize hgr:w2.heap.size+1=gr at *;generalize w2.heap.size=gx at *;refine(N1.out v (fun _=>rfl) hv _).mono ?_;rintro e u1 ⟨t1,rfl,k1,z1,q⟩;have H1:=qH (H0.out.next q);clear N1 H0 q;have a0:=H1.out.q0;have a1:=H1.out.q1;have a2:=H1.out.q.frozen 0;have a3:=H1.out.q.frozen 1;have G1:=qH (H1.out.setR t1 e1);have a4:=G1.out.q0;have a5:=G1.out.q1;have b1:=G1.out.x.frozen 0;have b0:=G1.out.xcell 0 (v:=.string ⟨#[]⟩) rfl;have J1:=qH (G1.out.setX 0 (.string x1));have a6:=J1.out.q0;have a7:=J1.out.q1
 go_wp2_with fail
 clear a0 a1 a2 a3 a4 a5 a6 a7 b0 b1 G1 H1;generalize (((u1.setCell ⟨gr,0,none⟩ (.string t1)).setCell ⟨gr,1,none⟩ (.int .i64 e1)).setCell ⟨gx,0,none⟩ (.string x1))=W1 at *;have H1:=J1;clear J1;refine(N2.out t1 k1 z1 _).mono ?_;rintro e u2 ⟨t2,rfl,k2,z2,q⟩;have H2:=qH (H1.out.next q);clear N2 H1 q;have a0:=H2.out.q0;have a1:=H2.out.q1;have a2:=H2.out.q.frozen 0;have a3:=H2.out.q.frozen 1;have G2:=qH (H2.out.setR t2 e2);have a4:=G2.out.q0;have a5:=G2.out.q1;have b1:=G2.out.x.frozen 1;have b0:=G2.out.xcell 1 (v:=.string ⟨#[]⟩) rfl;have J2:=qH (G2.out.setX 1 (.string x2));have a6:=J2.out.q0;have a7:=J2.out.q1
 go_wp2_with fail
 clear a0 a1 a2 a3 a4 a5 a6 a7 b0 b1 G2 H2;generalize (((u2.setCell ⟨gr,0,none⟩ (.string t2)).setCell ⟨gr,1,none⟩ (.int .i64 e2)).setCell ⟨gx,1,none⟩ (.string x2))=W2 at *;have H2:=J2;clear J2;refine(N3.out t2 k2 z2 _).mono ?_;rintro e u3 ⟨t3,rfl,k3,z3,q⟩;have H3:=qH (H2.out.next q);clear N3 H2 q;have a0:=H3.out.q0;have a1:=H3.out.q1;have a2:=H3.out.q.frozen 0;have a3:=H3.out.q.frozen 1;have G3:=qH (H3.out.setR t3 e3);have a4:=G3.out.q0;have a5:=G3.out.q1;have b1:=G3.out.x.frozen 2;have b0:=G3.out.xcell 2 (v:=.int .i64 0) rfl;have J3:=qH (G3.out.setX 2 (.int .i64 x3));have a6:=J3.out.q0;have a7:=J3.out.q1
 go_wp2_with fail
 clear a0 a1 a2 a3 a4 a5 a6 a7 b0 b1 G3 H3;generalize (((u3.setCell ⟨gr,0,none⟩ (.string t3)).setCell ⟨gr,1,none⟩ (.int .i64 e3)).setCell ⟨gx,2,none⟩ (.int .i64 x3))=W3 at *;have H3:=J3;clear J3;refine(N4.out t3 k3 z3 _).mono ?_;rintro e u4 ⟨t4,rfl,k4,z4,q⟩;have H4:=qH (H3.out.next q);clear N4 H3 q;have a0:=H4.out.q0;have a1:=H4.out.q1;have a2:=H4.out.q.frozen 0;have a3:=H4.out.q.frozen 1;have G4:=qH (H4.out.setR t4 e4);have a4:=G4.out.q0;have a5:=G4.out.q1;have b1:=G4.out.x.frozen 3;have b0:=G4.out.xcell 3 (v:=.bool false) rfl;have J4:=qH (G4.out.setX 3 (.bool (decide ((x4:Int)=1))));have a6:=J4.out.q0;have a7:=J4.out.q1
 go_wp2_with fail
 clear a0 a1 a2 a3 a4 a5 a6 a7 b0 b1 G4 H4;generalize (((u4.setCell ⟨gr,0,none⟩ (.string t4)).setCell ⟨gr,1,none⟩ (.int .i64 e4)).setCell ⟨gx,3,none⟩ (.bool (decide ((x4:Int)=1))))=W4 at *;have H4:=J4;clear J4;refine(N5.out t4 k4 _).mono ?_;rintro e u5 ⟨rfl,q⟩;have H5:=qH (H4.out.next q);clear N5 H4 q;have d0:=H5.out.o.c 0 (v:=.string ⟨#[]⟩) rfl;have d1:=H5.out.o.c 1 (v:=.string ⟨#[]⟩) rfl;have d2:=H5.out.o.c 2 (v:=.int .i64 0) rfl;have d3:=H5.out.o.c 3 (v:=.bool false) rfl;have f0:=H5.out.o.frozen 0;have f1:=H5.out.o.frozen 1;have f2:=H5.out.o.frozen 2;have f3:=H5.out.o.frozen 3;have y0:=H5.out.xcell 0 (v:=.string x1) rfl;have y1:=H5.out.xcell 1 (v:=.string x2) rfl;have y2:=H5.out.xcell 2 (v:=.int .i64 x3) rfl;have y3:=H5.out.xcell 3 (v:=.bool (decide ((x4:Int)=1))) rfl;have DZ:=qH (And.intro (put4 H5.out.o (.string ⟨#[]⟩) (.string ⟨#[]⟩) (.int .i64 0) (.bool false)) (Bv H5.out.s (Nat.le_refl _) (.string ⟨#[]⟩) (.string ⟨#[]⟩) (.int .i64 0) (.bool false)));have DY:=qH (And.intro (put4 H5.out.o (.string x1) (.string x2) (.int .i64 x3) (.bool (decide ((x4:Int)=1)))) (Bv H5.out.s (Nat.le_refl _) (.string x1) (.string x2) (.int .i64 x3) (.bool (decide ((x4:Int)=1)))));clear H5 k1 k2 k3 k4 z1 z2 z3 z4;by_cases hd:d=0
 ·subst hd
  by_cases hx:1<x4
  ·have hr:=HR.out
   rw [if_pos (.inr hx)] at hr;subst hr;clear HR
   have hx':(1:Int)<(x4:Int):=by omega
   go_wp2;have D1:=DZ.out.1;refine bodyPost_ret (v:=Cb (Clt.zero,8)) (by simp [results,Tryz.results12,go_sem,Cb,FZ,Clt.zero,D1.c 0 rfl,D1.c 1 rfl,D1.c 2 rfl,D1.c 3 rfl]) rfl ?_;exact⟨rfl,DZ.out.2⟩
  ·have hr:=HR.out
   rw [if_neg (by simp;omega)] at hr;subst hr;clear HR
   have hx':¬(1:Int)<(x4:Int):=by omega
   go_wp2;have D1:=DY.out.1;refine bodyPost_ret (v:=Cb (⟨x1,x2,x3,decide (x4=1)⟩,0)) (by simp [results,Tryz.results12,go_sem,Cb,FZ,D1.c 0 rfl,D1.c 1 rfl,D1.c 2 rfl,D1.c 3 rfl];try omega) rfl ?_;exact⟨rfl,DY.out.2⟩
 ·have hr:=HR.out
  rw [if_pos (.inl hd)] at hr;subst hr;clear HR
  have hdb:(d != 0)=true:=by rw [bne_iff_ne];exact hd
  go_wp2;have D1:=DZ.out.1;refine bodyPost_ret (v:=Cb (Clt.zero,8)) (by simp [results,Tryz.results12,go_sem,Cb,FZ,Clt.zero,D1.c 0 rfl,D1.c 1 rfl,D1.c 2 rfl,D1.c 3 rfl]) rfl ?_;exact⟨rfl,DZ.out.2⟩
theorem Xb (A:Option Addr) (m c:Nat) (id:ByteArray) (h:Int) (c1 c2:ByteArray) (c3:Int) (c4:Bool) (e:Int) (w:World) (he:e≠0)
  (C:Hid (∀ W,Aa w W→Calls qP 12 #[.slice A m c,.string id] W fun en w'=>en=.returned (.tuple #[.agg #[.string c1,.string c2,.int .i64 c3,.bool c4],.int .i64 e])∧Aa W w')) :
  Calls qP 32 #[.slice A m c,.string id,.int .i64 h] w fun en w'=>en=.returned (Ck (Sn.zero,e))∧Aa w w':=by
 have hb:(e != 0)=true:=by rw [bne_iff_ne];exact he
 clear he;have O0:=qH (Blk.new w 62 #[.int .i64 0,.string ⟨#[]⟩]);have S0:=qH (Ab (Aa.refl w) (.cells #[.int .i64 0,.string ⟨#[]⟩] 62));go_enter Tryz.func32,Tryz.ntmps32
 go_wp2_with fail
 refine(C.out _ S0.out).mono ?_;rintro en w1 ⟨rfl,q⟩;have O1:=qH ((O0.out.next q.below).alloc (.cells #[.string c1,.string c2,.int .i64 c3,.bool c4] 41));have S1:=qH (Ab (Ac S0.out q) (.cells #[.string c1,.string c2,.int .i64 c3,.bool c4] 41));clear C O0 S0 q;have d0:(w1.alloc (.cells #[.string c1,.string c2,.int .i64 c3,.bool c4] 41)).cell? ⟨w.heap.size,0,none⟩=some (.int .i64 0):=O1.out.c 0 rfl;have d1:(w1.alloc (.cells #[.string c1,.string c2,.int .i64 c3,.bool c4] 41)).cell? ⟨w.heap.size,1,none⟩=some (.string ⟨#[]⟩):=O1.out.c 1 rfl;have f0:=O1.out.frozen 0;have f1:=O1.out.frozen 1;have D:=qH (And.intro (put2 O1.out (.int .i64 0) (.string ⟨#[]⟩)) (Cp S1.out (Nat.le_refl _) (.int .i64 0) (.string ⟨#[]⟩)));clear O1 S1;go_wp2;have D1:=D.out.1;refine bodyPost_ret (v:=Ck (Sn.zero,e)) (by simp [results,Tryz.results32,go_sem,Ck,snV,Sn.zero,D1.c 0 rfl,D1.c 1 rfl]) rfl ?_;exact⟨rfl,D.out.2⟩
theorem Xc (A:Option Addr) (m c:Nat) (id:ByteArray) (h:Int) (c1 c2:ByteArray) (c3:Int) (c4:Bool) (w:World) (hh:h<1)
  (C:Hid (∀ W,Aa w W→Calls qP 12 #[.slice A m c,.string id] W fun en w'=>en=.returned (.tuple #[.agg #[.string c1,.string c2,.int .i64 c3,.bool c4],.int .i64 0])∧Aa W w')) :
  Calls qP 32 #[.slice A m c,.string id,.int .i64 h] w fun en w'=>en=.returned (Ck (Sn.zero,13))∧Aa w w':=by
 have O0:=qH (Blk.new w 62 #[.int .i64 0,.string ⟨#[]⟩]);have S0:=qH (Ab (Aa.refl w) (.cells #[.int .i64 0,.string ⟨#[]⟩] 62));go_enter Tryz.func32,Tryz.ntmps32
 go_wp2_with fail
 refine(C.out _ S0.out).mono ?_;rintro en w1 ⟨rfl,q⟩;have O1:=qH ((O0.out.next q.below).alloc (.cells #[.string c1,.string c2,.int .i64 c3,.bool c4] 41));have S1:=qH (Ab (Ac S0.out q) (.cells #[.string c1,.string c2,.int .i64 c3,.bool c4] 41));clear C O0 S0 q;have d0:(w1.alloc (.cells #[.string c1,.string c2,.int .i64 c3,.bool c4] 41)).cell? ⟨w.heap.size,0,none⟩=some (.int .i64 0):=O1.out.c 0 rfl;have d1:(w1.alloc (.cells #[.string c1,.string c2,.int .i64 c3,.bool c4] 41)).cell? ⟨w.heap.size,1,none⟩=some (.string ⟨#[]⟩):=O1.out.c 1 rfl;have f0:=O1.out.frozen 0;have f1:=O1.out.frozen 1;have D:=qH (And.intro (put2 O1.out (.int .i64 0) (.string ⟨#[]⟩)) (Cp S1.out (Nat.le_refl _) (.int .i64 0) (.string ⟨#[]⟩)));clear O1 S1;go_wp2;have D1:=D.out.1;refine bodyPost_ret (v:=Ck (Sn.zero,13)) (by simp [results,Tryz.results32,go_sem,Ck,snV,Sn.zero,D1.c 0 rfl,D1.c 1 rfl]) rfl ?_;exact⟨rfl,D.out.2⟩
theorem UQ (A:Option Addr) (m c:Nat) (id key n v s1 s2:ByteArray) (ok:Bool) (h:Int) (c1 c2:ByteArray) (c3:Int) (c4:Bool) (e1 e2:Int) (x1:Nat) (x2:ByteArray) (d:Int) (w:World) (hh:¬h<1) (hv:v.size≤9223372036854775807)
  (C:Hid (∀ W,Aa w W→Calls qP 12 #[.slice A m c,.string id] W fun en w'=>en=.returned (.tuple #[.agg #[.string c1,.string c2,.int .i64 c3,.bool c4],.int .i64 0])∧Aa W w'))
  (NUM:Hid (∀ W,Aa w W→Calls qP 22 #[.int .i64 h] W fun en w'=>en=.returned (.string n)∧Aa W w'))
  (KEY:Hid (∀ W b,Aa w W→Blk W b 9 #[.string ⟨#[115,101,101,110]⟩,.string id,.string n]→Calls qP 39 #[.slice (some ⟨b,0,none⟩) 3 3] W fun e w'=>e=.returned (.string key)∧Aa W w'))
  (G:Hid (∀ W,Aa w W→Calls qP 17 #[.slice A m c,.string key] W fun e w'=>e=.returned (.tuple #[.string v,.bool ok])∧w'=W))
  (N1:Hid (Rd 41 v 0 s1 e1 (.int .i64 x1)))
  (N2:Hid (Rd 40 s1 e1 s2 e2 (.string x2)))
  (N5:Hid (∀ t:ByteArray,(e2=0→t=s2)→∀ W,Calls qP 42 #[.agg #[.string t,.int .i64 e2]] W fun en w'=>en=.returned (.int .i64 d)∧Below W.heap.size W w')) :
  Calls qP 32 #[.slice A m c,.string id,.int .i64 h] w fun en w'=>en=.returned (Ck (if ok=false∨1099511627776<h∨d≠0 then (Sn.zero,13) else (⟨x1,x2⟩,0)))∧Aa w w':=by
 obtain⟨ans,hr⟩:∃ x:Sn×Int,x=(if ok=false∨1099511627776<h∨d≠0 then (Sn.zero,13) else (⟨x1,x2⟩,0)):=⟨_,rfl⟩;rw [←hr];have HR:=qH hr;clear hr;have O0:=qH (Blk.new w 62 #[.int .i64 0,.string ⟨#[]⟩]);have S0:=qH (Ab (Aa.refl w) (.cells #[.int .i64 0,.string ⟨#[]⟩] 62));go_enter Tryz.func32,Tryz.ntmps32
 go_wp2_with fail
 refine(C.out _ S0.out).mono ?_;rintro en w1 ⟨rfl,q⟩;have O1:=qH ((O0.out.next q.below).alloc (.cells #[.string c1,.string c2,.int .i64 c3,.bool c4] 41));have S1:=qH (Ab (Ac S0.out q) (.cells #[.string c1,.string c2,.int .i64 c3,.bool c4] 41));clear C O0 S0 q
 go_wp2_with fail
 refine(NUM.out _ S1.out).mono ?_;rintro en w2 ⟨rfl,q⟩;have O2:=qH ((O1.out.next q.below).alloc (.cells #[.string ⟨#[115,101,101,110]⟩,.string id,.string n] 9));have S2:=qH (Ab (Ac S1.out q) (.cells #[.string ⟨#[115,101,101,110]⟩,.string id,.string n] 9));have K2:=qH (Blk.new w2 9 #[.string ⟨#[115,101,101,110]⟩,.string id,.string n]);clear NUM O1 S1 q
 go_wp2_with fail
 refine(KEY.out _ _ S2.out K2.out).mono ?_;rintro en w3 ⟨rfl,q⟩;have O3:=qH (O2.out.next q.below);have S3:=qH (Ac S2.out q);clear KEY K2 O2 S2 q
 go_wp2_with fail
 refine(G.out _ S3.out).mono ?_;rintro en w4 ⟨rfl,rfl⟩;clear G;have lt0:=O3.out.lt
 have z1:(w4.alloc (.cells #[.int .i64 0,.string ⟨#[]⟩] 62)).heap.size=w4.heap.size+1:=by simp
 have Q3:=Blk.new (w4.alloc (.cells #[.int .i64 0,.string ⟨#[]⟩] 62)) 93 #[.string v,.int .i64 0];rw [z1] at Q3;have H0:Hid (LAt w w.heap.size w4.heap.size (w4.heap.size+1) 62 62 #[.int .i64 0,.string ⟨#[]⟩] #[.int .i64 0,.string ⟨#[]⟩] v 0 ((w4.alloc (.cells #[.int .i64 0,.string ⟨#[]⟩] 62)).alloc (.cells #[.string v,.int .i64 0] 93))):=qH ⟨(O3.out.alloc _).alloc _,(Blk.new w4 62 #[.int .i64 0,.string ⟨#[]⟩]).alloc _,Q3,Ab (Ab S3.out _) _,by omega⟩;clear O3 S3 Q3 z1;have y0:((w4.alloc (.cells #[.int .i64 0,.string ⟨#[]⟩] 62)).alloc (.cells #[.string v,.int .i64 0] 93)).cell? ⟨w4.heap.size+1,0,none⟩=some (.string v):=H0.out.q0;have y1:((w4.alloc (.cells #[.int .i64 0,.string ⟨#[]⟩] 62)).alloc (.cells #[.string v,.int .i64 0] 93)).cell? ⟨w4.heap.size+1,1,none⟩=some (.int .i64 0):=H0.out.q1
 go_wp2_with fail
 clear y0 y1;generalize ((w4.alloc (.cells #[.int .i64 0,.string ⟨#[]⟩] 62)).alloc (.cells #[.string v,.int .i64 0] 93))=W0 at *;generalize hgr:w4.heap.size+1=gr at *;generalize w4.heap.size=gx at *;refine(N1.out v (fun _=>rfl) hv _).mono ?_;rintro e u1 ⟨t1,rfl,k1,z1,q⟩;have H1:=qH (H0.out.next q);clear N1 H0 q;have a0:=H1.out.q0;have a1:=H1.out.q1;have a2:=H1.out.q.frozen 0;have a3:=H1.out.q.frozen 1;have G1:=qH (H1.out.setR t1 e1);have a4:=G1.out.q0;have a5:=G1.out.q1;have b1:=G1.out.x.frozen 0;have b0:=G1.out.xcell 0 (v:=.int .i64 0) rfl;have J1:=qH (G1.out.setX 0 (.int .i64 x1));have a6:=J1.out.q0;have a7:=J1.out.q1
 go_wp2_with fail
 clear a0 a1 a2 a3 a4 a5 a6 a7 b0 b1 G1 H1;generalize (((u1.setCell ⟨gr,0,none⟩ (.string t1)).setCell ⟨gr,1,none⟩ (.int .i64 e1)).setCell ⟨gx,0,none⟩ (.int .i64 x1))=W1 at *;have H1:=J1;clear J1;refine(N2.out t1 k1 z1 _).mono ?_;rintro e u2 ⟨t2,rfl,k2,z2,q⟩;have H2:=qH (H1.out.next q);clear N2 H1 q;have a0:=H2.out.q0;have a1:=H2.out.q1;have a2:=H2.out.q.frozen 0;have a3:=H2.out.q.frozen 1;have G2:=qH (H2.out.setR t2 e2);have a4:=G2.out.q0;have a5:=G2.out.q1;have b1:=G2.out.x.frozen 1;have b0:=G2.out.xcell 1 (v:=.string ⟨#[]⟩) rfl;have J2:=qH (G2.out.setX 1 (.string x2));have a6:=J2.out.q0;have a7:=J2.out.q1;by_cases hk:ok=false∨1099511627776<h
 ·have hr:=HR.out
  rw [if_pos (by rcases hk with h1|h1;exact .inl h1;exact .inr (.inl h1))] at hr
  subst hr;clear HR;have d0:=J2.out.o.c 0 (v:=.int .i64 0) rfl;have d1:=J2.out.o.c 1 (v:=.string ⟨#[]⟩) rfl;have f0:=J2.out.o.frozen 0;have f1:=J2.out.o.frozen 1;have DZ:=qH (And.intro (put2 J2.out.o (.int .i64 0) (.string ⟨#[]⟩)) (Cp J2.out.s (Nat.le_refl _) (.int .i64 0) (.string ⟨#[]⟩)));clear J2 N5
  have hk':ok=false∨(ok=true∧1099511627776<h):=by
   rcases hk with h1|h1
   ·exact .inl h1
   ·cases ok
    ·exact .inl rfl
    ·exact .inr ⟨rfl,h1⟩
  clear hk
  rcases hk' with hk'|⟨hk',hk2⟩
  all_goals subst hk'
  all_goals go_wp2
  all_goals have D1:=DZ.out.1
  all_goals refine bodyPost_ret (v:=Ck (Sn.zero,13)) (by simp [results,Tryz.results32,go_sem,Ck,snV,Sn.zero,D1.c 0 rfl,D1.c 1 rfl]) rfl ?_
  all_goals exact⟨rfl,DZ.out.2⟩
 ·have hk1:ok=true:=by cases ok;exact absurd (.inl rfl) hk;rfl
  have hk2:¬1099511627776<h:=fun x=>hk (.inr x);subst hk1;clear hk
  go_wp2_with fail
  clear a0 a1 a2 a3 a4 a5 a6 a7 b0 b1 G2 H2;generalize (((u2.setCell ⟨gr,0,none⟩ (.string t2)).setCell ⟨gr,1,none⟩ (.int .i64 e2)).setCell ⟨gx,1,none⟩ (.string x2))=W2 at *;refine(N5.out t2 k2 _).mono ?_;rintro e u5 ⟨rfl,q⟩;have H5:=qH (J2.out.next q);clear N5 J2 q;have d0:=H5.out.o.c 0 (v:=.int .i64 0) rfl;have d1:=H5.out.o.c 1 (v:=.string ⟨#[]⟩) rfl;have f0:=H5.out.o.frozen 0;have f1:=H5.out.o.frozen 1;have y0:=H5.out.xcell 0 (v:=.int .i64 x1) rfl;have y1:=H5.out.xcell 1 (v:=.string x2) rfl;have DZ:=qH (And.intro (put2 H5.out.o (.int .i64 0) (.string ⟨#[]⟩)) (Cp H5.out.s (Nat.le_refl _) (.int .i64 0) (.string ⟨#[]⟩)));have DY:=qH (And.intro (put2 H5.out.o (.int .i64 x1) (.string x2)) (Cp H5.out.s (Nat.le_refl _) (.int .i64 x1) (.string x2)));clear H5;by_cases hd:d=0
  ·subst hd
   have hr:=HR.out;rw [if_neg (by simp;omega)] at hr;subst hr;clear HR;go_wp2;have D1:=DY.out.1;refine bodyPost_ret (v:=Ck (⟨x1,x2⟩,0)) (by simp [results,Tryz.results32,go_sem,Ck,snV,D1.c 0 rfl,D1.c 1 rfl]) rfl ?_;exact⟨rfl,DY.out.2⟩
  ·have hr:=HR.out
   rw [if_pos (.inr (.inr hd))] at hr;subst hr;clear HR
   have hdb:(d != 0)=true:=by rw [bne_iff_ne];exact hd
   go_wp2;have D1:=DZ.out.1;refine bodyPost_ret (v:=Ck (Sn.zero,13)) (by simp [results,Tryz.results32,go_sem,Ck,snV,Sn.zero,D1.c 0 rfl,D1.c 1 rfl]) rfl ?_;exact⟨rfl,DZ.out.2⟩
def BD (L:List KV):Prop:=∀ p ∈ L,p.1.size≤1000000∧p.2.size≤1000000
theorem BD.get {L:List KV} (h:BD L) (k:ByteArray):((AD L k).getD ⟨#[]⟩).size≤1000000:=by
 unfold AD
 cases hf:L.find? (fun x=>decide (x.1=k)) with
 | none=>simp [ByteArray.size]
 | some p=>exact(h p (List.mem_of_find?_eq_some hf)).2
theorem MH (n:Int) (w:World):Calls qP 22 #[.int .i64 n] w fun e w'=>e=.returned (.string (nTx n))∧Aa w w':=(Xa n w).mono fun _ _ ⟨he,hb⟩=>⟨he,Ad hb⟩
theorem Ns (n:Int):(nTx n).size≤14:=by unfold nTx;rw [Aw,Iz];exact Nat.le_refl _
section
variable {s:Value} {L:List KV} {w:World}
theorem Nt (hP:Prs w s L) (hu:Up L) (hz:L.length≤1000000000) (hL:BD L) (id:ByteArray) (hid:id.size≤1000000) :
  Calls qP 12 #[s,.string id] w fun e w'=>e=.returned (Cb (AA L id))∧Aa w w':=by
 have hsz:=hL.get (BN id);have KEY:=qH (fun W b (_:Aa w W) hB=>Tk Gq id b W hB (by decide) hid);have G:=qH (fun W (hW:Aa w W)=>dM s L (BN id) W (hP.below hW.below) hu hz);unfold AA;obtain⟨A,c,rfl,_,_⟩:=hP
 cases hg:AD L (BN id) with
 | none =>
   rw [hg] at G;exact Pv A _ c id _ w KEY G
 | some v =>
   rw [hg] at G hsz;have h:=Pw A _ c id _ v _ _ _ _ _ _ _ _ _ _ _ _ _ w (by simp only [Option.getD_some] at hsz;omega) KEY G (qH (He v 0)) (qH (He _ _)) (qH (Jw _ _)) (qH (Jw _ _)) (qH (fun t k W=>Ko _ _ t k W));refine h.mono fun e w' ⟨he,hs⟩=>⟨?_,hs⟩;rw [he];simp only [Option.bind_some,Gm]
   split<;>rfl
theorem Ro (hP:Prs w s L) (hu:Up L) (hz:L.length≤1000000000) (hL:BD L) (id:ByteArray) (hid:id.size≤1000000) (h:Int) :
  Calls qP 32 #[s,.string id,.int .i64 h] w fun e w'=>e=.returned (Ck (Dn L id h))∧Aa w w':=by
 have C:=qH (fun W (hW:Aa w W)=>Nt (hP.below hW.below) hu hz hL id hid);have NUM:=qH (fun W (_:Aa w W)=>MH h W);have KEY:=qH (fun W b (_:Aa w W) hB=>cD La id (nTx h) b W hB (by decide) hid (by have:=Ns h;omega));have G:=qH (fun W (hW:Aa w W)=>dM s L (Bf id h) W (hP.below hW.below) hu hz);have hsz:=hL.get (Bf id h);unfold Dn;obtain⟨A,c,rfl,_,_⟩:=hP;unfold Cb at C;obtain⟨⟨⟨c1,c2,c3,c4⟩,e⟩,hc⟩:∃ x,AA L id=x:=⟨_,rfl⟩;rw [hc] at C ⊢;simp only;by_cases he:e=0
 ·subst he
  rw [if_neg (by simp)];by_cases hh:h<1
  ·rw [if_pos (.inl hh)]
   exact Xc A _ c id h _ _ _ _ w hh C
  ·have k:=UQ A _ c id _ _ _ _ _ _ h _ _ _ _ _ _ _ _ _ w hh (by omega) C NUM KEY G (qH (Jw _ 0)) (qH (He _ _)) (qH (fun t k W=>Ko _ _ t k W))
   refine k.mono fun e w' ⟨he,hs⟩=>⟨?_,hs⟩;rw [he];by_cases hb:1099511627776<h
   ·rw [if_pos (.inr (.inl hb)),if_pos (.inr hb)]
   ·rw [if_neg (show ¬(h<1∨1099511627776<h) by omega)]
    cases hg:AD L (Bf id h) with
    | none=>rw [if_pos (.inl rfl)];rfl
    | some v =>
      simp only [Option.getD_some,Option.bind_some,UE,Option.isSome_some,Bool.true_eq_false,false_or];by_cases hd:AG (Aj (Ao v 0).1.1 (Ao v 0).1.2).1.1 (Aj (Ao v 0).1.1 (Ao v 0).1.2).1.2=0
      ·rw [if_neg (by simp [hd];omega),if_neg (by simp [hd])]
      ·rw [if_pos (.inr hd),if_pos hd]
 ·rw [if_pos he]
  exact Xb A _ c id h _ _ _ _ e w he C
end
theorem Xe:qP.eqGuardType qP.depth 34=false:=by kernel_rfl
theorem Rp (key:ByteArray) (c:ByteArray) (a b:Int) (r m:ByteArray) (c':ByteArray) (a' b':Int) (r' m':ByteArray) (f:Int) (w:World)
  (K1:Hid (∀ W,Calls qP 14 #[.string key,.agg #[.string c,.int .i64 a,.int .i64 b,.string r,.string m]] W fun e w'=>e=.returned (.tuple #[.agg #[.string c',.int .i64 a',.int .i64 b',.string r',.string m'],.int .i64 f])∧Aa W w')) :
  Calls qP 128 #[.string key,.agg #[.string c,.int .i64 a,.int .i64 b,.string r,.string m]] w fun e w'=>e=.returned (.bool (decide (f=0∧(c'=c∧a'=a∧b'=b∧r'=r∧m'=m))))∧Aa w w':=by
 have HB:=qH (Blk.new w 34 #[.string c,.int .i64 a,.int .i64 b,.string r,.string m]);have HS:=qH (show Aa w (w.alloc (.cells #[.string c,.int .i64 a,.int .i64 b,.string r,.string m] 34)) from Ad ((Below.refl _ w).alloc (Nat.le_refl _) _));have y0:(w.alloc (.cells #[.string c,.int .i64 a,.int .i64 b,.string r,.string m] 34)).cell? ⟨w.heap.size,0,none⟩=some (.string c):=HB.out.c 0 rfl;have y1:(w.alloc (.cells #[.string c,.int .i64 a,.int .i64 b,.string r,.string m] 34)).cell? ⟨w.heap.size,1,none⟩=some (.int .i64 a):=HB.out.c 1 rfl;have y2:(w.alloc (.cells #[.string c,.int .i64 a,.int .i64 b,.string r,.string m] 34)).cell? ⟨w.heap.size,2,none⟩=some (.int .i64 b):=HB.out.c 2 rfl;have y3:(w.alloc (.cells #[.string c,.int .i64 a,.int .i64 b,.string r,.string m] 34)).cell? ⟨w.heap.size,3,none⟩=some (.string r):=HB.out.c 3 rfl;have y4:(w.alloc (.cells #[.string c,.int .i64 a,.int .i64 b,.string r,.string m] 34)).cell? ⟨w.heap.size,4,none⟩=some (.string m):=HB.out.c 4 rfl;have EQ:∀ W:World,(Op.equalIn 10000 34 (.agg #[.string c',.int .i64 a',.int .i64 b',.string r',.string m']) (.agg #[.string c,.int .i64 a,.int .i64 b,.string r,.string m])).run qP W=.ok (decide (c'=c∧a'=a∧b'=b∧r'=r∧m'=m)) W:=fun W=>Xd _ _ _ _ _ _ _ _ _ _ W;have GU:=Xe;go_enter Tryz.func128,Tryz.ntmps128
 go_wp2_with fail
 refine(K1.out _).mono ?_;rintro e w1 ⟨rfl,q1⟩;have X1:=HB.out.next q1.below;have S1:Aa w w1:=Ad (Ae HS.out.below q1.below);have hlt:w.heap.size≤w1.heap.size:=Nat.le_of_lt X1.lt;clear HB HS K1 q1 y0 y1 y2 y3 y4;have X2:=X1.alloc (.cells #[.string c',.int .i64 a',.int .i64 b',.string r',.string m'] 34);have S2:=qH (show Aa w (w1.alloc (.cells #[.string c',.int .i64 a',.int .i64 b',.string r',.string m'] 34)) from Ad (S1.below.alloc hlt _));have y0:(w1.alloc (.cells #[.string c',.int .i64 a',.int .i64 b',.string r',.string m'] 34)).cell? ⟨w.heap.size,0,none⟩=some (.string c):=X2.c 0 rfl;have y1:(w1.alloc (.cells #[.string c',.int .i64 a',.int .i64 b',.string r',.string m'] 34)).cell? ⟨w.heap.size,1,none⟩=some (.int .i64 a):=X2.c 1 rfl;have y2:(w1.alloc (.cells #[.string c',.int .i64 a',.int .i64 b',.string r',.string m'] 34)).cell? ⟨w.heap.size,2,none⟩=some (.int .i64 b):=X2.c 2 rfl;have y3:(w1.alloc (.cells #[.string c',.int .i64 a',.int .i64 b',.string r',.string m'] 34)).cell? ⟨w.heap.size,3,none⟩=some (.string r):=X2.c 3 rfl;have y4:(w1.alloc (.cells #[.string c',.int .i64 a',.int .i64 b',.string r',.string m'] 34)).cell? ⟨w.heap.size,4,none⟩=some (.string m):=X2.c 4 rfl;clear X1 X2 S1 hlt;by_cases hf:f=0
 ·subst hf
  go_wp2
  go_ret
  exact⟨rfl,S2.out⟩
 ·have hfe:(f==0)=false:=by rw [beq_eq_false_iff_ne];exact hf
  go_wp2
  go_ret
  exact⟨by simp [hf],S2.out⟩
theorem hU (key:ByteArray) (h:Hdr) (w:World) (hk:key.size≤1099511627776) :
  Calls qP 128 #[.string key,hdV h] w fun e w'=>e=.returned (.bool (EC key h))∧Aa w w':=by
 have K1:=qH (fun W=>WO key h W hk);unfold Bu at K1
 have e:EC key h=decide ((AO key h).2=0∧((AO key h).1.chain=h.chain∧(AO key h).1.height=h.height∧(AO key h).1.time=h.time∧(AO key h).1.root=h.root∧(AO key h).1.mac=h.mac)):=by
  unfold EC;generalize (AO key h).1=x;obtain⟨c,a,b,r,m⟩:=x;obtain⟨c',a',b',r',m'⟩:=h;simp
 rw [e];exact Rp key h.chain h.height h.time h.root h.mac _ _ _ _ _ _ w K1
theorem Nu {x y:ByteArray} (h:x≠y):(x.toList==y.toList)=false:=by
 rw [beq_eq_false_iff_ne];exact fun e=>h ((Kp x y).mp e)
theorem LX (c k raw:ByteArray) (ht:Int) (w:World) :
  Calls qP 77 #[.agg #[.string c,.string k,.int .i64 ht,.bool true],.string raw] w fun en w'=>en=.returned (Bu (Hdr.zero,12))∧Aa w w':=by
 have z0:(w.alloc (.cells #[.string c,.string k,.int .i64 ht,.bool true] 41)).heap.size=w.heap.size+1:=by simp
 have C0:=qH ((Blk.new w 41 #[.string c,.string k,.int .i64 ht,.bool true]).alloc (.cells #[.string ⟨#[]⟩,.int .i64 0,.int .i64 0,.string ⟨#[]⟩,.string ⟨#[]⟩] 34));have O:=Blk.new (w.alloc (.cells #[.string c,.string k,.int .i64 ht,.bool true] 41)) 34 #[.string ⟨#[]⟩,.int .i64 0,.int .i64 0,.string ⟨#[]⟩,.string ⟨#[]⟩];rw [z0] at O;have O0:=qH O;have S0:=qH (Ab (Ab (Aa.refl w) (.cells #[.string c,.string k,.int .i64 ht,.bool true] 41)) (.cells #[.string ⟨#[]⟩,.int .i64 0,.int .i64 0,.string ⟨#[]⟩,.string ⟨#[]⟩] 34));clear z0 O;have x3:((w.alloc (.cells #[.string c,.string k,.int .i64 ht,.bool true] 41)).alloc (.cells #[.string ⟨#[]⟩,.int .i64 0,.int .i64 0,.string ⟨#[]⟩,.string ⟨#[]⟩] 34)).cell? ⟨w.heap.size,3,none⟩=some (.bool true):=C0.out.c 3 rfl;have D:=qH (And.intro O0.out S0.out);clear C0 O0 S0;go_enter Tryz.func77,Tryz.ntmps77;go_wp2;have D1:=D.out.1;refine bodyPost_ret (v:=Bu (Hdr.zero,12)) (by simp [results,Tryz.results77,go_sem,Bu,hdV,Hdr.zero,D1.c 0 rfl,D1.c 1 rfl,D1.c 2 rfl,D1.c 3 rfl,D1.c 4 rfl]) rfl ?_;exact⟨rfl,D.out.2⟩
theorem Px (c k raw:ByteArray) (ht:Int) (h1:ByteArray) (h2 h3:Int) (h4 h5:ByteArray) (e:Int) (g:Bool) (w:World)
  (P1:Hid (∀ W,Aa w W→Calls qP 127 #[.string raw] W fun en w'=>en=.returned (.tuple #[.agg #[.string h1,.int .i64 h2,.int .i64 h3,.string h4,.string h5],.int .i64 e])∧Aa W w'))
  (P2:Hid (∀ W,Aa w W→Calls qP 128 #[.string k,.agg #[.string h1,.int .i64 h2,.int .i64 h3,.string h4,.string h5]] W fun en w'=>en=.returned (.bool g)∧Aa W w')) :
  Calls qP 77 #[.agg #[.string c,.string k,.int .i64 ht,.bool false],.string raw] w fun en w'=>en=.returned (Bu (if e≠0 then (Hdr.zero,e) else if h1≠c∨g=false then (Hdr.zero,24) else if h2<1∨1099511627776<h2 then (Hdr.zero,13) else (⟨h1,h2,h3,h4,h5⟩,0)))∧Aa w w':=by
 obtain⟨ans,hr⟩:∃ x:Hdr×Int,x=(if e≠0 then (Hdr.zero,e) else if h1≠c∨g=false then (Hdr.zero,24) else if h2<1∨1099511627776<h2 then (Hdr.zero,13) else (⟨h1,h2,h3,h4,h5⟩,0)):=⟨_,rfl⟩;rw [←hr];have HR:=qH hr;clear hr
 have z0:(w.alloc (.cells #[.string c,.string k,.int .i64 ht,.bool false] 41)).heap.size=w.heap.size+1:=by simp
 have C0:=qH ((Blk.new w 41 #[.string c,.string k,.int .i64 ht,.bool false]).alloc (.cells #[.string ⟨#[]⟩,.int .i64 0,.int .i64 0,.string ⟨#[]⟩,.string ⟨#[]⟩] 34));have O:=Blk.new (w.alloc (.cells #[.string c,.string k,.int .i64 ht,.bool false] 41)) 34 #[.string ⟨#[]⟩,.int .i64 0,.int .i64 0,.string ⟨#[]⟩,.string ⟨#[]⟩];rw [z0] at O;have O0:=qH O;have S0:=qH (Ab (Ab (Aa.refl w) (.cells #[.string c,.string k,.int .i64 ht,.bool false] 41)) (.cells #[.string ⟨#[]⟩,.int .i64 0,.int .i64 0,.string ⟨#[]⟩,.string ⟨#[]⟩] 34));clear z0 O;have x3:((w.alloc (.cells #[.string c,.string k,.int .i64 ht,.bool false] 41)).alloc (.cells #[.string ⟨#[]⟩,.int .i64 0,.int .i64 0,.string ⟨#[]⟩,.string ⟨#[]⟩] 34)).cell? ⟨w.heap.size,3,none⟩=some (.bool false):=C0.out.c 3 rfl;go_enter Tryz.func77,Tryz.ntmps77
 go_wp2_with fail
 clear x3;refine(P1.out _ S0.out).mono ?_;rintro en w1 ⟨rfl,q⟩;have C1:=qH ((C0.out.next q.below).alloc (.cells #[.string h1,.int .i64 h2,.int .i64 h3,.string h4,.string h5] 34));have O1:=qH ((O0.out.next q.below).alloc (.cells #[.string h1,.int .i64 h2,.int .i64 h3,.string h4,.string h5] 34));have S1:=qH (Ab (Ac S0.out q) (.cells #[.string h1,.int .i64 h2,.int .i64 h3,.string h4,.string h5] 34));have X1:=qH (Blk.new w1 34 #[.string h1,.int .i64 h2,.int .i64 h3,.string h4,.string h5]);clear C0 O0 S0 P1 q;by_cases he:e=0
 ·subst he
  have y0:(w1.alloc (.cells #[.string h1,.int .i64 h2,.int .i64 h3,.string h4,.string h5] 34)).cell? ⟨w.heap.size,0,none⟩=some (.string c):=C1.out.c 0 rfl;have y1:(w1.alloc (.cells #[.string h1,.int .i64 h2,.int .i64 h3,.string h4,.string h5] 34)).cell? ⟨w.heap.size,1,none⟩=some (.string k):=C1.out.c 1 rfl;have x0:(w1.alloc (.cells #[.string h1,.int .i64 h2,.int .i64 h3,.string h4,.string h5] 34)).cell? ⟨w1.heap.size,0,none⟩=some (.string h1):=X1.out.c 0 rfl;have x1:(w1.alloc (.cells #[.string h1,.int .i64 h2,.int .i64 h3,.string h4,.string h5] 34)).cell? ⟨w1.heap.size,1,none⟩=some (.int .i64 h2):=X1.out.c 1 rfl;have x2:(w1.alloc (.cells #[.string h1,.int .i64 h2,.int .i64 h3,.string h4,.string h5] 34)).cell? ⟨w1.heap.size,2,none⟩=some (.int .i64 h3):=X1.out.c 2 rfl;have x3:(w1.alloc (.cells #[.string h1,.int .i64 h2,.int .i64 h3,.string h4,.string h5] 34)).cell? ⟨w1.heap.size,3,none⟩=some (.string h4):=X1.out.c 3 rfl;have x4:(w1.alloc (.cells #[.string h1,.int .i64 h2,.int .i64 h3,.string h4,.string h5] 34)).cell? ⟨w1.heap.size,4,none⟩=some (.string h5):=X1.out.c 4 rfl;by_cases hc:h1=c
  ·subst hc
   go_wp2_with fail
   refine(P2.out _ S1.out).mono ?_;rintro en w2 ⟨rfl,q⟩;have O2:=qH (O1.out.next q.below);have X2:=qH (X1.out.next q.below);have S2:=qH (Ac S1.out q);clear P2 q C1 O1 X1 S1 x0 x1 x2 x3 x4 y0 y1;have d0:w2.cell? ⟨w.heap.size+1,0,none⟩=some (.string ⟨#[]⟩):=O2.out.c 0 rfl;have d1:w2.cell? ⟨w.heap.size+1,1,none⟩=some (.int .i64 0):=O2.out.c 1 rfl;have d2:w2.cell? ⟨w.heap.size+1,2,none⟩=some (.int .i64 0):=O2.out.c 2 rfl;have d3:w2.cell? ⟨w.heap.size+1,3,none⟩=some (.string ⟨#[]⟩):=O2.out.c 3 rfl;have d4:w2.cell? ⟨w.heap.size+1,4,none⟩=some (.string ⟨#[]⟩):=O2.out.c 4 rfl;have f0:=O2.out.frozen 0;have f1:=O2.out.frozen 1;have f2:=O2.out.frozen 2;have f3:=O2.out.frozen 3;have f4:=O2.out.frozen 4;have x0:w2.cell? ⟨w1.heap.size,0,none⟩=some (.string h1):=X2.out.c 0 rfl;have x1:w2.cell? ⟨w1.heap.size,1,none⟩=some (.int .i64 h2):=X2.out.c 1 rfl;have x2:w2.cell? ⟨w1.heap.size,2,none⟩=some (.int .i64 h3):=X2.out.c 2 rfl;have x3:w2.cell? ⟨w1.heap.size,3,none⟩=some (.string h4):=X2.out.c 3 rfl;have x4:w2.cell? ⟨w1.heap.size,4,none⟩=some (.string h5):=X2.out.c 4 rfl;have DY:=qH (And.intro (CK O2.out (.string h1) (.int .i64 h2) (.int .i64 h3) (.string h4) (.string h5)) (AE (b:=w.heap.size+1) S2.out (by omega) (.string h1) (.int .i64 h2) (.int .i64 h3) (.string h4) (.string h5)));have D:=qH (And.intro (CK O2.out (.string ⟨#[]⟩) (.int .i64 0) (.int .i64 0) (.string ⟨#[]⟩) (.string ⟨#[]⟩)) (AE (b:=w.heap.size+1) S2.out (by omega) (.string ⟨#[]⟩) (.int .i64 0) (.int .i64 0) (.string ⟨#[]⟩) (.string ⟨#[]⟩)));clear O2 X2 S2
   cases g with
   | false =>
     have hr:=HR.out;rw [if_neg (by simp),if_pos (.inr rfl)] at hr;subst hr;clear HR;go_wp2;have D1:=D.out.1;refine bodyPost_ret (v:=Bu (Hdr.zero,24)) (by simp [results,Tryz.results77,go_sem,Bu,hdV,Hdr.zero,D1.c 0 rfl,D1.c 1 rfl,D1.c 2 rfl,D1.c 3 rfl,D1.c 4 rfl]) rfl ?_;exact⟨rfl,D.out.2⟩
   | true =>
     by_cases hh:h2<1∨1099511627776<h2
     ·have hr:=HR.out
      rw [if_neg (by simp),if_neg (by simp),if_pos hh] at hr;subst hr;clear HR
      have hh':h2<1∨(¬h2<1∧1099511627776<h2):=by omega
      clear hh
      rcases hh' with hh'|⟨hh',hh2⟩
      all_goals go_wp2
      all_goals have D1:=D.out.1
      all_goals refine bodyPost_ret (v:=Bu (Hdr.zero,13)) (by simp [results,Tryz.results77,go_sem,Bu,hdV,Hdr.zero,D1.c 0 rfl,D1.c 1 rfl,D1.c 2 rfl,D1.c 3 rfl,D1.c 4 rfl]) rfl ?_
      all_goals exact⟨rfl,D.out.2⟩
     ·have hr:=HR.out
      rw [if_neg (by simp),if_neg (by simp),if_neg hh] at hr;subst hr;clear HR;have hh1:¬h2<1:=fun x=>hh (.inl x);have hh2:¬1099511627776<h2:=fun x=>hh (.inr x);clear hh D;go_wp2;have D:=DY;have D1:=D.out.1;refine bodyPost_ret (v:=Bu (⟨h1,h2,h3,h4,h5⟩,0)) (by simp [results,Tryz.results77,go_sem,Bu,hdV,D1.c 0 rfl,D1.c 1 rfl,D1.c 2 rfl,D1.c 3 rfl,D1.c 4 rfl]) rfl ?_;exact⟨rfl,D.out.2⟩
  ·have hcb:=Nu hc
   have hr:=HR.out;rw [if_neg (by simp),if_pos (.inl hc)] at hr;subst hr;clear HR;have d0:(w1.alloc (.cells #[.string h1,.int .i64 h2,.int .i64 h3,.string h4,.string h5] 34)).cell? ⟨w.heap.size+1,0,none⟩=some (.string ⟨#[]⟩):=O1.out.c 0 rfl;have d1:(w1.alloc (.cells #[.string h1,.int .i64 h2,.int .i64 h3,.string h4,.string h5] 34)).cell? ⟨w.heap.size+1,1,none⟩=some (.int .i64 0):=O1.out.c 1 rfl;have d2:(w1.alloc (.cells #[.string h1,.int .i64 h2,.int .i64 h3,.string h4,.string h5] 34)).cell? ⟨w.heap.size+1,2,none⟩=some (.int .i64 0):=O1.out.c 2 rfl;have d3:(w1.alloc (.cells #[.string h1,.int .i64 h2,.int .i64 h3,.string h4,.string h5] 34)).cell? ⟨w.heap.size+1,3,none⟩=some (.string ⟨#[]⟩):=O1.out.c 3 rfl;have d4:(w1.alloc (.cells #[.string h1,.int .i64 h2,.int .i64 h3,.string h4,.string h5] 34)).cell? ⟨w.heap.size+1,4,none⟩=some (.string ⟨#[]⟩):=O1.out.c 4 rfl;have f0:=O1.out.frozen 0;have f1:=O1.out.frozen 1;have f2:=O1.out.frozen 2;have f3:=O1.out.frozen 3;have f4:=O1.out.frozen 4;have D:=qH (And.intro (CK O1.out (.string ⟨#[]⟩) (.int .i64 0) (.int .i64 0) (.string ⟨#[]⟩) (.string ⟨#[]⟩)) (AE (b:=w.heap.size+1) S1.out (by omega) (.string ⟨#[]⟩) (.int .i64 0) (.int .i64 0) (.string ⟨#[]⟩) (.string ⟨#[]⟩)));clear hc P2 C1 O1 X1 S1;go_wp2;have D1:=D.out.1;refine bodyPost_ret (v:=Bu (Hdr.zero,24)) (by simp [results,Tryz.results77,go_sem,Bu,hdV,Hdr.zero,D1.c 0 rfl,D1.c 1 rfl,D1.c 2 rfl,D1.c 3 rfl,D1.c 4 rfl]) rfl ?_;exact⟨rfl,D.out.2⟩
 ·have heb:(e != 0)=true:=by rw [bne_iff_ne];exact he
  have hr:=HR.out;rw [if_pos he] at hr;subst hr;clear HR;have d0:(w1.alloc (.cells #[.string h1,.int .i64 h2,.int .i64 h3,.string h4,.string h5] 34)).cell? ⟨w.heap.size+1,0,none⟩=some (.string ⟨#[]⟩):=O1.out.c 0 rfl;have d1:(w1.alloc (.cells #[.string h1,.int .i64 h2,.int .i64 h3,.string h4,.string h5] 34)).cell? ⟨w.heap.size+1,1,none⟩=some (.int .i64 0):=O1.out.c 1 rfl;have d2:(w1.alloc (.cells #[.string h1,.int .i64 h2,.int .i64 h3,.string h4,.string h5] 34)).cell? ⟨w.heap.size+1,2,none⟩=some (.int .i64 0):=O1.out.c 2 rfl;have d3:(w1.alloc (.cells #[.string h1,.int .i64 h2,.int .i64 h3,.string h4,.string h5] 34)).cell? ⟨w.heap.size+1,3,none⟩=some (.string ⟨#[]⟩):=O1.out.c 3 rfl;have d4:(w1.alloc (.cells #[.string h1,.int .i64 h2,.int .i64 h3,.string h4,.string h5] 34)).cell? ⟨w.heap.size+1,4,none⟩=some (.string ⟨#[]⟩):=O1.out.c 4 rfl;have f0:=O1.out.frozen 0;have f1:=O1.out.frozen 1;have f2:=O1.out.frozen 2;have f3:=O1.out.frozen 3;have f4:=O1.out.frozen 4;have D:=qH (And.intro (CK O1.out (.string ⟨#[]⟩) (.int .i64 0) (.int .i64 0) (.string ⟨#[]⟩) (.string ⟨#[]⟩)) (AE (b:=w.heap.size+1) S1.out (by omega) (.string ⟨#[]⟩) (.int .i64 0) (.int .i64 0) (.string ⟨#[]⟩) (.string ⟨#[]⟩)));clear he P2 C1 O1 X1 S1;go_wp2;have D1:=D.out.1;refine bodyPost_ret (v:=Bu (Hdr.zero,e)) (by simp [results,Tryz.results77,go_sem,Bu,hdV,Hdr.zero,D1.c 0 rfl,D1.c 1 rfl,D1.c 2 rfl,D1.c 3 rfl,D1.c 4 rfl]) rfl ?_;exact⟨rfl,D.out.2⟩
theorem ZQ (c:Clt) (raw:ByteArray) (w:World) (hr:raw.size≤9223372036854775807) (hk:c.key.size≤1099511627776) :
  Calls qP 77 #[FZ c,.string raw] w fun en w'=>en=.returned (Bu (DH c raw))∧Aa w w':=by
 obtain⟨ch,k,ht,f⟩:=c;unfold DH
 cases f with
 | true=>exact LX ch k raw ht w
 | false =>
   rw [if_neg (by simp)];exact Px ch k raw ht (CR raw).1.chain (CR raw).1.height (CR raw).1.time (CR raw).1.root (CR raw).1.mac _ _ w (qH fun W _=>dW raw W hr) (qH fun W _=>hU k (CR raw).1 W hk)
theorem Xf (v:ByteArray):Fb v≤9007199254740992:=by
 unfold Fb
 split
 ·exact Nat.zero_le _
 ·exact(Ay v 0).1
theorem Py (A:Option Addr) (m c:Nat) (key:ByteArray) (kind:Int) (n:Nat) (id x:ByteArray) (z:Int) (L2:List KV) (w:World) (hn:n≤9007199254740992)
  (K1:Hid (∀ W,Aa w W→Calls qP 118 #[.slice A m c,.string key] W fun e w'=>e=.returned (.int .i64 n)∧Aa W w'))
  (K2:Hid (∀ W,Aa w W→Calls qP 119 #[.int .i64 kind,.int .i64 n] W fun e w'=>e=.returned (.tuple #[.string id,.int .i64 z])∧Aa W w'))
  (K3:Hid (∀ W,Aa w W→Calls qP 78 #[.int .i64 ((n:Int)+1)] W fun e w'=>e=.returned (.string x)∧Aa W w'))
  (K4:Hid (∀ W,Aa w W→Calls qP 26 #[.slice A m c,.string key,.string x] W fun e w'=>∃ v',e=.returned v'∧Prs w' v' L2∧Aa W w')) :
  Calls qP 71 #[.slice A m c,.string key,.int .i64 kind] w fun e w'=>∃ v',e=.returned (.tuple #[v',.string id])∧Prs w' v' L2∧Aa w w':=by
 have hw:IntKind.i64.wrap ((n:Int)+1)=(n:Int)+1:=IntWalk.i64_in _ (by omega);clear hn;go_enter Tryz.func71,Tryz.ntmps71
 go_wp2_with fail
 refine(K1.out _ (Aa.refl w)).mono ?_;rintro e w1 ⟨rfl,q⟩;have S1:=qH q;clear K1 q
 go_wp2_with fail
 refine(K2.out _ S1.out).mono ?_;rintro e w2 ⟨rfl,q⟩;have S2:=qH (Ac S1.out q);clear K2 q S1
 go_wp2_with fail
 refine(K3.out _ S2.out).mono ?_;rintro e w3 ⟨rfl,q⟩;have S3:=qH (Ac S2.out q);clear K3 q S2 hw
 go_wp2_with fail
 refine(K4.out _ S3.out).mono ?_;rintro e w4 ⟨v',rfl,hP,q⟩;have S4:=qH (And.intro hP (Ac S3.out q));clear K4 q S3 hP;go_wp2
 go_ret2
 exact⟨v',rfl,S4.out.1,S4.out.2⟩
section
variable {s:Value} {L:List KV} {w:World}
theorem eE (hP:Prs w s L) (hu:Up L) (hz:L.length+1≤1000000000) (hL:BD L) (key:ByteArray) (kind:Int) :
  Calls qP 71 #[s,.string key,.int .i64 kind] w fun e w'=>∃ v',e=.returned (.tuple #[v',.string (bs (mkS kind (Fb ((AD L key).getD ⟨#[]⟩))))])∧Prs w' v' (Az L key (bs (Ag ((Fb ((AD L key).getD ⟨#[]⟩):Int)+1)).1))∧Aa w w':=by
 have hsz:=hL.get key;have hn:=Xf ((AD L key).getD ⟨#[]⟩);have K1:=qH (fun W (hW:Aa w W)=>eD s L key W (hP.below hW.below) hu (by omega) (by omega));have K4:=qH (fun W (hW:Aa w W)=>dN s L key (bs (Ag ((Fb ((AD L key).getD ⟨#[]⟩):Int)+1)).1) W (hP.below hW.below) hu hz);obtain⟨A,c,rfl,_,_⟩:=hP;exact Py A _ c key kind _ _ _ _ _ w hn K1 (qH fun W _=>(cM kind _ W).mono fun _ _ ⟨he,hb⟩=>⟨he,Ad hb⟩) (qH fun W _=>Nl _ W) K4
end
theorem TB (A:Option Addr) (m c:Nat) (chain key:ByteArray) (k:Int) (w:World) (h:k≠0∨(k=0∧65536<key.size))
  (K1:Hid (∀ W,Aa w W→Calls qP 70 #[.int .i64 6,.string chain] W fun e w'=>e=.returned (.int .i64 k)∧Aa W w')) :
  Calls qP 25 #[.slice A m c,.string chain,.string key] w fun e w'=>e=.returned (.tuple #[.slice A m c,.string ⟨#[]⟩,.int .i64 (if k≠0 then 7 else 4)])∧Aa w w':=by
 rcases h with h|⟨rfl,h⟩
 ·rw [if_pos h]
  have hb:(k != 0)=true:=by rw [bne_iff_ne];exact h
  clear h;go_enter Tryz.func25,Tryz.ntmps25
  go_wp2_with fail
  refine(K1.out _ (Aa.refl w)).mono ?_;rintro e w1 ⟨rfl,q⟩;have S1:=qH q;clear K1 q;go_wp2
  go_ret3
  exact⟨rfl,S1.out⟩
 ·rw [if_neg (by simp)]
  go_enter Tryz.func25,Tryz.ntmps25
  go_wp2_with fail
  refine(K1.out _ (Aa.refl w)).mono ?_;rintro e w1 ⟨rfl,q⟩;have S1:=qH q;clear K1 q;go_wp2
  go_ret3
  exact⟨rfl,S1.out⟩
theorem UR (A:Option Addr) (m c:Nat) (chain key k1 k2 id x:ByteArray) (L1 L2:List KV) (w:World) (h:key.size≤65536)
  (K1:Hid (∀ W,Aa w W→Calls qP 70 #[.int .i64 6,.string chain] W fun e w'=>e=.returned (.int .i64 0)∧Aa W w'))
  (K2:Hid (∀ W b,Aa w W→Blk W b 9 #[.string ⟨#[110,101,120,116]⟩,.string ⟨#[99,108,105,101,110,116]⟩]→Calls qP 39 #[.slice (some ⟨b,0,none⟩) 2 2] W fun e w'=>e=.returned (.string k1)∧Aa W w'))
  (K3:Hid (∀ W,Aa w W→Calls qP 71 #[.slice A m c,.string k1,.int .i64 3] W fun e w'=>∃ v',e=.returned (.tuple #[v',.string id])∧Prs w' v' L1∧Aa W w'))
  (K4:Hid (∀ W b,Aa w W→Blk W b 9 #[.string ⟨#[99,108,105,101,110,116]⟩,.string id]→Calls qP 39 #[.slice (some ⟨b,0,none⟩) 2 2] W fun e w'=>e=.returned (.string k2)∧Aa W w'))
  (K5:Hid (∀ W,Aa w W→Calls qP 72 #[.agg #[.string chain,.string key,.int .i64 0,.bool false]] W fun e w'=>e=.returned (.string x)∧Aa W w'))
  (K6:Hid (∀ W v,Aa w W→Prs W v L1→Calls qP 26 #[v,.string k2,.string x] W fun e w'=>∃ v',e=.returned v'∧Prs w' v' L2∧Aa W w'∧∀ g,v'.ownBlock=some g→W.heap.size≤g)) :
  Calls qP 25 #[.slice A m c,.string chain,.string key] w fun e w'=>∃ v',e=.returned (.tuple #[v',.string id,.int .i64 0])∧Prs w' v' L2∧Aa w w'∧∀ g,v'.ownBlock=some g→w.heap.size≤g:=by
 have hk:¬65536<(key.size:Int):=by omega
 clear h;go_enter Tryz.func25,Tryz.ntmps25
 go_wp2_with fail
 refine(K1.out _ (Aa.refl w)).mono ?_;rintro e w1 ⟨rfl,q⟩;have B1:=qH (Blk.new w1 9 #[.string ⟨#[110,101,120,116]⟩,.string ⟨#[99,108,105,101,110,116]⟩]);have S1:=qH (Ab q (.cells #[.string ⟨#[110,101,120,116]⟩,.string ⟨#[99,108,105,101,110,116]⟩] 9));clear K1 q
 go_wp2_with fail
 refine(K2.out _ _ S1.out B1.out).mono ?_;rintro e w2 ⟨rfl,q⟩;have S2:=qH (Ac S1.out q);clear K2 q S1 B1 hk
 go_wp2_with fail
 refine(K3.out _ S2.out).mono ?_;rintro e w3 ⟨v1,rfl,hP,q⟩;have P3:=qH (hP.below ((Below.refl _ w3).alloc (Nat.le_refl _) (.cells #[.string ⟨#[99,108,105,101,110,116]⟩,.string id] 9)));have S3:=qH (Ab (Ac S2.out q) (.cells #[.string ⟨#[99,108,105,101,110,116]⟩,.string id] 9));have B3:=qH (Blk.new w3 9 #[.string ⟨#[99,108,105,101,110,116]⟩,.string id]);clear K3 q S2 hP
 go_wp2_with fail
 refine(K4.out _ _ S3.out B3.out).mono ?_;rintro e w4 ⟨rfl,q⟩;have P4:=qH (P3.out.below q.below);have S4:=qH (Ac S3.out q);clear K4 q S3 B3 P3
 go_wp2_with fail
 refine(K5.out _ S4.out).mono ?_;rintro e w5 ⟨rfl,q⟩;have P5:=qH (P4.out.below q.below);have S5:=qH (Ac S4.out q);clear K5 q S4 P4
 go_wp2_with fail
 refine(K6.out _ _ S5.out P5.out).mono ?_;rintro e w6 ⟨v',rfl,hP,q,n⟩;have N6:=qH (fun g hg=>Nat.le_trans S5.out.below.size (n g hg));have S6:=qH (And.intro hP (Ac S5.out q));clear K6 q S5 P5 hP n;go_wp2
 go_ret3
 exact⟨v',rfl,S6.out.1,S6.out.2,N6.out⟩
theorem BD.set {L:List KV} (h:BD L) {k v:ByteArray} (hk:k.size≤1000000) (hv:v.size≤1000000):BD (Az L k v):=by
 induction L with
 | nil =>
   intro p hp;simp only [Az,List.mem_singleton] at hp;subst hp;exact⟨hk,hv⟩
 | cons x r ih =>
   have hr:BD r:=fun p hp=>h p (by simp [hp]);unfold Az
   split
   ·intro p hp
    rcases List.mem_cons.mp hp with rfl|hp
    ·exact⟨hk,hv⟩
    ·exact h p hp
   ·split
    ·intro p hp
     rcases List.mem_cons.mp hp with rfl|hp
     ·exact⟨hk,hv⟩
     ·exact hr p hp
    ·intro p hp
     rcases List.mem_cons.mp hp with rfl|hp
     ·exact h _ (by simp)
     ·exact ih hr p hp
theorem kM {w:World} {f:FuncId} {args:Array Value} {L:List KV} {s:Value} {id:ByteArray} {x:Int} (h:Calls qP f args w fun en w'=>∃ v,en=.returned (.tuple #[v,.string id,.int .i64 x])∧Prs w' v L∧Aa w w'∧∀ g,v.ownBlock=some g→w.heap.size≤g) :
  Calls qP f args w fun en w'=>∃ v,en=.returned (.tuple #[v,.string id,.int .i64 x])∧Prs w' v L∧Aa w w'∧(v=s∨∀ g,v.ownBlock=some g→w.heap.size≤g) :=
 h.mono fun _ _ ⟨v,h1,h2,h3,h4⟩=>⟨v,h1,h2,h3,.inr h4⟩
section
variable {s:Value} {L:List KV} {w:World}
theorem TC (hP:Prs w s L) (hu:Up L) (hz:L.length+2≤1000000000) (hL:BD L) (chain key:ByteArray) (hc:chain.size≤1000000) :
  Calls qP 25 #[s,.string chain,.string key] w fun e w'=>∃ v',e=.returned (.tuple #[v',.string (IK L chain key).1.2,.int .i64 (IK L chain key).2])∧Prs w' v' (IK L chain key).1.1∧Aa w w'∧(v'=s∨∀ g,v'.ownBlock=some g→w.heap.size≤g):=by
 have K1:=qH (fun W (_:Aa w W)=>NY (eC 6 chain W hc) (Aa.refl W));unfold IK;by_cases h1:ck 6 chain.data.toList=0
 ·rw [if_neg (by simp [h1])]
  by_cases h2:65536<key.size
  ·rw [if_pos h2]
   have hP0:=hP;obtain⟨A,c,rfl,_,_⟩:=hP0;refine(TB A _ c chain key _ w (.inr ⟨h1,h2⟩) K1).mono ?_;rintro e w' ⟨rfl,hs⟩;rw [if_neg (by simp [h1])];exact⟨_,rfl,hP.below hs.below,hs,.inl rfl⟩
  ·rw [if_neg h2]
   rw [h1] at K1
   have hid:(bs (mkS 3 (AL L))).size≤1000000:=by
    rw [Aw];unfold mkS
    split
    ·rename_i hm
     have:=Fa (Int.toNat (AL L)) (by have:=(Oq hm).2.2;omega);rw [List.length_append,show(wd 3).length=7 by decide]
     omega
    ·exact Nat.zero_le _
   have hx:(bs (BC ⟨chain,key,0,false⟩)).size≤1000000:=by
    rw [Aw];unfold BC;simp only [List.length_append];have:=AF chain;have:=AF key;have:=Au 0;have:=Au (fz false)
    omega
   have K3:=qH (fun W (hW:Aa w W)=>eE (hP.below hW.below) hu (by omega) hL Ce 3);have hu1:=FP (k:=Ce) (v:=bs (Ag ((AL L:Int)+1)).1) hu;have hl1:=CJ (k:=Ce) (v:=bs (Ag ((AL L:Int)+1)).1) L;have K6:=qH (fun W v (_:Aa w W) (h:Prs W v _)=>Hd v _ (BN (bs (mkS 3 (AL L)))) (bs (BC ⟨chain,key,0,false⟩)) W h hu1 (by omega));obtain⟨A,c,rfl,_,_⟩:=hP;exact kM (UR A _ c chain key Ce (BN (bs (mkS 3 (AL L)))) _ _ _ _ w (by omega) K1 (qH fun W b _ hB=>Tk OM Gq b W hB (by decide) (by decide)) K3 (qH fun W b _ hB=>Tk Gq _ b W hB (by decide) hid) (qH fun W _=>Rn ⟨chain,key,0,false⟩ W) K6)
 ·rw [if_pos h1]
  have hP0:=hP;obtain⟨A,c,rfl,_,_⟩:=hP0;refine(TB A _ c chain key _ w (.inl h1) K1).mono ?_;rintro e w' ⟨rfl,hs⟩;rw [if_pos h1];exact⟨_,rfl,hP.below hs.below,hs,.inl rfl⟩
end
end Go.Proofs.YtkejaepmoabikaaGreatDoor.W
