import Derived.StillTailTactics
import Derived.IntWalk
import Derived.Test.YtkejaepmoabikaaGreatDoorP0c
namespace Go.Proofs.YtkejaepmoabikaaGreatDoor.W
open Go.RowKit
open Lib renaming hid → qH
open _root_.Go.Proofs.Tryz renaming prog → qP
set_option maxHeartbeats 4000000
set_option maxRecDepth 100000
theorem t2 (x:Nat) (w:World):Calls qP 161 #[.int .u32 x,.int .u64 2] w fun e w'=>e=.returned (.int .u32 (By x 2))∧w=w':=Fj x 2 30 rfl w
theorem t6 (x:Nat) (w:World):Calls qP 161 #[.int .u32 x,.int .u64 6] w fun e w'=>e=.returned (.int .u32 (By x 6))∧w=w':=Fj x 6 26 rfl w
theorem t7 (x:Nat) (w:World):Calls qP 161 #[.int .u32 x,.int .u64 7] w fun e w'=>e=.returned (.int .u32 (By x 7))∧w=w':=Fj x 7 25 rfl w
theorem t11 (x:Nat) (w:World):Calls qP 161 #[.int .u32 x,.int .u64 11] w fun e w'=>e=.returned (.int .u32 (By x 11))∧w=w':=Fj x 11 21 rfl w
theorem t13 (x:Nat) (w:World):Calls qP 161 #[.int .u32 x,.int .u64 13] w fun e w'=>e=.returned (.int .u32 (By x 13))∧w=w':=Fj x 13 19 rfl w
theorem t17 (x:Nat) (w:World):Calls qP 161 #[.int .u32 x,.int .u64 17] w fun e w'=>e=.returned (.int .u32 (By x 17))∧w=w':=Fj x 17 15 rfl w
theorem t18 (x:Nat) (w:World):Calls qP 161 #[.int .u32 x,.int .u64 18] w fun e w'=>e=.returned (.int .u32 (By x 18))∧w=w':=Fj x 18 14 rfl w
theorem t19 (x:Nat) (w:World):Calls qP 161 #[.int .u32 x,.int .u64 19] w fun e w'=>e=.returned (.int .u32 (By x 19))∧w=w':=Fj x 19 13 rfl w
theorem t22 (x:Nat) (w:World):Calls qP 161 #[.int .u32 x,.int .u64 22] w fun e w'=>e=.returned (.int .u32 (By x 22))∧w=w':=Fj x 22 10 rfl w
theorem t25 (x:Nat) (w:World):Calls qP 161 #[.int .u32 x,.int .u64 25] w fun e w'=>e=.returned (.int .u32 (By x 25))∧w=w':=Fj x 25 7 rfl w
theorem Rf (a b:Nat):IntKind.u32.wrap ((a:Int)+(b:Int))=(BH a b:Nat):=by rw [IntKind.wrap_u32];exact JT a b
theorem dR (a:Nat):bits .xor .u32 (if IntKind.u32.signed=true then -1 else IntKind.u32.max) (a:Int)=(QC a:Nat):=cC a
theorem Dg {P:Program} {f:FuncId} {args:Array Value} {w:World} {v:Value} (h:Calls P f args w fun e w'=>e=.returned v∧w=w'):Calls P f args w fun e w'=>e=.returned v∧w'=w :=
 h.mono fun _ _ ⟨he,hw⟩=>⟨he,hw.symm⟩
theorem dS (s:ByteArray) (k:Nat) (w:World) (hk:k<16) (hs:s.size≤maxLen) :
  Calls qP 160 #[.string s,.int .i64 (4*(k:Int))] w fun e w'=>e=.returned (.int .u32 (Dw s.data.toList (4*k) 4))∧w=w':=by
 have h:=gM s (4*k) w (by omega) hs
 rwa [show((4*k:Nat):Int)=4*(k:Int) by omega] at h
def RB1 (hs:List Nat) (l:List UInt8) (w:World) (t:Nat) (wr:World):Prop:=Cu hs w wr∧Blk wr (w.heap.size+1+1) 226 (wv (arr l t))
theorem RB1.start (hs:List Nat) (l:List UInt8) (w:World):RB1 hs l w 0 (((w.alloc (.cells (wv hs) 189)).alloc (.cells (wv (List.replicate 8 0)) 189)).alloc (.cells (wv (List.replicate 64 0)) 226)):=by
 refine⟨(Cu.start hs w).alloc _,?_⟩;have h:=Blk.new ((w.alloc (.cells (wv hs) 189)).alloc (.cells (wv (List.replicate 8 0)) 189)) 226 (wv (List.replicate 64 0));rw [show((w.alloc (.cells (wv hs) 189)).alloc (.cells (wv (List.replicate 8 0)) 189)).heap.size=w.heap.size+1+1 by simp] at h;exact h
theorem Cu.far {hs:List Nat} {w wr:World} (h:Cu hs w wr) (g i:Nat) (hg:w.heap.size+2≤g) (u:Value):Cu hs w (wr.setCell ⟨g,i,none⟩ u) :=
 ⟨h.1.far (by simp;omega) _,h.2.1.far (by simp;omega) _,h.2.2.1.setCell (by simp;omega) _,by simpa [World.setCell] using h.2.2.2⟩
theorem Cu.farRow {hs:List Nat} {w wr:World} (h:Cu hs w wr) (g:Nat) (cs:Array Value) (hg:w.heap.size+2≤g):Cu hs w (wr.setRow g cs) :=
 ⟨h.1.setRow_far (by omega),h.2.1.setRow_far (by omega),Bp h.2.2.1 (by omega),by simpa using h.2.2.2⟩
theorem RB1.put {hs:List Nat} {l:List UInt8} {w wr:World} {t:Nat} (h:RB1 hs l w t wr) (x:Nat) (hx:x=EA l (arr l t) t):RB1 hs l w (t+1) (wr.setCell ⟨w.heap.size+1+1,t,none⟩ (.int .u32 (x:Int))):=by
 subst hx;refine⟨h.1.far _ _ (by omega) _,?_⟩;have:=h.2.set_ t (.int .u32 (EA l (arr l t) t:Nat));rw [Nk] at this;exact this
theorem RB1.cell {hs:List Nat} {l:List UInt8} {w wr:World} {t:Nat} (h:RB1 hs l w t wr) (i:Nat) (hi:i<64):wr.cell? ⟨w.heap.size+1+1,i,none⟩=some (.int .u32 (nth (arr l t) i)):=by
 rw [h.2.cell i,Fs _ _ (by rw [DT];exact hi)]
theorem RB1.frozen {hs:List Nat} {l:List UInt8} {w wr:World} {t:Nat} (h:RB1 hs l w t wr) (i:Nat):wr.frozen? ⟨w.heap.size+1+1,i,none⟩=false:=h.2.frozen i
theorem Cu.drewN {hs:List Nat} {w wr:World} (h:Cu hs w wr) (n:Nat):Cu hs w (wr.drewN n):=⟨h.1,h.2.1,Below.drewN h.2.2.1 n,h.2.2.2⟩
theorem RB1.drewN {hs:List Nat} {l:List UInt8} {w wr:World} {t:Nat} (h:RB1 hs l w t wr) (n:Nat):RB1 hs l w t (wr.drewN n):=⟨h.1.drewN n,h.2⟩
theorem RB1.drew {hs:List Nat} {l:List UInt8} {w wr:World} {t:Nat} (h:RB1 hs l w t wr):RB1 hs l w t wr.drew:=h.drewN 1
theorem RB1.next {hs:List Nat} {l:List UInt8} {w wr w':World} {t:Nat} (h:RB1 hs l w t wr) (hb:Below wr.heap.size wr w'):RB1 hs l w t w':=⟨h.1.next hb,h.2.next hb⟩
theorem WN (w4:World) (cs:Array Value):Blk (((w4.alloc (.cells (wv (List.replicate 64 0)) 226)).setRow w4.heap.size cs).alloc (.cells (wv (List.replicate 8 0)) 189)) (w4.heap.size+1) 189 (wv (List.replicate 8 0)):=by
 have h:=Blk.new ((w4.alloc (.cells (wv (List.replicate 64 0)) 226)).setRow w4.heap.size cs) 189 (wv (List.replicate 8 0));rw [show((w4.alloc (.cells (wv (List.replicate 64 0)) 226)).setRow w4.heap.size cs).heap.size=w4.heap.size+1 by simp] at h;exact h
theorem dT:(#[.int .u32 0,.int .u32 0,.int .u32 0,.int .u32 0,.int .u32 0,.int .u32 0,.int .u32 0,.int .u32 0,.int .u32 0,.int .u32 0,.int .u32 0,.int .u32 0,.int .u32 0,.int .u32 0,.int .u32 0,.int .u32 0,.int .u32 0,.int .u32 0,.int .u32 0,.int .u32 0,.int .u32 0,.int .u32 0,.int .u32 0,.int .u32 0,.int .u32 0,.int .u32 0,.int .u32 0,.int .u32 0,.int .u32 0,.int .u32 0,.int .u32 0,.int .u32 0,.int .u32 0,.int .u32 0,.int .u32 0,.int .u32 0,.int .u32 0,.int .u32 0,.int .u32 0,.int .u32 0,.int .u32 0,.int .u32 0,.int .u32 0,.int .u32 0,.int .u32 0,.int .u32 0,.int .u32 0,.int .u32 0,.int .u32 0,.int .u32 0,.int .u32 0,.int .u32 0,.int .u32 0,.int .u32 0,.int .u32 0,.int .u32 0,.int .u32 0,.int .u32 0,.int .u32 0,.int .u32 0,.int .u32 0,.int .u32 0,.int .u32 0,.int .u32 0]:Array Value)=wv (List.replicate 64 0):=rfl
def RB2 (hs ws:List Nat) (w:World) (G:Nat) (r:List Nat) (wr:World):Prop:=Cu hs w wr∧Blk wr (w.heap.size+1+1) 226 (wv ws)∧Blk wr G 226 (wv kk)∧Blk wr (G+1) 189 (wv r)∧w.heap.size+3≤G
theorem RB2.start {hs:List Nat} {l:List UInt8} {w w4:World} (h:RB1 hs l w 64 w4):RB2 hs (arr l 64) w w4.heap.size hs ((((w4.alloc (.cells (wv (List.replicate 64 0)) 226)).setRow w4.heap.size (wv kk)).alloc (.cells (wv (List.replicate 8 0)) 189)).setRow (w4.heap.size+1) (wv hs)):=by
 have hlt:=h.2.lt;have e:Blk (w4.alloc (.cells (wv (List.replicate 64 0)) 226)) w4.heap.size 226 (wv (List.replicate 64 0)):=Blk.new _ _ _;refine⟨(((h.1.alloc _).farRow _ _ (by omega)).alloc _).farRow _ _ (by omega),(((h.2.alloc _).setRow_far (by omega)).alloc _).setRow_far (by omega),?_,setRow_heap _ _ _ _ _ _ (WN w4 _),by omega⟩;have k:Blk ((w4.alloc (.cells (wv (List.replicate 64 0)) 226)).setRow w4.heap.size (wv kk)) w4.heap.size 226 (wv kk):=setRow_heap _ _ _ _ _ _ e;exact(k.alloc _).setRow_far (by omega)
theorem RB2.drewN {hs ws r:List Nat} {w wr:World} {G:Nat} (h:RB2 hs ws w G r wr) (n:Nat):RB2 hs ws w G r (wr.drewN n):=⟨h.1.drewN n,h.2⟩
theorem RB2.word {hs ws r:List Nat} {w wr:World} {G:Nat} (h:RB2 hs ws w G r wr) (i:Nat) (hi:i<ws.length):wr.cell? ⟨w.heap.size+1+1,i,none⟩=some (.int .u32 (nth ws i)):=by rw [h.2.1.cell i,Fs _ _ hi]
theorem RB2.con {hs ws r:List Nat} {w wr:World} {G:Nat} (h:RB2 hs ws w G r wr) (i:Nat) (hi:i<64):wr.cell? ⟨G,i,none⟩=some (.int .u32 (nth kk i)):=by rw [h.2.2.1.cell i,Fs _ _ hi]
theorem RB2.reg {hs ws r:List Nat} {w wr:World} {G:Nat} (h:RB2 hs ws w G r wr) (i:Nat) (hi:i<r.length):wr.cell? ⟨G+1,i,none⟩=some (.int .u32 (nth r i)):=by rw [h.2.2.2.1.cell i,Fs _ _ hi]
theorem RB2.row {hs ws r:List Nat} {w wr:World} {G:Nat} (h:RB2 hs ws w G r wr) (r2:List Nat):RB2 hs ws w G r2 (wr.setRow (G+1) (wv r2)) :=
 ⟨h.1.farRow _ _ (by have:=h.2.2.2.2;omega),h.2.1.setRow_far (by have:=h.2.2.2.2;omega),h.2.2.1.setRow_far (by omega),setRow_heap _ _ _ _ _ _ h.2.2.2.1,h.2.2.2.2⟩
theorem RB2.put {hs ws r:List Nat} {w wr:World} {G k:Nat} (h:RB2 hs ws w G (Cs r hs k) wr):RB2 hs ws w G (Cs r hs (k+1)) (wr.setCell ⟨G+1,k,none⟩ (.int .u32 (BH (nth (Cs r hs k) k) (nth hs k):Nat))):=by
 obtain⟨h1,h2,h3,h4,h5⟩:=h;refine⟨h1.far _ _ (by omega) _,h2.far (by simp;omega) _,h3.far (by simp) _,?_,h5⟩;have:=h4.set_ k (.int .u32 (BH (nth (Cs r hs k) k) (nth hs k):Nat));rw [Nk] at this;exact this
theorem dU (hs:List Nat) (s:ByteArray) (w:World) (hz:s.size≤maxLen) (h8:hs.length=8) (out:List Nat) (HO:Hid (blk hs s.data.toList=out)) :
  Calls qP 126 #[.agg (wv hs),.string s] w fun e w'=>e=.returned (.agg (wv out))∧Below w.heap.size w w':=by
 have HB:=qH (RB1.start hs s.data.toList w);have H8:=qH h8;clear h8;go_enter Tryz.func126,Tryz.ntmps126;go_wp2
 go_loopw [6] (fun i wr=>∃ k:Nat,k≤16∧i=.int .i64 k∧RB1 hs s.data.toList w k wr) (fun i _=>16-(intOf i).toNat)
 case atStart=>exact⟨0,Nat.zero_le _,rfl,HB.out⟩
 case round =>
  clear HB;obtain⟨k,hk,rfl,hS⟩:=hrel;by_cases hlt:k<16
  ·have hc:=hS.cell k (by omega)
   have hf:=hS.frozen k;have HS:=qH hS;clear hS
   go_wp2_with fail
   refine(dS s k wr hlt hz).mono ?_;rintro e w1 ⟨rfl,rfl⟩;go_wp2
   go_roundw
   case rel=>exact⟨k+1,by omega,by go_num,HS.out.put _ (by unfold EA;rw [if_pos hlt])⟩
   case measure=>simp [intOf];omega
  ·obtain rfl:k=16:=by omega
   have HS:=qH hS;clear hS;rw [show((16:Nat):Int)=(16:Int) from rfl];go_wp2
   go_loopw [7] (fun i wr=>∃ k:Nat,16≤k∧k≤64∧i=.int .i64 k∧RB1 hs s.data.toList w k wr) (fun i _=>64-(intOf i).toNat)
   case atStart=>exact⟨16,by omega,by omega,rfl,HS.out⟩
   case round =>
    clear HS;obtain⟨k,hk0,hk,rfl,hS⟩:=hrel;by_cases hlt:k<64
    ·obtain⟨y,hy⟩:∃ y,nth (arr s.data.toList k) (k-2)=y:=⟨_,rfl⟩
     obtain⟨x,hx⟩:∃ x,nth (arr s.data.toList k) (k-15)=x:=⟨_,rfl⟩;obtain⟨a,ha⟩:∃ a,nth (arr s.data.toList k) (k-7)=a:=⟨_,rfl⟩;obtain⟨b,hb⟩:∃ b,nth (arr s.data.toList k) (k-16)=b:=⟨_,rfl⟩;have c2:=hS.cell (k-2) (by omega);have c15:=hS.cell (k-15) (by omega);rw [hy] at c2;rw [hx] at c15
     have EV:=qH (show BH (BH (BH b a) (CI (CI (By x 7) (By x 18)) (KB x 3))) (CI (CI (By y 17) (By y 19)) (KB y 10))=EA s.data.toList (arr s.data.toList k) k by
      unfold EA VV;rw [if_neg (by omega),hy,hx,ha,hb]
      exact gH (sg1 y) a (sg0 x) b)
     have HA:=qH ha;have HB:=qH hb;have HS:=qH hS;clear hS hy hx ha hb
     have n2:((k:Int)-2).toNat=k-2:=by omega
     have n15:((k:Int)-15).toNat=k-15:=by omega
     have p2:0≤(k:Int)-2:=by omega
     have p15:0≤(k:Int)-15:=by omega
     have q2:(k:Int)-2<64:=by omega
     have q15:(k:Int)-15<64:=by omega
     go_wp2
     go_quiet (fail)
     have HS2:=qH (HS.out.drewN nq);clear HS c2 c15 n2 n15 p2 p15 q2 q15;generalize wr.drewN nq=w2 at *;go_wp2;have hxor:=OQ;have hr3:=MC x 3;have hr10:=MC y 10;simp only [show(2:Int) ^ 3=8 by decide] at hr3;simp only [show(2:Int) ^ 10=1024 by decide] at hr10;have HS3:=qH HS2.out.drew;have c7:=HS3.out.cell (k-7) (by omega);have c16:=HS3.out.cell (k-16) (by omega);rw [HA.out] at c7;rw [HB.out] at c16
     have n7:((k:Int)-7).toNat=k-7:=by omega
     have n16:((k:Int)-16).toNat=k-16:=by omega
     have p7:0≤(k:Int)-7:=by omega
     have p16:0≤(k:Int)-16:=by omega
     have q7:(k:Int)-7<64:=by omega
     have q16:(k:Int)-16<64:=by omega
     have qk:(k:Int)<64:=by omega
     have w7:IntKind.i64.wrap ((k:Int)-7)=(k:Int)-7:=IntWalk.i64_in _ (by omega);have w16:IntKind.i64.wrap ((k:Int)-16)=(k:Int)-16:=IntWalk.i64_in _ (by omega)
     have r7:(7:Int)≤(k:Int):=by omega
     have r16:(16:Int)≤(k:Int):=by omega
     have rk:(0:Int)≤(k:Int):=by omega
     have hadd:=JT;refine wp_region_still_tail 29 (by kernel_rfl) (by kernel_rfl) ?_;simp only [List.take_succ_cons,List.take_zero,List.drop_succ_cons,List.drop_zero]
     change wpStill _ _ w2.drew (fun a'=>wpList _ _ _ _ a' w2.drew) _ _
     generalize w2.drew=w3 at *
     repeat still_step
     still_call (Dg (t7 x w3))
     repeat still_step
     still_call (Dg (t18 x w3))
     repeat still_step
     still_call (Dg (t17 y w3))
     repeat still_step
     still_call (Dg (t19 y w3))
     repeat still_step
     refine wpStill_nil ?_;clear c7 c16 n7 n16 p7 p16 q7 q16 w7 w16 r7 r16 hr3 hr10 hxor;have ck:=HS3.out.cell k (by omega);have fk:=HS3.out.frozen k;go_wp2
     go_roundw
     case rel=>exact⟨k+1,by omega,by omega,by go_num,HS3.out.put _ EV.out⟩
     case measure=>simp [intOf];omega
    ·obtain rfl:k=64:=by omega
     rw [show((64:Nat):Int)=(64:Int) from rfl];have HS:=qH hS;clear hS
     go_wp2_with fail
     refine(ZH wr).mono ?_;rintro e w4 ⟨rfl,b4⟩;have HS4:=qH (HS.out.next b4);clear HS b4
     go_wp2_with (first
      | (refine wpList_store_row rfl 226 _ _ rfl w4.heap.size (wv kk) rfl rfl 226 (wv (List.replicate 64 0)) (Blk.new w4 226 _) Jt rfl (DO _) ?_)
      | (refine wpList_load_row rfl 189 _ rfl w.heap.size rfl 189 _ (0,0) _ ((HS4.out.1.1.alloc (.cells (wv (List.replicate 64 0)) 226)).setRow_far (Nat.ne_of_lt HS4.out.1.1.lt)) Tryz.underlying189 rfl (by rw [AS,H8.out];exact Ed) ?_)
      | (refine wpList_store_row rfl 189 _ _ rfl (w4.heap.size+1) (wv hs) rfl rfl 189 (wv (List.replicate 8 0)) (WN w4 _) (by rw [AS,H8.out];exact Ed) (by rw [AS,AS,H8.out];rfl) (DO _) ?_))
     have HT:=qH (RB2.start HS4.out);clear HS4;rw [OT,dT];generalize (((w4.alloc (Obj.cells (wv (List.replicate 64 0)) 226)).setRow w4.heap.size (wv kk)).alloc (Obj.cells (wv (List.replicate 8 0)) 189)).setRow (w4.heap.size+1) (wv hs)=wz at *;obtain⟨ws,hws⟩:∃ ws,arr s.data.toList 64=ws:=⟨_,rfl⟩;rw [hws] at HT;have HWS:=qH hws;have H64:=qH (show ws.length=64 by rw [←hws,DT]);clear hws;generalize w4.heap.size=G at *;clear w4
     go_loopw [12] (fun i wr=>∃ t a b c d e f g z:Nat,t≤64∧i=.int .i64 t∧Hid (rds ws (Ej hs) t=⟨a,b,c,d,e,f,g,z⟩)∧RB2 hs ws w G [a,b,c,d,e,f,g,z] wr) (fun i _=>64-(intOf i).toNat)
     case atStart=>exact⟨0,nth hs 0,nth hs 1,nth hs 2,nth hs 3,nth hs 4,nth hs 5,nth hs 6,nth hs 7,Nat.zero_le _,rfl,qH rfl,by
      have e:[nth hs 0,nth hs 1,nth hs 2,nth hs 3,nth hs 4,nth hs 5,nth hs 6,nth hs 7]=hs:=QF H8.out;rw [e]
      exact HT.out⟩
     case round =>
      clear HT;obtain⟨t,a,b,c,d,e,f,g,z,ht,rfl,hq,hD⟩:=hrel;by_cases hlt:t<64
      ·have HD:=qH hD
       have c0:=hD.reg 0 (by simp);have c4:=hD.reg 4 (by simp)
       replace c0:wr.cell? ⟨G+1,0,none⟩=some (.int .u32 a):=c0
       replace c4:wr.cell? ⟨G+1,4,none⟩=some (.int .u32 e):=c4
       clear hD
       have tl:(t:Int)<64:=by omega
       go_wp2
       go_quiet (fail)
       have HD2:=qH (HD.out.drewN nq);clear HD c0 c4;generalize wr.drewN nq=w5 at *;go_wp2;obtain⟨kt,hkt⟩:∃ kt,nth kk t=kt:=⟨_,rfl⟩;obtain⟨wt,hwt⟩:∃ wt,nth ws t=wt:=⟨_,rfl⟩;have ck:=HD2.out.con t hlt;have cw:=HD2.out.word t (by rw [H64.out];exact hlt);rw [hkt] at ck;rw [hwt] at cw;have HK:=qH hkt;have HW:=qH hwt;have c5:w5.cell? ⟨G+1,5,none⟩=some (.int .u32 f):=HD2.out.reg 5 (by simp);have c6:w5.cell? ⟨G+1,6,none⟩=some (.int .u32 g):=HD2.out.reg 6 (by simp);have c7:w5.cell? ⟨G+1,7,none⟩=some (.int .u32 z):=HD2.out.reg 7 (by simp);have hxor:=OQ;have hand:=WB;have hnot:=dR;have hadd:=Rf;clear hkt hwt;refine wp_region_still_lit (by kernel_rfl) (by kernel_rfl) ?_
       change wpStill _ _ w5.drew (fun a'=>(Exit.then _ _) Exit.normal a' w5.drew) _ _
       have HD3:=qH (HD2.out.drewN 1)
       replace HD3:Hid (RB2 hs ws w G [a,b,c,d,e,f,g,z] w5.drew):=HD3
       replace ck:w5.drew.cell? ⟨G,t,none⟩=some (.int .u32 kt):=ck
       replace cw:w5.drew.cell? ⟨w.heap.size+1+1,t,none⟩=some (.int .u32 wt):=cw
       replace c5:w5.drew.cell? ⟨G+1,5,none⟩=some (.int .u32 f):=c5
       replace c6:w5.drew.cell? ⟨G+1,6,none⟩=some (.int .u32 g):=c6
       replace c7:w5.drew.cell? ⟨G+1,7,none⟩=some (.int .u32 z):=c7
       clear HD2;generalize w5.drew=w6 at *
       repeat still_step
       still_call (Dg (t6 e w6))
       repeat still_step
       still_call (Dg (t11 e w6))
       repeat still_step
       still_call (Dg (t25 e w6))
       repeat still_step
       refine wpStill_nil ?_;clear ck cw c5 c6 c7 hnot;obtain⟨x,hx⟩:∃ x,BH (BH (BH (BH z (CI (CI (By e 6) (By e 11)) (By e 25))) (CI (FH e f) (FH (QC e) g))) kt) wt=x:=⟨_,rfl⟩;rw [hx];have HX:=qH hx;clear hx hxor hand hadd;go_wp2;refine wp_region_still_lit (by kernel_rfl) (by kernel_rfl) ?_
       change wpStill _ _ w6.drew (fun a'=>(Exit.then _ _) Exit.normal a' w6.drew) _ _
       have HD4:=qH (HD3.out.drewN 1)
       replace HD4:Hid (RB2 hs ws w G [a,b,c,d,e,f,g,z] w6.drew):=HD4
       clear HD3;generalize w6.drew=w7 at *;have c1:w7.cell? ⟨G+1,1,none⟩=some (.int .u32 b):=HD4.out.reg 1 (by simp);have c2:w7.cell? ⟨G+1,2,none⟩=some (.int .u32 c):=HD4.out.reg 2 (by simp);have hxor:=OQ;have hand:=WB;have hadd:=Rf
       still_step
       still_call (Dg (t2 a w7))
       repeat still_step
       still_call (Dg (t13 a w7))
       repeat still_step
       still_call (Dg (t22 a w7))
       repeat still_step
       refine wpStill_nil ?_;obtain⟨y,hy⟩:∃ y,BH (CI (CI (By a 2) (By a 13)) (By a 22)) (CI (CI (FH a b) (FH a c)) (FH b c))=y:=⟨_,rfl⟩;rw [hy];have HY:=qH hy;have c3:w7.cell? ⟨G+1,3,none⟩=some (.int .u32 d):=HD4.out.reg 3 (by simp);have c5:w7.cell? ⟨G+1,5,none⟩=some (.int .u32 f):=HD4.out.reg 5 (by simp);have c6:w7.cell? ⟨G+1,6,none⟩=some (.int .u32 g):=HD4.out.reg 6 (by simp);have hadd2:=JT;have R:=qH (HD4.out.row [BH x y,a,b,c,BH d x,e,f,g]);have HB:=qH HD4.out.2.2.2.1;clear hy HD4 hxor hand hadd
       go_wp2_with (refine wpList_store_row rfl 189 _ _ rfl (G+1) (wv [BH x y,a,b,c,BH d x,e,f,g]) rfl rfl 189 _ HB.out (by rw [AS];exact Ed) (by rw [AS,AS];rfl) (DO _) ?_)
       go_roundw
       case rel=>exact⟨t+1,BH x y,a,b,c,BH d x,e,f,g,by omega,by go_num,qH (OU _ _ _ _ _ _ _ _ _ _ _ _ _ hq.out (by rw [HK.out,HW.out];exact HX.out.symm) HY.out.symm),R.out⟩
       case measure=>simp [intOf];omega
      ·obtain rfl:t=64:=by omega
       rw [show((64:Nat):Int)=(64:Int) from rfl];obtain⟨r,hr⟩:∃ r,[a,b,c,d,e,f,g,z]=r:=⟨_,rfl⟩;have HL:=qH (show r.length=8 by rw [←hr];rfl)
       have HO2:=qH (show Cs r hs 8=out by
        rw [QG hs r H8.out HL.out,←HO.out];unfold blk;rw [HWS.out,hq.out,←hr]
        rfl)
       rw [hr] at hD;have HD:=qH hD;clear hD hr hq
       have tl:¬(64:Int)<64:=by omega
       go_wp2;clear tl
       go_loopw [17] (fun i wr=>∃ k:Nat,k≤8∧i=.int .i64 k∧RB2 hs ws w G (Cs r hs k) wr) (fun i _=>8-(intOf i).toNat)
       case atStart=>exact⟨0,Nat.zero_le _,rfl,HD.out⟩
       case round =>
        clear HD;obtain⟨k,hk,rfl,hD⟩:=hrel;by_cases hlt:k<8
        ·have kl:(k:Int)<8:=by omega
         have kp:(0:Int)≤(k:Int):=by omega
         have hE:RB2 hs ws w G (Cs r hs k) wr.drew:=hD.drewN 1;have c1:wr.drew.cell? ⟨G+1,k,none⟩=some (.int .u32 (nth (Cs r hs k) k)):=hE.reg k (by rw [CZ,HL.out];exact hlt);have c2:wr.drew.cell? ⟨w.heap.size,k,none⟩=some (.int .u32 (nth hs k)):=hE.1.reg k (by rw [H8.out];exact hlt);have f1:wr.drew.frozen? ⟨G+1,k,none⟩=false:=hE.2.2.2.1.frozen k;have R:=qH hE.put;obtain⟨x,hx⟩:∃ x,nth (Cs r hs k) k=x:=⟨_,rfl⟩;obtain⟨y,hy⟩:∃ y,nth hs k=y:=⟨_,rfl⟩;rw [hx] at c1;rw [hy] at c2;rw [hx,hy] at R;clear hE hD hx hy;go_wp2;refine wp_region_still_tail 9 (by kernel_rfl) (by kernel_rfl) ?_;simp only [List.take_succ_cons,List.take_zero,List.drop_succ_cons,List.drop_zero]
         change wpStill _ _ wr.drew (fun a'=>wpList _ _ _ _ a' wr.drew) _ _
         generalize wr.drew=w8 at *;have hadd:=Rf
         repeat still_step
         refine wpStill_nil ?_;go_wp2
         go_roundw
         case rel=>exact⟨k+1,by omega,by go_num,R.out⟩
         case measure=>simp [intOf];omega
        ·obtain rfl:k=8:=by omega
         rw [HO2.out] at hD;have HQ:=qH (show out.length=8 by rw [←HO2.out,CZ,HL.out]);have HF:=qH hD;clear hD
         have kl:¬((8:Nat):Int)<8:=by omega
         go_wp2_with (first
          | (refine wpList_load_row rfl 189 _ rfl (G+1) rfl 189 _ (0,0) _ HF.out.2.2.2.1 Tryz.underlying189 rfl (by rw [AS,HQ.out];exact Ed) ?_)
          | (refine wpList_store_row rfl 189 _ _ rfl (w.heap.size+1) (wv out) rfl rfl 189 (wv (List.replicate 8 0)) HF.out.1.2.1 (by rw [AS,HQ.out];exact Ed) (by rw [AS,AS,HQ.out];rfl) (DO _) ?_))
         have hb:Below w.heap.size w (wr.setRow (w.heap.size+1) (wv out)):=Bp HF.out.1.2.2.1 (by omega);exact bodyPost_ret (v:=.agg (wv out)) (results_cell_row Tryz.results126 _ _ (w.heap.size+1) 189 _ (0,0) _ rfl (setRow_heap _ _ _ _ _ _ HF.out.1.2.1) Tryz.underlying189 rfl (by rw [AS,HQ.out];exact Ed)) rfl ⟨rfl,hb⟩
end Go.Proofs.YtkejaepmoabikaaGreatDoor.W
