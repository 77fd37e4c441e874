import Derived.Deep.RegionHeld3
import Derived.StillTailTactics
import Derived.IntWalk
import Derived.Lib.LazyBuf
import Derived.Lib.SmallJoins
import Derived.WalkMore
import Derived.Test.YtkejaepmoabikaaGreatDoorP0b
import Derived.Test.YtkejaepmoabikaaGreatDoorP0a
namespace Go.Proofs.YtkejaepmoabikaaGreatDoor.W
open Go.RowKit
open Lib renaming hid → qH
open _root_.Go.Proofs.Tryz renaming prog → qP
set_option maxHeartbeats 8000000
set_option maxRecDepth 100000
theorem Ba.alloc {w:World} (h:Ba w) (o:Obj):Ba (w.alloc o):=h.next ((Below.refl _ _).alloc (Nat.le_refl _) o)
theorem Ba.drew {w:World} (h:Ba w):Ba w.drew:=h
theorem Ba.drewN {w:World} (h:Ba w) (n:Nat):Ba (w.drewN n):=h
def Cu (hs:List Nat) (w wr:World):Prop :=
 Blk wr w.heap.size 189 (wv hs)∧Blk wr (w.heap.size+1) 189 (wv (List.replicate 8 0))∧Below w.heap.size w wr∧w.heap.size+2≤wr.heap.size
theorem Cu.start (hs:List Nat) (w:World):Cu hs w ((w.alloc (.cells (wv hs) 189)).alloc (.cells (wv (List.replicate 8 0)) 189)):=by
 have e1:(w.alloc (.cells (wv hs) 189)).heap.size=w.heap.size+1:=by simp
 refine⟨?_,?_,?_,?_⟩
 ·exact(Blk.new w 189 (wv hs)).alloc _
 ·have h:=Blk.new (w.alloc (.cells (wv hs) 189)) 189 (wv (List.replicate 8 0))
  rw [e1] at h;exact h
 ·exact((Below.refl _ _).alloc (Nat.le_refl _) _).alloc (by simp) _
 ·simp
theorem Cu.next {hs:List Nat} {w wr w':World} (h:Cu hs w wr) (hb:Below wr.heap.size wr w'):Cu hs w w' :=
 ⟨h.1.below hb h.1.lt,h.2.1.below hb h.2.1.lt,h.2.2.1.trans (hb.mono (by have:=h.2.2.2;omega)),Nat.le_trans h.2.2.2 hb.size⟩
theorem Cu.alloc {hs:List Nat} {w wr:World} (h:Cu hs w wr) (o:Obj):Cu hs w (wr.alloc o):=h.next ((Below.refl _ _).alloc (Nat.le_refl _) o)
theorem Cu.reg {hs:List Nat} {w wr:World} (h:Cu hs w wr) (i:Nat) (hi:i<hs.length):wr.cell? ⟨w.heap.size,i,none⟩=some (.int .u32 (nth hs i)):=by
 rw [h.1.cell i,Fs _ _ hi]
theorem Cu.cells {a0 a1 a2 a3 a4 a5 a6 a7:Nat} {w w':World} (h:Cu [a0,a1,a2,a3,a4,a5,a6,a7] w w') :
  w'.cell? ⟨w.heap.size,0,none⟩=some (.int .u32 a0)∧w'.cell? ⟨w.heap.size,1,none⟩=some (.int .u32 a1)∧w'.cell? ⟨w.heap.size,2,none⟩=some (.int .u32 a2)∧w'.cell? ⟨w.heap.size,3,none⟩=some (.int .u32 a3)∧w'.cell? ⟨w.heap.size,4,none⟩=some (.int .u32 a4)∧w'.cell? ⟨w.heap.size,5,none⟩=some (.int .u32 a5)∧w'.cell? ⟨w.heap.size,6,none⟩=some (.int .u32 a6)∧w'.cell? ⟨w.heap.size,7,none⟩=some (.int .u32 a7) :=
 ⟨h.reg 0 (by simp),h.reg 1 (by simp),h.reg 2 (by simp),h.reg 3 (by simp),h.reg 4 (by simp),h.reg 5 (by simp),h.reg 6 (by simp),h.reg 7 (by simp)⟩
theorem Cu.drew {hs:List Nat} {w wr:World} (h:Cu hs w wr):Cu hs w wr.drew:=⟨h.1,h.2.1,Below.drewN h.2.2.1 1,h.2.2.2⟩
theorem Blk.next {w w':World} {g:Nat} {t:TypeId} {cs:Array Value} (h:Blk w g t cs) (hb:Below w.heap.size w w'):Blk w' g t cs:=h.below hb h.lt
theorem Blk.setRow_far {w:World} {g k:Nat} {t:TypeId} {cs ds:Array Value} (h:Blk w g t cs) (hk:g≠k):Blk (w.setRow k ds) g t cs:=(setRow_other w k g ds hk).trans h
def Ee (hs work:List Nat) (w:World) (G:Nat) (wr:World):Prop:=Cu hs w wr∧Blk wr G 189 (wv work)∧w.heap.size+2≤G
theorem Ee.start {hs work:List Nat} {w wr:World} {G:Nat} (h:Cu hs w wr) (hG:Blk wr G 189 (wv (List.replicate 8 0))) (hge:w.heap.size+2≤G):Ee hs work w G (wr.setRow G (wv work)) :=
 ⟨⟨h.1.setRow_far (by omega),h.2.1.setRow_far (by omega),Bp h.2.2.1 (by omega),by simpa using h.2.2.2⟩,setRow_heap _ _ _ _ _ _ hG,hge⟩
theorem Ee.last {hs work:List Nat} {w wr:World} (h:Cu hs w wr):Ee hs work w wr.heap.size (wr.alloc (.cells (wv work) 189)):=⟨h.alloc _,Blk.new _ _ _,h.2.2.2⟩
def WE (W:World) (G:Nat):Prop:=Blk W G 189 (wv (List.replicate 8 0))
theorem MD (work:List Nat) (hl:work.length=8) (W:World) (G:Nat) (hG:WE W G) :
  (storeCells ⟨G,0,none⟩ (wv work).toList).run qP W=.ok () (W.setRow G (wv work)):=by
 have h:=run_storeCells_from (P:=qP) G 189 (wv work).toList 0 (wv (List.replicate 8 0)) W hG (by simp [wv,hl]) (fun v hv=>(Array.all_eq_true_iff_forall_mem.1 (DO work)) v (by simpa using hv))
 simpa using h
theorem UH (work:List Nat) (hl:work.length=8) (W:World) :
  (storeCells ⟨W.heap.size,0,none⟩ (wv work).toList).run qP (W.alloc (.cells (wv (List.replicate 8 0)) 189))=.ok () (W.alloc (.cells (wv work) 189)):=by
 rw [MD work hl _ _ (Blk.new W 189 _),World.setRow_alloc_new]
theorem Ee.put {hs work:List Nat} {w wr:World} {G i:Nat} (h:Ee (Cs hs work i) work w G wr):Ee (Cs hs work (i+1)) work w G (wr.setCell ⟨w.heap.size,i,none⟩ (.int .u32 (BH (nth (Cs hs work i) i) (nth work i):Nat))):=by
 obtain⟨⟨h1,h2,h3,h4⟩,h5,h6⟩:=h;refine⟨⟨?_,h2.far (by simp) _,h3.setCell (by simp) _,by simpa [World.setCell] using h4⟩,h5.far (by simp;omega) _,h6⟩;have:=h1.set_ i (.int .u32 (BH (nth (Cs hs work i) i) (nth work i):Nat));rw [Nk] at this;exact this
theorem Ee.drew {hs work:List Nat} {w wr:World} {G:Nat} (h:Ee hs work w G wr):Ee hs work w G wr.drew:=⟨h.1.drew,h.2.1,h.2.2⟩
theorem Lf (a0 a1 a2 a3 a4 a5 a6 a7:Nat) (s:ByteArray) (w:World) (hr:Ba w) (hs:s.size≤maxLen) (out:List Nat) (HO:Hid (blk [a0,a1,a2,a3,a4,a5,a6,a7] s.data.toList=out)) :
  Calls qP 187 #[.agg (wv [a0,a1,a2,a3,a4,a5,a6,a7]),.string s] w fun e w'=>e=.returned (.agg (wv out))∧Below w.heap.size w w':=by
 have HR:=qH (hr.alloc (.cells (wv [a0,a1,a2,a3,a4,a5,a6,a7]) 189) |>.alloc (.cells (wv (List.replicate 8 0)) 189));have HB:=qH (Cu.start [a0,a1,a2,a3,a4,a5,a6,a7] w);clear hr;go_enter Tryz.func187,Tryz.ntmps187;go_wp2;rw [OT];generalize (w.alloc (Obj.cells (wv [a0,a1,a2,a3,a4,a5,a6,a7]) 189)).alloc (Obj.cells (wv (List.replicate 8 0)) 189)=w1 at *;have X0:=qH HB.out.drew;have s1:=MD (rds (arr s.data.toList 64) (Ej [a0,a1,a2,a3,a4,a5,a6,a7]) 64).list rfl;have s2:=UH (rds (arr s.data.toList 64) (Ej [a0,a1,a2,a3,a4,a5,a6,a7]) 64).list rfl;rw [←OT] at s2;have c0:w1.cell? ⟨w.heap.size,0,none⟩=some (.int .u32 a0):=HB.out.reg 0 (by simp);have c1:w1.cell? ⟨w.heap.size,1,none⟩=some (.int .u32 a1):=HB.out.reg 1 (by simp);have c2:w1.cell? ⟨w.heap.size,2,none⟩=some (.int .u32 a2):=HB.out.reg 2 (by simp);have c3:w1.cell? ⟨w.heap.size,3,none⟩=some (.int .u32 a3):=HB.out.reg 3 (by simp);have c4:w1.cell? ⟨w.heap.size,4,none⟩=some (.int .u32 a4):=HB.out.reg 4 (by simp);have c5:w1.cell? ⟨w.heap.size,5,none⟩=some (.int .u32 a5):=HB.out.reg 5 (by simp);have c6:w1.cell? ⟨w.heap.size,6,none⟩=some (.int .u32 a6):=HB.out.reg 6 (by simp);have c7:w1.cell? ⟨w.heap.size,7,none⟩=some (.int .u32 a7):=HB.out.reg 7 (by simp)
 go_region_held3 (fun w'=>w'.cell? ⟨w.heap.size,0,none⟩=some (.int .u32 a0)∧w'.cell? ⟨w.heap.size,1,none⟩=some (.int .u32 a1)∧w'.cell? ⟨w.heap.size,2,none⟩=some (.int .u32 a2)∧w'.cell? ⟨w.heap.size,3,none⟩=some (.int .u32 a3)∧w'.cell? ⟨w.heap.size,4,none⟩=some (.int .u32 a4)∧w'.cell? ⟨w.heap.size,5,none⟩=some (.int .u32 a5)∧w'.cell? ⟨w.heap.size,6,none⟩=some (.int .u32 a6)∧w'.cell? ⟨w.heap.size,7,none⟩=some (.int .u32 a7))
  (first
    | exact Cu.cells (X0.out.next b4)
    | exact Cu.cells ((X0.out.alloc _).next b4)
    | exact Cu.cells ((X0.out.next b4).alloc _)
    | exact Cu.cells ((X0.out.next b4).next b5)
    | exact Cu.cells (((X0.out.alloc _).next b4).next b5)
    | exact Cu.cells (((X0.out.next b4).alloc _).next b5)
    | exact Cu.cells (((X0.out.next b4).next b5).alloc _)
    | exact Cu.cells (((X0.out.next b4).next b5).alloc _)
    | exact Cu.cells (Ee.start (work:=(rds (arr s.data.toList 64) (Ej [a0,a1,a2,a3,a4,a5,a6,a7]) 64).list) (((X0.out.alloc _).next b4).next b5) hz X0.out.2.2.2).1
    | exact Cu.cells (Ee.start (work:=(rds (arr s.data.toList 64) (Ej [a0,a1,a2,a3,a4,a5,a6,a7]) 64).list) (((X0.out.next b4).alloc _).next b5) hz (X0.out.next b4).2.2.2).1
    | go_keep)
  (first
    | (go_at_call 208;refine(WD s _ hs).mono ?_;rintro en w4 ⟨rfl,b4⟩)
    | (go_at_call 207;refine(QX [a0,a1,a2,a3,a4,a5,a6,a7] (arr s.data.toList 64) _ (HR.out.drew.next b4) rfl (DT _ _)).mono ?_;rintro en w5 ⟨rfl,b5⟩)
    | (go_at_call 207;refine(QX [a0,a1,a2,a3,a4,a5,a6,a7] (arr s.data.toList 64) _ ((HR.out.drew.alloc _).next b4) rfl (DT _ _)).mono ?_;rintro en w5 ⟨rfl,b5⟩;have hz:WE w5 w1.heap.size:=((Blk.new w1.drew _ _).next b4).next b5)
    | (go_at_call 207;refine(QX [a0,a1,a2,a3,a4,a5,a6,a7] (arr s.data.toList 64) _ ((HR.out.drew.next b4).alloc _) rfl (DT _ _)).mono ?_;rintro en w5 ⟨rfl,b5⟩;have hz:WE w5 w4.heap.size:=(Blk.new w4 _ _).next b5))
 have hF:=qH (Ee.last (work:=(rds (arr s.data.toList 64) (Ej [a0,a1,a2,a3,a4,a5,a6,a7]) 64).list) ((X0.out.next b4).next b5));clear b4 b5 s1 s2 X0 HR HB c0 c1 c2 c3 c4 c5 c6 c7;generalize w5.alloc (Obj.cells (wv (rds (arr s.data.toList 64) (Ej [a0,a1,a2,a3,a4,a5,a6,a7]) 64).list) 189)=w6 at *;generalize w5.heap.size=G at *;clear w5 w4 w1
 rotate_left
 have hF:=qH (Ee.start (work:=(rds (arr s.data.toList 64) (Ej [a0,a1,a2,a3,a4,a5,a6,a7]) 64).list) (((X0.out.next b4).alloc _).next b5) hz (X0.out.next b4).2.2.2);clear hz b4 b5 s1 s2 X0 HR HB c0 c1 c2 c3 c4 c5 c6 c7;generalize w5.setRow w4.heap.size (wv (rds (arr s.data.toList 64) (Ej [a0,a1,a2,a3,a4,a5,a6,a7]) 64).list)=w6 at *;generalize w4.heap.size=G at *;clear w5 w4 w1
 rotate_left
 have hF:=qH (show Ee [a0,a1,a2,a3,a4,a5,a6,a7] _ w w1.heap.size _ from Ee.start (work:=(rds (arr s.data.toList 64) (Ej [a0,a1,a2,a3,a4,a5,a6,a7]) 64).list) (((X0.out.alloc _).next b4).next b5) hz X0.out.2.2.2);clear hz b4 b5 s1 s2 X0 HR HB c0 c1 c2 c3 c4 c5 c6 c7;generalize w5.setRow w1.heap.size (wv (rds (arr s.data.toList 64) (Ej [a0,a1,a2,a3,a4,a5,a6,a7]) 64).list)=w6 at *;generalize w1.heap.size=G at *;clear w5 w4 w1
 rotate_left
 all_goals
  obtain⟨work,hwork⟩:∃ work,(rds (arr s.data.toList 64) (Ej [a0,a1,a2,a3,a4,a5,a6,a7]) 64).list=work:=⟨_,rfl⟩;have HL:=qH (show work.length=8 by rw [←hwork];rfl);have HO2:=qH (show Cs [a0,a1,a2,a3,a4,a5,a6,a7] work 8=out by rw [←hwork];exact HO.out);rw [hwork] at hF;simp only [hwork];clear hwork HO;go_wp2
  go_loopw [11] (fun i wr=>∃ k:Nat,k≤8∧i=.int .i64 k∧Ee (Cs [a0,a1,a2,a3,a4,a5,a6,a7] work k) work w G wr) (fun i _=>8-(intOf i).toNat)
  case atStart=>exact⟨0,Nat.zero_le _,rfl,hF.out⟩
  case round =>
   clear hF;obtain⟨k,hk,rfl,hF⟩:=hrel;by_cases hlt:k<8
   ·have c1:=hF.1.reg k (by rw [CZ];exact hlt)
    have c2:wr.cell? ⟨G,k,none⟩=some (.int .u32 (nth work k)):=by rw [hF.2.1.cell k,Fs _ _ (by rw [HL.out];exact hlt)]
    have f1:wr.frozen? ⟨w.heap.size,k,none⟩=false:=hF.1.1.frozen k;have HF2:=qH hF.put.drew;obtain⟨x,hx⟩:∃ x,nth (Cs [a0,a1,a2,a3,a4,a5,a6,a7] work k) k=x:=⟨_,rfl⟩;obtain⟨y,hy⟩:∃ y,nth work k=y:=⟨_,rfl⟩;rw [hx] at c1;rw [hy] at c2;rw [hx,hy] at HF2
    have hl8:(k:Int)<8:=by omega
    have hadd:=JT;clear hF hx hy;go_wp2
    go_region
    clear c1 c2 f1 hadd;generalize World.drew _=w7 at *;go_wp2
    go_roundw
    case rel=>exact⟨k+1,by omega,by go_num,HF2.out⟩
    case measure=>simp [intOf];omega
   ·obtain rfl:k=8:=by omega
    rw [HO2.out] at hF;have HQ:=qH (show out.length=8 by rw [←HO2.out,CZ];rfl);have HF:=qH hF;clear hF
    go_wp2_with (first
     | (refine wpList_load_row rfl 189 _ rfl w.heap.size rfl 189 _ (0,0) _ HF.out.1.1 Tryz.underlying189 rfl (by rw [AS,HQ.out];exact Ed) ?_)
     | (refine wpList_store_row rfl 189 _ _ rfl (w.heap.size+1) (wv out) rfl rfl 189 (wv (List.replicate 8 0)) HF.out.1.2.1 (by rw [AS,HQ.out];exact Ed) (by rw [AS,AS,HQ.out];rfl) (DO _) ?_))
    have hb:Below w.heap.size w (wr.setRow (w.heap.size+1) (wv out)):=Bp HF.out.1.2.2.1 (by omega);exact bodyPost_ret (v:=.agg (wv out)) (results_cell_row Tryz.results187 _ _ (w.heap.size+1) 189 _ (0,0) _ rfl (setRow_heap _ _ _ _ _ _ HF.out.1.2.1) Tryz.underlying189 rfl (by rw [AS,HQ.out];exact Ed)) rfl ⟨rfl,hb⟩
theorem block (hs:List Nat) (s:ByteArray) (w:World) (hr:Ba w) (hz:s.size≤maxLen) (h8:hs.length=8) :
  Calls qP 187 #[.agg (wv hs),.string s] w fun e w'=>e=.returned (.agg (wv (blk hs s.data.toList)))∧Below w.heap.size w w':=by
 match hs,h8 with
 | [a0,a1,a2,a3,a4,a5,a6,a7],_=>exact Lf a0 a1 a2 a3 a4 a5 a6 a7 s w hr hz _ (qH rfl)
theorem CK {W:World} {b:Nat} {t:TypeId} {a0 a1 a2 a3 a4:Value} (h:Blk W b t #[a0,a1,a2,a3,a4]) (v0 v1 v2 v3 v4:Value) :
  Blk (((((W.setCell ⟨b,0,none⟩ v0).setCell ⟨b,1,none⟩ v1).setCell ⟨b,2,none⟩ v2).setCell ⟨b,3,none⟩ v3).setCell ⟨b,4,none⟩ v4) b t #[v0,v1,v2,v3,v4] :=
 ((((h.set_ 0 v0).set_ 1 v1).set_ 2 v2).set_ 3 v3).set_ 4 v4
theorem Ak {w W:World} (h:Aa w W) {p:Addr} (hb:w.heap.size≤p.block) (v:Value):Aa w (W.setCell p v):=Ad (h.below.setCell hb v)
theorem AE {w W:World} {b:Nat} (h:Aa w W) (hb:w.heap.size≤b) (v0 v1 v2 v3 v4:Value) :
  Aa w (((((W.setCell ⟨b,0,none⟩ v0).setCell ⟨b,1,none⟩ v1).setCell ⟨b,2,none⟩ v2).setCell ⟨b,3,none⟩ v3).setCell ⟨b,4,none⟩ v4) :=
 Ak (Ak (Ak (Ak (Ak h (p:=⟨b,0,none⟩) hb v0) (p:=⟨b,1,none⟩) hb v1) (p:=⟨b,2,none⟩) hb v2) (p:=⟨b,3,none⟩) hb v3) (p:=⟨b,4,none⟩) hb v4
theorem Ev (W:World) {b g:Nat} (hg:g≠b) (v0 v1 v2 v3 v4:Value) :
  (((((W.setCell ⟨b,0,none⟩ v0).setCell ⟨b,1,none⟩ v1).setCell ⟨b,2,none⟩ v2).setCell ⟨b,3,none⟩ v3).setCell ⟨b,4,none⟩ v4).heap[g]?=W.heap[g]? :=
 ((((Below.heap_setCell _ ⟨b,4,none⟩ v4 g hg).trans (Below.heap_setCell _ ⟨b,3,none⟩ v3 g hg)).trans (Below.heap_setCell _ ⟨b,2,none⟩ v2 g hg)).trans (Below.heap_setCell _ ⟨b,1,none⟩ v1 g hg)).trans (Below.heap_setCell _ ⟨b,0,none⟩ v0 g hg)
theorem IN {W:World} {b g:Nat} {t:TypeId} {cs:Array Value} (h:Blk W g t cs) (hg:g≠b) (v0 v1 v2 v3 v4:Value) :
  Blk (((((W.setCell ⟨b,0,none⟩ v0).setCell ⟨b,1,none⟩ v1).setCell ⟨b,2,none⟩ v2).setCell ⟨b,3,none⟩ v3).setCell ⟨b,4,none⟩ v4) g t cs:=(Ev W hg v0 v1 v2 v3 v4).trans h
theorem Blk.c {W:World} {b:Nat} {t:TypeId} {cs:Array Value} (h:Blk W b t cs) (i:Nat) {v:Value} (e:cs[i]?=some v):W.cell? ⟨b,i,none⟩=some v:=(h.cell i).trans e
theorem Ab {w W:World} (h:Aa w W) (ob:Obj):Aa w (W.alloc ob):=Ad (h.below.alloc h.below.size _)
theorem Ac {V W w':World} (h1:Aa V W) (h2:Aa W w'):Aa V w':=Ad (Ae h1.below h2.below)
theorem QY (b:Nat) (p:ByteArray) (k:List UInt8) (w:World) (c0:w.cell? ⟨b,0,none⟩=some (.string p))
  (H:Hid (∀ W,Aa w W→Calls qP 89 #[.string p,.slice (some ⟨b,1,none⟩) 1 1] W fun e w'=>e=.returned (.string (bs k))∧Aa w w'))
  (hs:∀ W,(Instr.slice 74 (.slice (some ⟨b,0,none⟩) 2 2) (some (.int .i64 1)) none none).run qP W=.ok (.slice (some ⟨b,1,none⟩) 1 1) W) :
  Calls qP 39 #[.slice (some ⟨b,0,none⟩) 2 2] w fun e w'=>e=.returned (.string (bs k))∧Aa w w':=by
 have r0:=Aa.refl w;go_enter Tryz.func39,Tryz.ntmps39;go_wp2
 go_region_held3 (fun W=>W.cell? ⟨b,0,none⟩=some (.string p))
  (first|exact s3.cell c0|go_keep)
  (first
    | (go_at_call 89;refine(H.out _ (by exact r0)).mono ?_;clear H;rintro en w3 ⟨rfl,s3⟩))
 all_goals go_wp2
 all_goals go_ret
 all_goals exact⟨rfl,s3⟩
theorem QZ (b:Nat) (p:ByteArray) (k:List UInt8) (w:World) (c0:w.cell? ⟨b,0,none⟩=some (.string p))
  (H:Hid (∀ W,Aa w W→Calls qP 89 #[.string p,.slice (some ⟨b,1,none⟩) 2 2] W fun e w'=>e=.returned (.string (bs k))∧Aa w w'))
  (hs:∀ W,(Instr.slice 74 (.slice (some ⟨b,0,none⟩) 3 3) (some (.int .i64 1)) none none).run qP W=.ok (.slice (some ⟨b,1,none⟩) 2 2) W) :
  Calls qP 39 #[.slice (some ⟨b,0,none⟩) 3 3] w fun e w'=>e=.returned (.string (bs k))∧Aa w w':=by
 have r0:=Aa.refl w;go_enter Tryz.func39,Tryz.ntmps39;go_wp2
 go_region_held3 (fun W=>W.cell? ⟨b,0,none⟩=some (.string p))
  (first|exact s3.cell c0|go_keep)
  (first
    | (go_at_call 89;refine(H.out _ (by exact r0)).mono ?_;clear H;rintro en w3 ⟨rfl,s3⟩))
 all_goals go_wp2
 all_goals go_ret
 all_goals exact⟨rfl,s3⟩
theorem kH {w:World} {b:Nat} {p x:ByteArray} (h:Blk w b 9 #[.string p,.string x]):Txs w w.heap.size (.slice (some ⟨b,1,none⟩) 1 1) [x] :=
 ⟨_,1,rfl,fun i hi=>by
  have:i=0:=by simpa using hi
  subst this
  exact⟨b,1,rfl,h.lt,(h.cell 1).trans rfl⟩⟩
theorem kI {w:World} {b:Nat} {p x y:ByteArray} (h:Blk w b 9 #[.string p,.string x,.string y]):Txs w w.heap.size (.slice (some ⟨b,1,none⟩) 2 2) [x,y] :=
 ⟨_,2,rfl,fun i hi=>by
  match i,hi with
  | 0,_=>exact⟨b,1,rfl,h.lt,(h.cell 1).trans rfl⟩
  | 1,_=>exact⟨b,1,rfl,h.lt,(h.cell 2).trans rfl⟩⟩
theorem OV (b k1:Nat) (hk:1≤k1) (W:World):(Instr.slice 74 (.slice (some ⟨b,0,none⟩) (k1+1) (k1+1)) (some (.int .i64 1)) none none).run qP W=.ok (.slice (some ⟨b,1,none⟩) k1 k1) W:=by
 obtain⟨i0,hi0,hz0,hz1,hz2⟩:=info_parts FN
 have hE:qP.elem 74=9:=by kernel_rfl
 have hr:=run_slice_l (P:=qP) (w:=W) 74 (some ⟨b,0,none⟩) (k1+1) (k1+1) (by kernel_rfl) .i64 1 (by omega) (by omega);rw [hE,run_sizeOf W hi0,show qP.cellsOf 9=1 by kernel_rfl] at hr;rw [hr];simp only [Result.andThen,sliced];rw [if_neg (by omega)];simp [Addr.add]
theorem Tk (p x:ByteArray) (b:Nat) (w:World) (h:Blk w b 9 #[.string p,.string x]) (hp:p.size≤1000000) (hx:x.size≤1000000) :
  Calls qP 39 #[.slice (some ⟨b,0,none⟩) 2 2] w fun e w'=>e=.returned (.string (bs (Fp p [x])))∧Aa w w' :=
 QY b p _ w ((h.cell 0).trans rfl) (qH fun W hW=>(Wy p _ [x] W (kH (h.next hW.below)) (by simp [tot];omega)).mono fun _ _ ⟨he,hb⟩=>⟨he,Ac hW (Ad hb)⟩) (OV b 1 (by omega))
theorem cD (p x y:ByteArray) (b:Nat) (w:World) (h:Blk w b 9 #[.string p,.string x,.string y]) (hp:p.size≤1000000) (hx:x.size≤1000000) (hy:y.size≤1000000) :
  Calls qP 39 #[.slice (some ⟨b,0,none⟩) 3 3] w fun e w'=>e=.returned (.string (bs (Fp p [x,y])))∧Aa w w' :=
 QZ b p _ w ((h.cell 0).trans rfl) (qH fun W hW=>(Wy p _ [x,y] W (kI (h.next hW.below)) (by simp [tot];omega)).mono fun _ _ ⟨he,hb⟩=>⟨he,Ac hW (Ad hb)⟩) (OV b 2 (by omega))
theorem Hd (s:Value) (l:List KV) (k v:ByteArray) (w:World) (hP:Prs w s l) (hu:Up l) (hz:l.length+1≤1000000000) :
  Calls qP 26 #[s,.string k,.string v] w fun e w'=>∃ v',e=.returned v'∧Prs w' v' (Az l k v)∧Aa w w'∧∀ g,v'.ownBlock=some g→w.heap.size≤g:=by
 have H:=qH (kD s l k v w hP hu hz);obtain⟨A,cap,rfl,_,_⟩:=hP;go_enter Tryz.func26,Tryz.ntmps26
 go_wp2_with fail
 refine H.out.mono ?_;rintro e w1 ⟨v',rfl,h⟩;go_wp2
 go_ret
 exact⟨_,rfl,h.prs,Ad h.below,fun g hg=>(h.1.lt g hg).1⟩
theorem dN (s:Value) (l:List KV) (k v:ByteArray) (w:World) (hP:Prs w s l) (hu:Up l) (hz:l.length+1≤1000000000) :
  Calls qP 26 #[s,.string k,.string v] w fun e w'=>∃ v',e=.returned v'∧Prs w' v' (Az l k v)∧Aa w w' :=
 (Hd s l k v w hP hu hz).mono fun _ _ ⟨v',h1,h2,h3,_⟩=>⟨v',h1,h2,h3⟩
theorem ZF (n:Int) (x:List UInt8) (f:Int) (w:World)
  (H:Hid (Calls qP 123 #[.int .i64 n] w fun e w'=>e=.returned (.tuple #[.string (bs x),.int .i64 f])∧Below w.heap.size w w')) :
  Calls qP 78 #[.int .i64 n] w fun e w'=>e=.returned (.string (bs x))∧Aa w w':=by
 go_enter Tryz.func78,Tryz.ntmps78
 go_wp2_with fail
 refine H.out.mono ?_;rintro e w1 ⟨rfl,b1⟩;go_wp2
 go_ret
 exact⟨rfl,Ad b1⟩
theorem Nl (n:Int) (w:World):Calls qP 78 #[.int .i64 n] w fun e w'=>e=.returned (.string (bs (Ag n).1))∧Aa w w':=ZF n _ _ w (qH (Wz n w))
theorem WF (n:ByteArray) (x:List UInt8) (f:Int) (w:World)
  (H:Hid (Calls qP 93 #[.string n] w fun e w'=>e=.returned (.tuple #[.string (bs x),.int .i64 f])∧Below w.heap.size w w')) :
  Calls qP 79 #[.string n] w fun e w'=>e=.returned (.string (bs x))∧Aa w w':=by
 go_enter Tryz.func79,Tryz.ntmps79
 go_wp2_with fail
 refine H.out.mono ?_;rintro e w1 ⟨rfl,b1⟩;go_wp2
 go_ret
 exact⟨rfl,Ad b1⟩
theorem Nm (n:ByteArray) (w:World):Calls qP 79 #[.string n] w fun e w'=>e=.returned (.string (bs (Ai n).1))∧Aa w w':=WF n _ _ w (qH (Tg n w))
theorem UI (x:ByteArray):(Ai x).2=0∨(Ai x).2=4:=by
 unfold Ai
 split
 ·exact .inl rfl
 ·exact .inr rfl
theorem OW (s t:List UInt8) (f:Int) (x:ByteArray) (w:World) (hf:f=0∨f=4) (hs:s.length≤1000000000) (ht:t.length≤100000)
  (K:Hid (∀ W,Calls qP 93 #[.string x] W fun e w'=>e=.returned (.tuple #[.string (bs t),.int .i64 f])∧Below W.heap.size W w')) :
  Calls qP 47 #[.string (bs s),.int .i64 0,.string x] w fun en w'=>en=.returned (AP (Ar (s,0) (t,f)))∧Below w.heap.size w w':=by
 rcases hf with rfl|rfl
 ·have hr:Ar (s,0) (t,0)=(s++t,0):=by simp [Ar]
  have a1:∀ W,(Op.stringOp .add (bs s) (bs t)).run qP W=.ok (.string (bs (s++t))) W:=fun W=>AB W s t (by omega);rw [hr];unfold AP;clear hr hs ht;go_enter Tryz.func47,Tryz.ntmps47
  go_wp2_with fail
  refine(K.out _).mono ?_;rintro en w1 ⟨rfl,b1⟩;go_wp2
  go_ret2
  exact⟨rfl,b1⟩
 ·have hr:Ar (s,0) (t,4)=([],4):=by simp [Ar]
  rw [hr];unfold AP;clear hr hs ht;go_enter Tryz.func47,Tryz.ntmps47
  go_wp2_with fail
  refine(K.out _).mono ?_;rintro en w1 ⟨rfl,b1⟩;go_wp2
  go_ret2
  exact⟨rfl,b1⟩
theorem Ra (s:List UInt8) (x:ByteArray) (w:World) (hs:s.length≤1000000000) :
  Calls qP 47 #[.string (bs s),.int .i64 0,.string x] w fun en w'=>en=.returned (AP (Ar (s,0) (Ai x)))∧Aa w w' :=
 (OW s (Ai x).1 (Ai x).2 x w (UI x) hs (by have:=AF x;omega) (qH fun W=>Tg x W)).mono fun e w' ⟨he,hb⟩=>⟨he,Ad hb⟩
theorem Rb (s t:List UInt8) (e f:Int) (x:Int) (w:World) (hs:s.length≤1000000000) (ht:t.length≤100000)
  (K:Hid (∀ W,Calls qP 123 #[.int .i64 x] W fun e w'=>e=.returned (.tuple #[.string (bs t),.int .i64 f])∧Below W.heap.size W w')) :
  Calls qP 91 #[.string (bs s),.int .i64 e,.int .i64 x] w fun en w'=>en=.returned (AP (Ar (s,e) (t,f)))∧Below w.heap.size w w':=by
 by_cases he:e=0
 ·subst he
  by_cases hf:f=0
  ·subst hf
   have hr:Ar (s,0) (t,0)=(s++t,0):=by simp [Ar]
   have a1:∀ W,(Op.stringOp .add (bs s) (bs t)).run qP W=.ok (.string (bs (s++t))) W:=fun W=>AB W s t (by omega);rw [hr];unfold AP;clear hr hs ht;go_enter Tryz.func91,Tryz.ntmps91
   go_wp2_with fail
   refine(K.out _).mono ?_;rintro en w1 ⟨rfl,b1⟩;go_wp2
   go_ret2
   exact⟨rfl,b1⟩
  ·have hr:Ar (s,0) (t,f)=([],f):=by simp [Ar,hf]
   have hfn:(f != 0)=true:=by rw [bne_iff_ne];exact hf
   rw [hr];unfold AP;clear hr hs ht hf;go_enter Tryz.func91,Tryz.ntmps91
   go_wp2_with fail
   refine(K.out _).mono ?_;rintro en w1 ⟨rfl,b1⟩;go_wp2
   go_ret2
   exact⟨rfl,b1⟩
 ·have hr:Ar (s,e) (t,f)=([],e):=by simp [Ar,he]
  have hen:(e != 0)=true:=by rw [bne_iff_ne];exact he
  rw [hr];unfold AP;clear hr hs ht he;go_enter Tryz.func91,Tryz.ntmps91
  go_wp2_with fail
  refine(K.out _).mono ?_;rintro en w1 ⟨rfl,b1⟩;go_wp2
  go_ret2
  exact⟨rfl,b1⟩
theorem cE (st:List UInt8×Int) (x:Int) (w:World) (hs:st.1.length≤1000000000) :
  Calls qP 91 #[.string (bs st.1),.int .i64 st.2,.int .i64 x] w fun en w'=>en=.returned (AP (Ar st (Ag x)))∧Aa w w' :=
 (Rb st.1 (Ag x).1 st.2 (Ag x).2 x w hs (by have:=Au x;omega) (qH fun W=>Wz x W)).mono fun e w' ⟨he,hb⟩=>⟨he,Ad hb⟩
theorem cF (h:Hdr) (w:World):Calls qP 45 #[hdV h] w fun e w'=>e=.returned (AP (Br h))∧Aa w w':=by
 obtain⟨chain,height,time,root,mac⟩:=h;have HB:=qH (Blk.new w 34 #[.string chain,.int .i64 height,.int .i64 time,.string root,.string mac]);have HS:=qH (show Aa w (w.alloc (.cells #[.string chain,.int .i64 height,.int .i64 time,.string root,.string mac] 34)) from Ad ((Below.refl _ w).alloc (Nat.le_refl _) _));have K1:=qH (fun W=>Ra [] chain W (by simp));have l1:=AZ ([],0) (Ai chain);have t1:=AF chain;unfold Br;simp only [List.length_nil] at l1 ⊢;obtain⟨s1,e1⟩:∃ s,s=Ar ([],0) (Ai chain):=⟨_,rfl⟩;rw [←e1] at K1 l1 ⊢;have K2:=qH (fun W=>cE s1 height W (by omega));have l2:=AZ s1 (Ag height);have t2:=Au height;obtain⟨s2,e2⟩:∃ s,s=Ar s1 (Ag height):=⟨_,rfl⟩;rw [←e2] at K2 l2 ⊢;have K3:=qH (fun W=>cE s2 time W (by omega));have l3:=AZ s2 (Ag time);have t3:=Au time;obtain⟨⟨a3,f3⟩,e3⟩:∃ s,s=Ar s2 (Ag time):=⟨_,rfl⟩;rw [←e3] at K3 l3 ⊢;have HL:=qH (show a3.length≤1000000 by simp only at l3;omega);have K4:=qH (fun W=>Ra a3 root W (by have:=HL.out;omega));obtain⟨z,ez⟩:∃ s,s=Ar (a3,f3) (Ai root):=⟨_,rfl⟩;rw [←ez];unfold AP at K1 K2 K3 K4 ⊢;unfold hdV;clear l1 l2 l3 t1 t2 t3 e1 e2 e3 HL;go_enter Tryz.func45,Tryz.ntmps45
 go_wp2_with fail
 refine(K1.out _).mono ?_;rintro e w1 ⟨rfl,q1⟩;have S1:=qH (show Aa w w1 from Ad (Ae HS.out.below q1.below));have X1:=HB.out.next q1.below;have y1:w1.cell? ⟨w.heap.size,1,none⟩=some (.int .i64 height):=X1.cell 1;clear HB HS q1 K1
 go_wp2_with fail
 refine(K2.out _).mono ?_;rintro e w2 ⟨rfl,q2⟩;have S2:=qH (show Aa w w2 from Ad (Ae S1.out.below q2.below));have X2:=X1.next q2.below;have y2:w2.cell? ⟨w.heap.size,2,none⟩=some (.int .i64 time):=X2.cell 2;clear q2 K2 S1 X1 y1
 go_wp2_with fail
 refine(K3.out _).mono ?_;rintro e w3 ⟨rfl,q3⟩;have S3:=qH (show Aa w w3 from Ad (Ae S2.out.below q3.below));have X3:=X2.next q3.below;have y3:w3.cell? ⟨w.heap.size,3,none⟩=some (.string root):=X3.cell 3;clear q3 K3 S2 X2 y2 X3;by_cases he:f3=0
 ·subst he
  go_wp2_with fail
  refine(K4.out _).mono ?_;rintro e w4 ⟨rfl,q4⟩;have R:=qH (show Aa w w4 from Ad (Ae S3.out.below q4.below));rw [←ez];clear q4 K4 S3 y3 ez;go_wp2
  go_ret2
  exact⟨rfl,R.out⟩
 ·have hen:(f3 != 0)=true:=by rw [bne_iff_ne];exact he
  rw [Kz (s:=(a3,f3)) (p:=Ai root) he] at ez;subst ez;clear he K4;go_wp2
  go_ret2
  exact⟨rfl,S3.out⟩
theorem cG (h:Hdr) (w:World):Calls qP 15 #[hdV h] w fun e w'=>e=.returned (AP (Gk h))∧Aa w w':=by
 have K1:=qH (fun W=>cF h W);have hl:=Iy h;unfold Gk;obtain⟨⟨a3,f3⟩,e3⟩:∃ s,s=Br h:=⟨_,rfl⟩;rw [←e3] at K1 hl ⊢;obtain⟨chain,height,time,root,mac⟩:=h;have HB:=qH (Blk.new w 34 #[.string chain,.int .i64 height,.int .i64 time,.string root,.string mac]);have HS:=qH (show Aa w (w.alloc (.cells #[.string chain,.int .i64 height,.int .i64 time,.string root,.string mac] 34)) from Ad ((Below.refl _ w).alloc (Nat.le_refl _) _));have K4:=qH (fun W=>Ra a3 mac W (by simp only at hl;omega));obtain⟨z,ez⟩:∃ s,s=Ar (a3,f3) (Ai mac):=⟨_,rfl⟩;rw [←ez];have y0:=HB.out.cell 0;have y1:=HB.out.cell 1;have y2:=HB.out.cell 2;have y3:=HB.out.cell 3;have y4:=HB.out.cell 4;simp only [List.getElem?_toArray,List.getElem?_cons_zero,List.getElem?_cons_succ] at y0 y1 y2 y3 y4;unfold AP hdV at *;clear hl e3;go_enter Tryz.func15,Tryz.ntmps15
 go_wp2_with fail
 refine(K1.out _).mono ?_;rintro e w1 ⟨rfl,q1⟩;have S1:=qH (show Aa w w1 from Ad (Ae HS.out.below q1.below));have X1:=HB.out.next q1.below;clear y0 y1 y2 y3 y4 HB HS q1 K1;have y4:w1.cell? ⟨w.heap.size,4,none⟩=some (.string mac):=X1.cell 4;by_cases he:f3=0
 ·subst he
  go_wp2_with fail
  refine(K4.out _).mono ?_;rintro e w4 ⟨rfl,q4⟩;have R:=qH (show Aa w w4 from Ad (Ae S1.out.below q4.below));rw [←ez];clear q4 K4 S1 y4 X1 ez;go_wp2
  go_ret2
  exact⟨rfl,R.out⟩
 ·have hen:(f3 != 0)=true:=by rw [bne_iff_ne];exact he
  rw [Kz (s:=(a3,f3)) (p:=Ai mac) he] at ez;subst ez;clear he K4;go_wp2
  go_ret2
  exact⟨rfl,S1.out⟩
theorem Tl (n:Nat):(madeCells (Value.int .u8 0).cells n).toList=cells (List.replicate n 0):=by
 apply List.ext_getElem?
 intro i;simp only [madeCells,cells,Array.getElem?_toList,Array.getElem?_map,List.getElem?_map,List.getElem?_replicate,Array.getElem?_range]
 split
 ·simp [Value.cells,Nat.mod_one]
 ·rfl
theorem Rc (z:Nat) (hz:z<64) (w:World) :
  Lib.OwnBuf w.heap.size 5 (.slice (some ⟨w.heap.size,0,none⟩) (z+1) (z+9)) (z+1) (cells (128::List.replicate z 0)) w (w.alloc (.cells ((madeCells (Value.int .u8 0).cells (z+9)).setIfInBounds 0 (.int .u8 128)) 5)):=by
 have hB:Blk (w.alloc (.cells ((madeCells (Value.int .u8 0).cells (z+9)).setIfInBounds 0 (.int .u8 128)) 5)) w.heap.size 5 ((madeCells (Value.int .u8 0).cells (z+9)).setIfInBounds 0 (.int .u8 128)):=Blk.new _ _ _;refine⟨⟨by simp [cells],.inr ⟨w.heap.size,z+9,_,(0,0),rfl,Nat.le_refl _,hB,Nat.zero_le _,by omega,by unfold maxLen;omega,by simp [size_madeCells],?_⟩⟩,(Below.refl _ _).alloc (Nat.le_refl _) _,by simp⟩;rw [Array.toList_setIfInBounds,Tl,Nat.mul_one]
 show Value.int .u8 128::(cells (List.replicate (z+8) 0)).take z=Value.int .u8 128::cells (List.replicate z 0)
 unfold cells;rw [←List.map_take,List.take_replicate,Nat.min_eq_left (by omega)]
theorem UJ (n:Nat) (hn:0<n):(madeCells (Value.int .u8 0).cells n)[0]?=some (.int .u8 0):=by
 rw [←Array.getElem?_toList,Tl];obtain⟨m,rfl⟩:∃ m,n=m+1:=⟨n-1,by omega⟩
 rfl
theorem Tm (z m k:Nat):((128:UInt8)::(List.replicate z 0++by8 m k)).length=z+1+k:=by
 simp [Sz]
 omega
theorem WG (z m k c:Nat) (hc:m/2 ^ (56-8*k)%256=c):cells (128::(List.replicate z 0++by8 m (k+1)))=cells (128::(List.replicate z 0++by8 m k))++[.int .u8 c]:=by
 have e:(UInt8.ofNat (m/2 ^ (56-8*k)%256)).toNat=c:=by rw [W.toNat_ofNat (Nat.mod_lt _ (by decide)),hc]
 show cells (128::(List.replicate z 0++(by8 m k++[UInt8.ofNat (m/2 ^ (56-8*k)%256)])))=_
 generalize UInt8.ofNat (m/2 ^ (56-8*k)%256)=b at *;simp [cells,e]
theorem OX {B z m k c:Nat} {v:Value} {W0 w:World} (hc:m/2 ^ (56-8*k)%256=c) (h:Lib.OwnBuf B 5 v (z+1+k+1) (cells (128::(List.replicate z 0++by8 m k))++[.int .u8 c]) W0 w) :
  Lib.OwnBuf B 5 v (z+1+(k+1)) (cells (128::(List.replicate z 0++by8 m (k+1)))) W0 w:=by
 rw [WG z m k c hc];exact h
theorem WH (n m z:Nat) (hn:n≤9223372036854775807) (HZ:Hid (zs n=z)) (HM:Hid (n*8%18446744073709551616=m)) (w:World) :
  Calls qP 186 #[.int .i64 n] w fun e w'=>e=.returned (.string (bs (128::List.replicate z 0++by8 m 8)))∧Below w.heap.size w w':=by
 have hz:z<64:=by rw [←HZ.out];exact Mf n
 have ez:((119:Int)-(n:Int)%64)%64=(z:Int):=by rw [←HZ.out];unfold zs;omega
 obtain⟨i0,hi,hz0,hz1,hz2⟩:=info_parts Ff
 have hmk:∀ W:World,(Instr.makeSlice 121 (.int .i64 (1+(z:Int))) (.int .i64 (1+(z:Int)+8))).run qP W=.ok (.slice (some ⟨W.heap.size,0,none⟩) (z+1) (z+9)) (W.alloc (.cells (madeCells (Value.int .u8 0).cells (z+9)) 5)):=fun W=>by
  have hr:=run_make (P:=qP) W 121 5 i0 _ Tryz.underlying121 hi hz0 .i64 .i64 (1+(z:Int)) (1+(z:Int)+8) (by omega) (by omega) (by rw [hz2];omega) (by omega);rw [hz1,show(1+(z:Int)).toNat=z+1 by omega,show(1+(z:Int)+8).toNat=z+9 by omega,Nat.mul_one] at hr;exact hr
 have hc:=UJ (z+9) (by omega);have hO:=Rc z hz w;generalize madeCells (Value.int .u8 0).cells (z+9)=M at *;have HO:=qH hO;clear hO
 have eM:IntKind.u64.wrap ((n:Int)*8)=(m:Int):=by rw [IntKind.wrap_u64,←HM.out];omega
 go_enter Tryz.func186,Tryz.ntmps186;go_wp2;simp only [ez];clear ez eM hmk hc
 go_loopw [4,24] (fun v i wr=>∃ k:Nat,k≤8∧i=.int .i64 k∧Lib.OwnBuf w.heap.size 5 v (z+1+k) (cells (128::List.replicate z 0++by8 m k)) w wr) (fun _ i _=>8-(intOf i).toNat)
 case atStart=>exact⟨0,Nat.zero_le _,rfl,by simpa [by8] using HO.out⟩
 case round =>
  clear HO;obtain⟨k,hk,rfl,hown⟩:=hrel;by_cases hlt:k<8
  ·have n1:((56:Int)-8*(k:Int)).toNat=56-8*k:=by omega
   have p1:0≤(56:Int)-8*(k:Int):=by omega
   have q1:(56:Int)-8*(k:Int)≤64:=by omega
   obtain⟨c,hc⟩:∃ c,m/2 ^ (56-8*k)%256=c:=⟨_,rfl⟩
   have ec:(m:Int)/2 ^ (56-8*k)%256=(c:Int):=by
    rw [←hc,Int.natCast_emod,Int.natCast_ediv,Int.natCast_pow]
    rfl
   have HC:=qH hc;clear hc
   go_wp2_with (at_builtin;go_must (refine Lib.wpList_append_byte rfl _ _ 121 rfl w.heap.size 5 i0 Tryz.underlying121 hi hz0 hz1 hz2 u4 (z+1+k) _ rfl w wr _ hown rfl (by omega) ?_))
   intro v2 w2 h2;have R:=OX HC.out h2;clear h2 hown ec n1 p1 q1;go_wp2
   go_roundw
   case rel=>exact⟨k+1,by omega,by go_num,R⟩
   case measure=>simp [intOf];omega
  ·obtain rfl:k=8:=by omega
   have hst:=CT w.heap.size u4 (128::(List.replicate z 0++by8 m 8)) w wr (by
    have:=hown;rw [Tm]
    exact this)
   go_wp2
   go_ret
   exact⟨rfl,hown.2.1⟩
theorem pad (n:Nat) (hn:n≤9223372036854775807) (w:World) :
  Calls qP 186 #[.int .i64 n] w fun e w'=>e=.returned (.string (bs (Gu n)))∧Below w.heap.size w w' :=
 WH n _ _ hn (qH rfl) (qH rfl) w
theorem Ii {P:Program} {ops:Array Oper} {rest:List Oper} {o:Oper} {a:Act} {Q:Exit→Act→World→Prop} (hgd:o.guard=none) (s x:Operand) (t:TypeId)
  (ho:o.op=.call { callee:=.builtin .append,args:=#[s,x],argTypes:=#[t,t] })
  (B:Nat) (e:TypeId) (i:TypeInfo) (ht:P.underlying t=some (.slice e)) (hi:P.info? e=some i) (hz:i.zero=some (.int .u8 0)) (hsize:i.size=1) (hby:i.bytes=1)
  (v:Value) (n:Nat) (xs:List Value) (hs:a.eval s=v) (W0 w0:World) (c d f g:Int) (hb:Lib.OwnBuf B e v n xs W0 w0)
  (hx:a.eval x=.slice (some ⟨w0.heap.size,0,none⟩) 4 4) (hlen:n+4≤140737488355328)
  (h:∀ v' w',Lib.OwnBuf B e v' (n+4) (xs++[.int .u8 c,.int .u8 d,.int .u8 f,.int .u8 g]) W0 w'→wpList P ops Q rest (a.put o.dst v') w'):wpList P ops Q (o::rest) a (w0.alloc (.cells #[.int .u8 c,.int .u8 d,.int .u8 f,.int .u8 g] e)):=by
 have hb':=hb.alloc (.cells #[.int .u8 c,.int .u8 d,.int .u8 f,.int .u8 g] e);refine wpList_append_ownF _ hgd s x t ho B e i (.int .u8 0) 1 1 ht hi hz hsize hby rfl (by decide) v n xs hs hb'.1 ⟨w0.heap.size,0,none⟩ 4 4 [.int .u8 c,.int .u8 d,.int .u8 f,.int .u8 g] hx rfl ?_ ?_ (by unfold maxLen;omega) (by omega) hb'.2.2 ?_
 ·intro j u hj
  match j,hj with
  | 0,hj=>simp at hj;subst hj;simp [Addr.add]
  | 1,hj=>simp at hj;subst hj;simp [Addr.add]
  | 2,hj=>simp at hj;subst hj;simp [Addr.add]
  | 3,hj=>simp at hj;subst hj;simp [Addr.add]
  | (j+4),hj=>simp at hj
 ·intro u hu
  simp at hu
  rcases hu with rfl|rfl|rfl|rfl<;>rfl
 ·intro v' w' ho' hg _
  exact h v' w' (hb'.grown ho' hg)
def Hx (p:List UInt8) (w:World) (k:Nat) (wr:World):Prop:=Blk wr w.heap.size 189 (wv (Gw p k))∧Below w.heap.size w wr
theorem Hx.drew {p:List UInt8} {w wr:World} {k:Nat} (h:Hx p w k wr):Hx p w k wr.drew:=⟨h.1,Below.drewN h.2 1⟩
theorem Hx.reg {p:List UInt8} {w wr:World} {k:Nat} (h:Hx p w k wr) (i:Nat) (hi:i<8):wr.cell? ⟨w.heap.size,i,none⟩=some (.int .u32 (nth (Gw p k) i)):=by
 rw [h.1.cell i,Fs _ _ (by rw [Fo];exact hi)]
theorem IP (p:ByteArray) (a b:Nat):(p.extract a b).data.toList=(p.data.toList.drop a).take (b-a):=by
 rw [ByteArray.data_extract,Array.toList_extract,List.extract_eq_take_drop]
theorem Hx.step {p:ByteArray} {w w2 w3:World} {k:Nat} (h:Hx p.data.toList w k w2) (b:Below w2.heap.size w2 w3):Hx p.data.toList w (k+1) (w3.setRow w.heap.size (wv (blk (Gw p.data.toList k) (p.extract (64*k) (64*k+64)).data.toList))):=by
 refine⟨?_,Bp (h.2.trans (b.mono h.2.size)) (Nat.le_refl _)⟩
 have e:Gw p.data.toList (k+1)=blk (Gw p.data.toList k) (p.extract (64*k) (64*k+64)).data.toList:=by
  rw [IP,show 64*k+64-64*k=64 by omega]
  rfl
 rw [e];exact setRow_heap _ _ _ _ _ _ (h.1.next b)
theorem Tn (k:Nat):Value.int .i64 (64*(k:Int)+64)=Value.int .i64 ((64*(k+1):Nat):Int):=by rw [show((64*(k+1):Nat):Int)=64*(k:Int)+64 by omega]
theorem UK {w wr:World} {v:Value} {w2:World} (hb:Below w.heap.size w wr) (h:Lib.OwnBuf wr.heap.size 5 v 0 [] wr w2):Lib.OwnBuf w.heap.size 5 v 0 [] w w2:=by
 obtain⟨h1,h2,h3⟩:=h;refine⟨⟨h1.1,?_⟩,hb.trans (h2.mono hb.size),Nat.le_trans hb.size h3⟩
 rcases h1.2 with hn|⟨g,cap,cur,fz,e1,e2,rest⟩
 ·exact .inl hn
 ·exact .inr ⟨g,cap,cur,fz,e1,Nat.le_trans hb.size e2,rest⟩
theorem dO:(qP.info? 188).map (fun i=>(i.zero,i.size,i.bytes))=some (some (.int .u32 0),1,4):=by kernel_rfl
theorem Lg (w:World) (hs:List Nat) (i:Nat) (hi:i<hs.length) (h8:hs.length=8) :
  (Instr.index 189 (.agg (wv hs)) (.int .i64 (i:Int))).run qP w=.ok (.int .u32 (nth hs i)) w:=by
 obtain⟨i0,hi0,_,hz1,_⟩:=info_parts dO
 have hn:0≤(i:Int)∧(i:Int)<((8:Nat):Int):=by omega
 have hl:i<8:=by omega
 simp [Instr.index,run_underlying Tryz.underlying189,asIntOf,hl,sizeOf,typeInfo,hi0,hz1,isAgg,run_underlying Tryz.underlying188,Fs hs i hi,go_sem]
theorem ME (x b0 b1 b2 b3:Nat) (h0:x/16777216%256=b0) (h1:x/65536%256=b1) (h2:x/256%256=b2) (h3:x%256=b3):cells (by4 x)=[.int .u8 b0,.int .u8 b1,.int .u8 b2,.int .u8 b3]:=by
 unfold by4 cells;simp only [List.map_cons,List.map_nil];rw [h0,h1,h2,h3,W.toNat_ofNat (by omega),W.toNat_ofNat (by omega),W.toNat_ofNat (by omega),W.toNat_ofNat (by omega)]
theorem WI {hh:List Nat} {j x:Nat} {B:Nat} {l:List Value} {v:Value} {W0 w:World} (hx:nth hh j=x) (hl:cells (by4 x)=l) (h:Lib.OwnBuf B 5 v (4*j+4) (cells (DG hh j)++l) W0 w):Lib.OwnBuf B 5 v (4*(j+1)) (cells (DG hh (j+1))) W0 w:=by
 rw [show DG hh (j+1)=DG hh j++by4 (nth hh j) from rfl,Cz,hx,hl];exact h
theorem cH {l:List Nat} (h:l.length=8):∃ a0 a1 a2 a3 a4 a5 a6 a7,l=[a0,a1,a2,a3,a4,a5,a6,a7]:=by
 match l,h with
 | [a0,a1,a2,a3,a4,a5,a6,a7],_=>exact⟨_,_,_,_,_,_,_,_,rfl⟩
theorem WJ (s p:ByteArray) (nb:Nat) (w:World) (hr:Ba w) (hs:s.size≤1099511627776) (HP:Hid (p=bs (Dc s.data.toList))) (hp:p.size=64*nb) (out:List UInt8) (HO:Hid (DG (Gw p.data.toList nb) 8=out)) :
  Calls qP 152 #[.string s] w fun e w'=>e=.returned (.string (bs out))∧Below w.heap.size w w':=by
 have hps:p.size≤1099511627776+72:=by
  have h1:=Fn s.size;have h2:=Mf s.size;rw [HP.out,Aw,Dc,List.length_append,Ah]
  omega
 have hadd:∀ W:World,(Op.stringOp .add s (bs (Gu s.size))).run qP W=.ok (.string p) W:=fun W=>by
  have h:=AB W s.data.toList (Gu s.size) (by have h1:=Fn s.size;have h2:=Mf s.size;rw [Ah];omega);rw [Ch] at h;rw [h,HP.out,Dc,Ah]
 obtain⟨i0,hi,hz0,hz1,hz2⟩:=info_parts Ff;have HR:=qH hr;have HPAD:=qH (pad s.size (by omega) (w.alloc (.cells (wv Gv) 189)));have HPS:=qH hp;have H0:=qH (Blk.new w 189 (wv Gv));have HB0:=qH ((Below.refl w.heap.size w).alloc (Nat.le_refl _) (.cells (wv Gv) 189));clear hr hp HP;go_enter Tryz.func152,Tryz.ntmps152
 go_wp2_with fail
 refine HPAD.out.mono ?_;rintro e w2 ⟨rfl,b2⟩;have HS:=qH (show Hx p.data.toList w 0 w2 from⟨H0.out.next b2,HB0.out.trans (b2.mono (by simp))⟩);clear HPAD H0 HB0 b2;go_wp2;clear hadd
 go_loopw [5] (fun i wr=>∃ k:Nat,k≤nb∧i=.int .i64 ((64*k:Nat):Int)∧Hx p.data.toList w k wr) (fun i _=>p.size-(intOf i).toNat)
 case atStart=>exact⟨0,Nat.zero_le _,rfl,HS.out⟩
 case round =>
  clear HS;obtain⟨k,hk,rfl,hS⟩:=hrel;by_cases hlt:k<nb
  ·have t1:64*(k:Int)<(p.size:Int):=by have:=HPS.out;omega
   have t2:64*(k:Int)+64≤(p.size:Int):=by have:=HPS.out;omega
   have n1:(64*(k:Int)).toNat=64*k:=by omega
   have n2:(64*(k:Int)+64).toNat=64*k+64:=by omega
   have p1:0≤64*(k:Int):=by omega
   have p2:0≤64*(k:Int)+64:=by omega
   have p3:64*(k:Int)≤64*(k:Int)+64:=by omega
   have wr1:IntKind.i64.wrap (64*(k:Int)+64)=64*(k:Int)+64:=IntWalk.i64_in _ (by omega);have HS:=qH hS.drew;have hc:=hS.drew;obtain⟨a0,a1,a2,a3,a4,a5,a6,a7,ha⟩:=cH (Fo p.data.toList k);have c0:=hc.reg 0 (by decide);have c1:=hc.reg 1 (by decide);have c2:=hc.reg 2 (by decide);have c3:=hc.reg 3 (by decide);have c4:=hc.reg 4 (by decide);have c5:=hc.reg 5 (by decide);have c6:=hc.reg 6 (by decide);have c7:=hc.reg 7 (by decide);rw [ha] at c0 c1 c2 c3 c4 c5 c6 c7
   replace c0:wr.drew.cell? ⟨w.heap.size,0,none⟩=some (.int .u32 a0):=c0
   replace c1:wr.drew.cell? ⟨w.heap.size,1,none⟩=some (.int .u32 a1):=c1
   replace c2:wr.drew.cell? ⟨w.heap.size,2,none⟩=some (.int .u32 a2):=c2
   replace c3:wr.drew.cell? ⟨w.heap.size,3,none⟩=some (.int .u32 a3):=c3
   replace c4:wr.drew.cell? ⟨w.heap.size,4,none⟩=some (.int .u32 a4):=c4
   replace c5:wr.drew.cell? ⟨w.heap.size,5,none⟩=some (.int .u32 a5):=c5
   replace c6:wr.drew.cell? ⟨w.heap.size,6,none⟩=some (.int .u32 a6):=c6
   replace c7:wr.drew.cell? ⟨w.heap.size,7,none⟩=some (.int .u32 a7):=c7
   have HA:=qH ha;have HRW:=qH (HR.out.below hc.2 HR.out.pos);clear hc hS ha;go_wp2;refine wp_region_still_tail 6 (by kernel_rfl) (by kernel_rfl) ?_;simp only [List.take_succ_cons,List.take_zero,List.drop_succ_cons,List.drop_zero]
   change wpStill _ _ wr.drew (fun a'=>wpList _ _ _ _ a' wr.drew) _ _
   generalize wr.drew=w3 at *
   repeat still_step
   refine wpStill_nil ?_;clear c0 c1 c2 c3 c4 c5 c6 c7 p1 p2 p3 n1 n2 wr1
   go_wp2_with fail
   obtain⟨o8,h8⟩:∃ o8,blk [a0,a1,a2,a3,a4,a5,a6,a7] (p.extract (64*k) (64*k+64)).data.toList=o8:=⟨_,rfl⟩
   have l8:o8.length=8:=by rw [←h8,MZ _ _ rfl]
   have H8:=qH h8;have L8:=qH l8;clear h8 l8;refine(Lf a0 a1 a2 a3 a4 a5 a6 a7 (p.extract (64*k) (64*k+64)) w3 HRW.out (by rw [ByteArray.size_extract];unfold maxLen;omega) o8 H8).mono ?_;rintro e w4 ⟨rfl,b4⟩;have R:=qH (HS.out.step b4);rw [HA.out,H8.out] at R;have hB:=HS.out.1.next b4;rw [HA.out] at hB;have HB:=qH hB;clear hB HS HA HRW b4 H8
   go_wp2_with (refine wpList_store_row rfl 189 _ _ rfl w.heap.size (wv o8) rfl rfl 189 _ HB.out (by rw [AS,L8.out];exact Ed) (by rw [AS,AS,L8.out];rfl) (DO _) ?_)
   go_roundw
   case rel=>exact⟨k+1,by omega,Tn k,R.out⟩
   case measure =>
    show p.size-(64*(k:Int)+64).toNat<p.size-((64*k:Nat):Int).toNat
    omega
  ·obtain rfl:k=nb:=by omega
   have t1:¬64*(k:Int)<(p.size:Int):=by have:=HPS.out;omega
   have HS:=qH hS;have hmk:∀ W:World,(Instr.makeSlice 121 (.int .i64 0) (.int .i64 32)).run qP W=.ok (.slice (some ⟨W.heap.size,0,none⟩) 0 32) (W.alloc (.cells (madeCells (Value.int .u8 0).cells 32) 5)):=fun W=>Uk 32 (by omega) W;have HOW:=Oa 32 (by unfold maxLen;omega) wr;generalize madeCells (Value.int .u8 0).cells 32=M at *;have HB:=qH (hS.1.alloc (.cells M 5));have HW:=qH (UK hS.2 HOW);have H8:=qH (Fo p.data.toList k);clear hS HOW HS;generalize Gw p.data.toList k=hh at *
   go_wp2_with (refine wpList_load_row rfl 189 _ rfl w.heap.size rfl 189 _ (0,0) _ HB.out Tryz.underlying189 rfl (by rw [AS,H8.out];exact Ed) ?_)
   clear HB hmk
   go_loopw [6,30] (fun v i wr=>∃ j:Nat,j≤8∧i=.int .i64 j∧Lib.OwnBuf w.heap.size 5 v (4*j) (cells (DG hh j)) w wr) (fun _ i _=>8-(intOf i).toNat)
   case atStart=>exact⟨0,Nat.zero_le _,rfl,HW.out⟩
   case round =>
    clear HW;obtain⟨j,hj,rfl,hown⟩:=hrel;by_cases hjl:j<8
    ·obtain⟨x,hx⟩:∃ x,nth hh j=x:=⟨_,rfl⟩
     have hix:=Lg wr hh j (by rw [H8.out];exact hjl) H8.out;rw [hx] at hix;obtain⟨b0,h0⟩:∃ b,x/16777216%256=b:=⟨_,rfl⟩;obtain⟨b1,h1⟩:∃ b,x/65536%256=b:=⟨_,rfl⟩;obtain⟨b2,h2⟩:∃ b,x/256%256=b:=⟨_,rfl⟩;obtain⟨b3,h3⟩:∃ b,x%256=b:=⟨_,rfl⟩
     have e0:(x:Int)/16777216%256=(b0:Int):=by omega
     have e1:(x:Int)/65536%256=(b1:Int):=by omega
     have e2:(x:Int)/256%256=(b2:Int):=by omega
     have e3:(x:Int)%256=(b3:Int):=by omega
     have HX:=qH (ME x b0 b1 b2 b3 h0 h1 h2 h3);have HN:=qH hx;clear h0 h1 h2 h3 hx
     go_wp2_with (at_builtin;go_must (refine Ii rfl _ _ 121 rfl w.heap.size 5 i0 Tryz.underlying121 hi hz0 hz1 hz2 u6 (4*j) _ rfl w wr _ _ _ _ hown rfl (by omega) ?_))
     intro v5 w5 h5;have R:=WI HN.out HX.out h5;clear h5 hown e0 e1 e2 e3 hix HX HN;go_wp2
     go_roundw
     case rel=>exact⟨j+1,by omega,by go_num,R⟩
     case measure=>simp [intOf];omega
    ·obtain rfl:j=8:=by omega
     have hst:=CT w.heap.size u6 (DG hh 8) w _ (by rw [Jh];exact hown);rw [HO.out] at hst;go_wp2
     go_ret
     exact⟨rfl,hown.2.1⟩
theorem sum (s:ByteArray) (w:World) (hr:Ba w) (hs:s.size≤1099511627776) :
  Calls qP 152 #[.string s] w fun e w'=>e=.returned (.string (bs (Ax s.data.toList)))∧Below w.heap.size w w':=by
 refine WJ s (bs (Dc s.data.toList)) ((Dc s.data.toList).length/64) w hr hs (qH rfl) ?_ _ (qH rfl);rw [Aw];exact KC _
def bv (l:List UInt8):Array Value:=(cells l).toArray
theorem CE (l:List UInt8):(bv l).size=l.length:=by simp [bv,cells]
theorem WK (l:List UInt8) (i:Nat) (c:UInt8) (h:l[i]?=some c):(bv l)[i]?=some (.int .u8 c.toNat):=by
 unfold bv cells;rw [List.getElem?_toArray,List.getElem?_map,h]
 rfl
theorem dP (l:List UInt8) (i:Nat) (c:UInt8):(bv l).setIfInBounds i (.int .u8 c.toNat)=bv (l.set i c):=by
 apply Array.toList_inj.1
 simp [bv,cells,List.map_set]
theorem Re (l:List UInt8):(bv l).all (·.oneCell')=true:=by
 rw [Array.all_eq_true_iff_forall_mem];intro v hv;simp [bv,cells] at hv;obtain⟨x,_,rfl⟩:=hv
 rfl
theorem ZG (w:World):(Go.sizeOf 5).run qP w=.ok 1 w:=by
 obtain⟨i0,hi,_,hz1,_⟩:=info_parts Ff;simp [Go.sizeOf,typeInfo,hi,hz1,go_sem]
theorem Nn (g:Nat) (t:TypeId):∀(vs:List Value) (pre post:List Value) (w:World),Blk w g t (pre++post).toArray→vs.length≤post.length →
  Blk (w.setCells g pre.length vs) g t (pre++(vs++post.drop vs.length)).toArray:=by
 intro vs
 induction vs with
 | nil=>intro pre post w h _;simpa [World.setCells] using h
 | cons v vs ih =>
   intro pre post w h hl
   match post,hl with
   | p::post,hl =>
     have h1:=h.set_ pre.length v;rw [show(pre++p::post).toArray.setIfInBounds pre.length v=((pre++[v])++post).toArray by simp] at h1;have h2:=ih (pre++[v]) post (w.setCell ⟨g,pre.length,none⟩ v) h1 (by simpa using hl);rw [show(pre++[v]).length=pre.length+1 by simp] at h2
     simpa [World.setCells] using h2
theorem Gb:(qP.info? 272).map (·.size)=some 64:=by kernel_rfl
theorem Pa (w:World) (g:Nat) (ty:TypeId) (k:ByteArray) (hk:k.size≤64) (h:Blk w g 272 (bv (List.replicate 64 0))) :
  ∃ w',(Builtin.copy_ #[121,9] ty #[.slice (some ⟨g,0,none⟩) 64 64,.string k]).run qP w=.ok (.int .i64 (k.size:Int)) w'∧Blk w' g 272 (bv (FI k.data.toList))∧w'=w.setCells g 0 (cells k.data.toList):=by
 refine⟨w.setCells g 0 (cells k.data.toList),?_,?_,rfl⟩
 ·have hr:=run_copy_string (P:=qP) w 121 9 ty 5 g 0 64 64 k Tryz.underlying121 ZG hk
   (fun j hj=>by rw [Nat.zero_add,h.cell j,WK _ j 0 (by rw [List.getElem?_replicate,if_pos (by omega)])];rfl) (fun j hj=>h.frozen _)
  exact hr
 ·have h2:=Nn g 272 (cells k.data.toList) [] (cells (List.replicate 64 0)) w h (by rw [Jg,Jg,Ah,List.length_replicate];exact hk)
  have e:[]++(cells k.data.toList++(cells (List.replicate 64 0)).drop (cells k.data.toList).length)=cells (FI k.data.toList):=by
   unfold FI;rw [Cz,Jg,List.nil_append]
   congr 1
   unfold cells;rw [←List.map_drop,List.drop_replicate]
  rw [e] at h2;exact h2
theorem IQ:(#[.int .u8 0,.int .u8 0,.int .u8 0,.int .u8 0,.int .u8 0,.int .u8 0,.int .u8 0,.int .u8 0,.int .u8 0,.int .u8 0,.int .u8 0,.int .u8 0,.int .u8 0,.int .u8 0,.int .u8 0,.int .u8 0,.int .u8 0,.int .u8 0,.int .u8 0,.int .u8 0,.int .u8 0,.int .u8 0,.int .u8 0,.int .u8 0,.int .u8 0,.int .u8 0,.int .u8 0,.int .u8 0,.int .u8 0,.int .u8 0,.int .u8 0,.int .u8 0,.int .u8 0,.int .u8 0,.int .u8 0,.int .u8 0,.int .u8 0,.int .u8 0,.int .u8 0,.int .u8 0,.int .u8 0,.int .u8 0,.int .u8 0,.int .u8 0,.int .u8 0,.int .u8 0,.int .u8 0,.int .u8 0,.int .u8 0,.int .u8 0,.int .u8 0,.int .u8 0,.int .u8 0,.int .u8 0,.int .u8 0,.int .u8 0,.int .u8 0,.int .u8 0,.int .u8 0,.int .u8 0,.int .u8 0,.int .u8 0,.int .u8 0,.int .u8 0]:Array Value)=bv (List.replicate 64 0):=rfl
def Ij (w wr:World):Prop:=Blk wr w.heap.size 272 (bv (List.replicate 64 0))∧Below w.heap.size w wr
theorem Ij.start (w:World):Ij w (w.alloc (.cells (bv (List.replicate 64 0)) 272)):=⟨Blk.new w _ _,(Below.refl _ _).alloc (Nat.le_refl _) _⟩
theorem Ij.next {w wr w':World} (h:Ij w wr) (hb:Below wr.heap.size wr w'):Ij w w':=⟨h.1.next hb,h.2.trans (hb.mono h.2.size)⟩
theorem Ij.alloc {w wr:World} (h:Ij w wr) (o:Obj):Ij w (wr.alloc o):=h.next ((Below.refl _ _).alloc (Nat.le_refl _) o)
theorem Ij.setCells {w wr:World} (h:Ij w wr) {G:Nat} (hG:w.heap.size<G) {vs:List Value} {o:Nat}:Ij w (wr.setCells G o vs) :=
 have hb:=below_setCells hG vs o wr (Below.refl _ _)
 ⟨h.1.below hb (Nat.lt_succ_self _),h.2.trans (hb.mono (Nat.le_succ _))⟩
theorem No (k:ByteArray) (w:World) (hk:k.size≤64) :
  Calls qP 201 #[.string k] w fun e w'=>e=.returned (.agg (bv (FI k.data.toList)))∧Below w.heap.size w w':=by
 have HF:=qH ((Ij.start w).alloc (.cells (bv (List.replicate 64 0)) 272));have hg:=Blk.new (w.alloc (.cells (bv (List.replicate 64 0)) 272)) 272 (bv (List.replicate 64 0));rw [show(w.alloc (.cells (bv (List.replicate 64 0)) 272)).heap.size=w.heap.size+1 by simp] at hg;have HG:=qH hg;have HGE:=qH (Nat.lt_succ_self w.heap.size)
 have hk1:¬(64:Int)<(k.size:Int):=by omega
 clear hg;go_enter Tryz.func201,Tryz.ntmps201
 go_wp2_with fail
 rw [IQ];generalize (w.alloc (.cells (bv (List.replicate 64 0)) 272)).alloc (.cells (bv (List.replicate 64 0)) 272)=w2 at *;obtain⟨w3,hcp,hb3,hw3⟩:=Pa w2 (w.heap.size+1) 3 k hk HG.out
 have hf3:Ij w w3:=by rw [hw3];exact HF.out.setCells HGE.out
 have H3:=qH hb3;have HF3:=qH hf3;have HL:=qH (Gx k.data.toList (by rw [Ah];exact hk));clear hb3 hf3 hw3 HG HF;obtain⟨f,hf⟩:∃ f,FI k.data.toList=f:=⟨_,rfl⟩;rw [hf] at H3 HL;have HE:=qH hf;clear hf;rw [hcp]
 go_wp2_with (first
  | (refine wpList_load_row rfl 272 _ rfl (w.heap.size+1) rfl 272 _ (0,0) _ H3.out Tryz.underlying272 rfl (by rw [CE,HL.out];exact Gb) ?_)
  | (refine wpList_store_row rfl 272 _ _ rfl w.heap.size (bv f) rfl rfl 272 (bv (List.replicate 64 0)) HF3.out.1 (by rw [CE,HL.out];exact Gb) (by rw [CE,CE,HL.out,List.length_replicate]) (Re _) ?_))
 have hb:Below w.heap.size w (w3.setRow w.heap.size (bv f)):=Bp HF3.out.2 (Nat.le_refl _);exact bodyPost_ret (v:=.agg (bv f)) (results_cell_row Tryz.results201 _ _ w.heap.size 272 _ (0,0) _ rfl (setRow_heap _ _ _ _ _ _ HF3.out.1) Tryz.underlying272 rfl (by rw [CE,HL.out];exact Gb)) rfl ⟨by rw [HE.out],hb⟩
theorem Pb (k:ByteArray) (w:World) (hr:Ba w) (hk:64<k.size) (hs:k.size≤1099511627776) (q:ByteArray) (HQ:Hid (q=bs (Ax k.data.toList))) :
  Calls qP 201 #[.string k] w fun e w'=>e=.returned (.agg (bv (FI q.data.toList)))∧Below w.heap.size w w':=by
 have hq:q.size≤64:=by rw [HQ.out,Aw,Bc];omega
 have R:=qH (sum k (w.alloc (.cells (bv (List.replicate 64 0)) 272)) (hr.alloc _) hs);rw [←HQ.out] at R;have HF0:=qH (Ij.start w)
 have hk1:(64:Int)<(k.size:Int):=by omega
 have HGT:=qH (show w.heap.size<(w.alloc (.cells (bv (List.replicate 64 0)) 272)).heap.size by simp);clear HQ hr;go_enter Tryz.func201,Tryz.ntmps201
 go_wp2_with fail
 rw [IQ];generalize w.alloc (.cells (bv (List.replicate 64 0)) 272)=w1 at *;refine R.out.mono ?_;rintro e w5 ⟨rfl,b5⟩;have HF:=qH ((HF0.out.next b5).alloc (.cells (bv (List.replicate 64 0)) 272));have HG:=qH (Blk.new w5 272 (bv (List.replicate 64 0)));have HGE:=qH (Nat.lt_of_lt_of_le HGT.out b5.size);clear HF0 b5 R HGT
 go_wp2_with fail
 rw [IQ];generalize w5.alloc (.cells (bv (List.replicate 64 0)) 272)=w2 at *;obtain⟨w3,hcp,hb3,hw3⟩:=Pa w2 w5.heap.size 3 q hq HG.out
 have hf3:Ij w w3:=by rw [hw3];exact HF.out.setCells HGE.out
 have H3:=qH hb3;have HF3:=qH hf3;have HL:=qH (Gx q.data.toList (by rw [Ah];exact hq));clear hb3 hf3 hw3 HG HF;obtain⟨f,hf⟩:∃ f,FI q.data.toList=f:=⟨_,rfl⟩;rw [hf] at H3 HL;have HE:=qH hf;clear hf;rw [hcp]
 go_wp2_with (first
  | (refine wpList_load_row rfl 272 _ rfl w5.heap.size rfl 272 _ (0,0) _ H3.out Tryz.underlying272 rfl (by rw [CE,HL.out];exact Gb) ?_)
  | (refine wpList_store_row rfl 272 _ _ rfl w.heap.size (bv f) rfl rfl 272 (bv (List.replicate 64 0)) HF3.out.1 (by rw [CE,HL.out];exact Gb) (by rw [CE,CE,HL.out,List.length_replicate]) (Re _) ?_))
 have hb:Below w.heap.size w (w3.setRow w.heap.size (bv f)):=Bp HF3.out.2 (Nat.le_refl _);exact bodyPost_ret (v:=.agg (bv f)) (results_cell_row Tryz.results201 _ _ w.heap.size 272 _ (0,0) _ rfl (setRow_heap _ _ _ _ _ _ HF3.out.1) Tryz.underlying272 rfl (by rw [CE,HL.out];exact Gb)) rfl ⟨by rw [HE.out],hb⟩
theorem dQ (k:ByteArray) (w:World) (hr:Ba w) (hs:k.size≤1099511627776) :
  Calls qP 201 #[.string k] w fun e w'=>e=.returned (.agg (bv (FI (Gj k.data.toList))))∧Below w.heap.size w w':=by
 by_cases hk:k.size≤64
 ·rw [JL _ (by rw [Ah];exact hk)]
  exact No k w hk
 ·rw [KF _ (by rw [Ah];omega)]
  exact Pb k w hr (by omega) hs (bs (Ax k.data.toList)) (qH rfl)
theorem Lh (a x:UInt8):bits .xor .u8 (a.toNat:Int) (x.toNat:Int)=((a ^^^ x).toNat:Int):=by
 show IntKind.u8.wrap ((BitVec.ofInt 8 (a.toNat:Int) ^^^ BitVec.ofInt 8 (x.toNat:Int)).toNat:Int)=_
 have ha:=a.toNat_lt;have hx:=x.toNat_lt;rw [BitVec.toNat_xor,BitVec.ofInt_natCast,BitVec.ofInt_natCast,BitVec.toNat_ofNat,BitVec.toNat_ofNat,Nat.mod_eq_of_lt (by simpa using ha),Nat.mod_eq_of_lt (by simpa using hx),IntKind.wrap_u8,UInt8.toNat_xor];have h:a.toNat ^^^ x.toNat<2 ^ 8:=Nat.xor_lt_two_pow (by simpa using ha) (by simpa using hx)
 omega
def LV (f:List UInt8) (x:UInt8) (w:World) (i:Nat) (wr:World):Prop:=Blk wr w.heap.size 272 (bv (Hu f x i))∧Below w.heap.size w wr
theorem LV.drew {f:List UInt8} {x:UInt8} {w wr:World} {i:Nat} (h:LV f x w i wr):LV f x w i wr.drew:=⟨h.1,Below.drewN h.2 1⟩
theorem LV.cell {f:List UInt8} {x:UInt8} {w wr:World} {i:Nat} (h:LV f x w i wr) (hi:i<f.length):wr.cell? ⟨w.heap.size,i,none⟩=some (.int .u8 f[i].toNat):=by
 rw [h.1.cell i,WK _ i _ (Zq f x i hi)]
theorem LV.put {f:List UInt8} {x:UInt8} {w wr:World} {i:Nat} (h:LV f x w i wr) (hi:i<f.length):LV f x w (i+1) (wr.setCell ⟨w.heap.size,i,none⟩ (.int .u8 (f[i] ^^^ x).toNat)):=by
 refine⟨?_,h.2.setCell (by simp) _⟩;have h1:=h.1.set_ i (.int .u8 (f[i] ^^^ x).toNat);rw [dP,Ur f x i hi] at h1;exact h1
theorem Pc (f:List UInt8) (hl:f.length=64) (W:World) (G:Nat) (hG:Blk W G 272 (bv (List.replicate 64 0))) :
  (storeCells ⟨G,0,none⟩ (bv f).toList).run qP W=.ok () (W.setRow G (bv f)):=by
 have h:=run_storeCells_from (P:=qP) G 272 (bv f).toList 0 (bv (List.replicate 64 0)) W hG (by rw [Array.length_toList,CE,CE,hl,List.length_replicate]) (fun v hv=>(Array.all_eq_true_iff_forall_mem.1 (Re f)) v (by simpa using hv));rw [h,List.take_zero,List.nil_append,Array.toArray_toList]
theorem JU (f:List UInt8) (hl:f.length=64) (W:World) :
  (storeCells ⟨W.heap.size,0,none⟩ (bv f).toList).run qP (W.alloc (.cells (bv (List.replicate 64 0)) 272))=.ok () (W.alloc (.cells (bv f) 272)):=by
 rw [Pc f hl _ _ (Blk.new W 272 _),World.setRow_alloc_new]
theorem WL (g j:Nat):(⟨g,0,none⟩:Addr).add j=⟨g,j,none⟩:=by cases j<;>simp [Addr.add]
theorem WM (f:List UInt8) (x:UInt8) (g:Nat) (w:World) (hf:f.length=64) (hg:Blk w g 272 (bv f)) (out:List UInt8) (HO:Hid (mix x f=out)) :
  Calls qP 202 #[.int .u8 x.toNat,.pointer (some ⟨g,0,none⟩)] w fun e w'=>e=.returned (.string (bs out))∧Below w.heap.size w w':=by
 have hs64:(bv f).size=64:=by rw [CE,hf]
 have hst:=JU f hf w;rw [←IQ] at hst;have HG:=qH hg;have HF:=qH hf;have H0:=qH (show LV f x w 0 (w.alloc (.cells (bv f) 272)) from⟨by rw [Uq];exact Blk.new w _ _,(Below.refl _ _).alloc (Nat.le_refl _) _⟩);clear hg hf;go_enter Tryz.func202,Tryz.ntmps202
 go_wp2_with (first
  | (refine wpList_load_row rfl 272 _ rfl g rfl 272 _ (0,0) _ HG.out Tryz.underlying272 rfl (by rw [CE,HF.out];exact Gb) ?_))
 clear hst HG hs64
 go_loopw [7] (fun i wr=>∃ k:Nat,k≤64∧i=.int .i64 k∧LV f x w k wr) (fun i _=>64-(intOf i).toNat)
 case atStart=>exact⟨0,Nat.zero_le _,rfl,H0.out⟩
 case round =>
  clear H0;obtain⟨k,hk,rfl,hS⟩:=hrel;by_cases hlt:k<64
  ·have hkf:k<f.length:=by rw [HF.out];exact hlt
   have hc:=hS.cell hkf;have hfz:wr.frozen? ⟨w.heap.size,k,none⟩=false:=hS.1.frozen k;have HP:=qH (hS.put hkf);have hx:=Lh f[k] x;generalize f[k]=c at *;generalize c ^^^ x=y at *
   have jl:(k:Int)<64:=by omega
   have jp:(0:Int)≤(k:Int):=by omega
   clear hS hkf;go_wp2
   go_roundw
   case rel=>exact⟨k+1,by omega,by go_num,HP.out⟩
   case measure=>simp [intOf];omega
  ·obtain rfl:k=64:=by omega
   have hB:=hS.1;rw [VY f x 64 (by rw [HF.out];exact Nat.le_refl _),HO.out] at hB
   have ho:out.length=64:=by rw [←HO.out,ET,HF.out]
   have hst:=run_convert_bytes_back (P:=qP) wr 121 9 5 ⟨w.heap.size,0,none⟩ 64 out Tryz.underlying121 Tryz.underlying5 Tryz.underlying9 (by
    intro j hj;have h:=hB.cell j;rw [WK _ j _ (List.getElem?_eq_getElem hj)] at h;rw [WL]
    exact h)
   rw [ho] at hst;have HB:=qH hS.2;clear hS hB ho;go_wp2
   go_ret
   exact⟨rfl,HB.out⟩
theorem gV (w:World):Calls qP 125 #[] w fun e w'=>e=.returned (.agg (wv Gv))∧Below w.heap.size w w':=by
 go_enter Tryz.func125,Tryz.ntmps125
 go_wp2_with (refine wpList_store_row rfl 189 _ _ rfl w.heap.size (wv Gv) rfl rfl 189 (wv (List.replicate 8 0)) (Blk.new w 189 (wv (List.replicate 8 0))) Ed rfl (DO _) ?_)
 have hb:Below w.heap.size w ((w.alloc (.cells (wv (List.replicate 8 0)) 189)).setRow w.heap.size (wv Gv)):=Bp ((Below.refl _ _).alloc (Nat.le_refl _) _) (Nat.le_refl _);exact bodyPost_ret (v:=.agg (wv Gv)) (results_cell_row Tryz.results125 _ _ w.heap.size 189 _ (0,0) _ rfl (setRow_heap _ _ _ _ _ _ (Blk.new w 189 (wv (List.replicate 8 0)))) Tryz.underlying189 rfl Ed) rfl ⟨rfl,hb⟩
theorem ZH (w:World):Calls qP 162 #[] w fun e w'=>e=.returned (.agg (wv kk))∧Below w.heap.size w w':=by
 go_enter Tryz.func162,Tryz.ntmps162
 go_wp2_with (refine wpList_store_row rfl 226 _ _ rfl w.heap.size (wv kk) rfl rfl 226 (wv (List.replicate 64 0)) (Blk.new w 226 (wv (List.replicate 64 0))) Jt rfl (DO _) ?_)
 have hb:Below w.heap.size w ((w.alloc (.cells (wv (List.replicate 64 0)) 226)).setRow w.heap.size (wv kk)):=Bp ((Below.refl _ _).alloc (Nat.le_refl _) _) (Nat.le_refl _);exact bodyPost_ret (v:=.agg (wv kk)) (results_cell_row Tryz.results162 _ _ w.heap.size 226 _ (0,0) _ rfl (setRow_heap _ _ _ _ _ _ (Blk.new w 226 (wv (List.replicate 64 0)))) Tryz.underlying226 rfl Jt) rfl ⟨rfl,hb⟩
theorem Rg (w:World):Lib.OwnBuf w.heap.size 5 (.slice (some ⟨w.heap.size,0,none⟩) 1 1) 1 (cells [128]) w (w.alloc (.cells #[.int .u8 128] 5)) :=
 ⟨⟨rfl,.inr ⟨w.heap.size,1,#[.int .u8 128],(0,0),rfl,Nat.le_refl _,Blk.new w 5 _,Nat.zero_le _,Nat.le_refl _,by unfold maxLen;omega,rfl,rfl⟩⟩,(Below.refl _ _).alloc (Nat.le_refl _) _,by simp⟩
theorem Li {B n:Nat} {v:Value} {xs:List Value} {W0 w:World} (h:Lib.OwnBuf B 5 v n xs W0 w) (hn:0<n):∃ g cap,v=.slice (some ⟨g,0,none⟩) n cap:=by
 rcases h.1.2 with⟨_,h0⟩|⟨g,cap,cur,fz,e,_⟩
 ·omega
 ·exact⟨g,cap,e⟩
def gY:Value→Nat
 | .slice _ n _=>n
 | _=>0
theorem UL {B j:Nat} {v:Value} {W0 w:World} (h:Lib.OwnBuf B 5 v (j+1+1) (cells (128::List.replicate j 0)++[.int .u8 0]) W0 w):Lib.OwnBuf B 5 v (j+1+1) (cells (128::List.replicate (j+1) 0)) W0 w:=by
 rw [List.replicate_succ']
 simpa [cells] using h
theorem UM (n m z:Nat) (hn:n≤9223372036854775807) (HZ:Hid (zs n=z)) (HM:Hid (n*8%18446744073709551616=m)) (w:World) :
  Calls qP 124 #[.int .i64 n] w fun e w'=>e=.returned (.string (bs (128::(List.replicate z 0++by8 m 8))))∧Below w.heap.size w w':=by
 have hz:z<64:=by rw [←HZ.out];exact Mf n
 have HT:=qH (show ∀ j:Nat,j≤z→(((n:Int)%64+((j+1:Nat):Int)+8)%64=0↔j=z) by
  intro j hj;have e:=HZ.out;unfold zs at e
  omega)
 obtain⟨i0,hi,hz0,hz1,hz2⟩:=info_parts Ff;have HO:=qH (Rg w);go_enter Tryz.func124,Tryz.ntmps124;go_wp2
 go_loopw [3] (fun v wr=>∃ j:Nat,j≤z∧Lib.OwnBuf w.heap.size 5 v (j+1) (cells (128::List.replicate j 0)) w wr) (fun v _=>z+2-gY v)
 case atStart=>exact⟨0,Nat.zero_le _,HO.out⟩
 case round =>
  clear HO;obtain⟨j,hj,hown⟩:=hrel;obtain⟨g,cap,rfl⟩:=Li hown (by omega);by_cases hlt:j<z
  ·have t1:(((n:Int)%64+((j+1:Nat):Int)+8)%64 != 0)=true:=by
    have:=HT.out j hj;simp only [bne_iff_ne,ne_eq]
    omega
   have t2:(((n:Int)%64+((j:Int)+1)+8)%64 != 0)=true:=t1
   have t3:(((n:Int)+((j:Int)+1)+8)%64 != 0)=true:=by
    have:=HT.out j hj;simp only [bne_iff_ne,ne_eq]
    omega
   have HTT:=qH HT
   go_wp2_with (at_builtin;go_must (refine Lib.wpList_append_byte rfl _ _ 121 rfl w.heap.size 5 i0 Tryz.underlying121 hi hz0 hz1 hz2 (.slice (some ⟨g,0,none⟩) (j+1) cap) (j+1) _ rfl w wr _ hown rfl (by omega) ?_))
   intro v2 w2 h2;have R:=UL h2;obtain⟨g2,cap2,rfl⟩:=Li R (by omega);clear h2 hown HTT t1 t2 t3;go_wp2
   go_roundw
   case rel=>exact⟨j+1,by omega,R⟩
   case measure=>simp [gY];omega
  ·obtain rfl:j=z:=by omega
   have t1:(((n:Int)%64+((j+1:Nat):Int)+8)%64 != 0)=false:=by
    have:=HT.out j hj;simp only [bne_eq_false_iff_eq]
    omega
   have t2:(((n:Int)%64+((j:Int)+1)+8)%64 != 0)=false:=t1
   have t3:(((n:Int)+((j:Int)+1)+8)%64 != 0)=false:=by
    have:=HT.out j hj;simp only [bne_eq_false_iff_eq]
    omega
   have e0:((n:Int)%64+((j:Int)+1)+8)%64=0:=(HT.out j hj).2 rfl;have HE:=qH e0
   have eM:IntKind.u64.wrap ((n:Int)*8)=(m:Int):=by rw [IntKind.wrap_u64,←HM.out];omega
   have HEM:=qH eM;clear e0 eM;go_wp2;clear t1 t2 t3;simp only [HE.out]
   go_loopw [3,4] (fun v i wr=>∃ k:Nat,k≤8∧i=.int .i64 (7-(k:Int))∧Lib.OwnBuf w.heap.size 5 v (j+1+k) (cells (128::(List.replicate j 0++by8 m k))) w wr) (fun _ i _=>(intOf i+1).toNat)
   case atStart=>exact⟨0,Nat.zero_le _,by simp,by simpa [by8] using hown⟩
   case round =>
    clear hown;obtain⟨k,hk,rfl,hown⟩:=hrel;by_cases hlt:k<8
    ·have eM:=HEM.out
     have n1:((8:Int)*(7-(k:Int))).toNat=56-8*k:=by omega
     have p1:0≤(8:Int)*(7-(k:Int)):=by omega
     have q1:(8:Int)*(7-(k:Int))≤64:=by omega
     have g1:0≤7-(k:Int):=by omega
     obtain⟨c,hc⟩:∃ c,m/2 ^ (56-8*k)%256=c:=⟨_,rfl⟩
     have ec:(m:Int)/2 ^ (56-8*k)%256=(c:Int):=by
      rw [←hc,Int.natCast_emod,Int.natCast_ediv,Int.natCast_pow]
      rfl
     have HC:=qH hc;clear hc
     go_wp2_with (at_builtin;go_must (refine Lib.wpList_append_byte rfl _ _ 121 rfl w.heap.size 5 i0 Tryz.underlying121 hi hz0 hz1 hz2 u3 (j+1+k) _ rfl w wr _ hown rfl (by omega) ?_))
     intro v2 w2 h2;have R:=OX HC.out h2;clear h2 hown ec n1 p1 q1 eM;go_wp2
     go_roundw
     case rel=>exact⟨k+1,by omega,by go_num,R⟩
     case measure=>simp [intOf];omega
    ·obtain rfl:k=8:=by omega
     have hst:=CT w.heap.size u3 (128::(List.replicate j 0++by8 m 8)) w wr (by
      have:=hown;rw [Tm]
      exact this)
     go_wp2
     go_ret
     exact⟨rfl,hown.2.1⟩
theorem kJ (n:Nat) (hn:n≤9223372036854775807) (w:World) :
  Calls qP 124 #[.int .i64 n] w fun e w'=>e=.returned (.string (bs (Gu n)))∧Below w.heap.size w w' :=
 UM n _ _ hn (qH rfl) (qH rfl) w
theorem new (s:ByteArray) (w:World) :
  Calls qP 35 #[.string s] w fun e w'=>e=.returned (.pointer (some ⟨w.heap.size,0,none⟩))∧w'=w.alloc (.cells #[.string s,.int .i64 0] 149):=by
 go_enter Tryz.func35,Tryz.ntmps35;go_wp2
 go_ret
 exact⟨rfl,rfl⟩
theorem Hy (b:Nat) (s:ByteArray) (e:Int) (w:World) (h:Ci w b s e) :
  Calls qP 87 #[.pointer (some ⟨b,0,none⟩)] w fun e' w'=>e'=.returned (.int .i64 e)∧w=w':=by
 have h1:=Blk.cell h 1;simp only [List.getElem?_toArray,List.getElem?_cons_succ,List.getElem?_cons_zero] at h1;go_enter Tryz.func87,Tryz.ntmps87;go_wp2
 go_ret
 exact⟨rfl,rfl⟩
theorem Ju (b:Nat) (s:ByteArray) (e:Int) (w:World) (h:Ci w b s e) :
  Calls qP 38 #[.pointer (some ⟨b,0,none⟩)] w fun e' w'=>e'=.returned (.int .i64 (AG s e))∧w=w':=by
 have h0:=Blk.cell h 0;simp only [List.getElem?_toArray,List.getElem?_cons_zero] at h0;have HE:=qH (Hy b s e w h);by_cases he:e=0
 ·subst he
  by_cases hs:s.size=0
  ·have hE:=Gy s hs
   have HD:=qH (show AG s 0=0 by simp [AG,hs]);go_enter Tryz.func38,Tryz.ntmps38
   go_wp2_with (go_at_call 87;refine HE.out.mono ?_;rintro e w' ⟨rfl,rfl⟩)
   go_ret
   exact⟨by rw [HD.out];rfl,rfl⟩
  ·have hE:=Ca s (by omega)
   have HD:=qH (show AG s 0=6 by simp [AG,hs]);go_enter Tryz.func38,Tryz.ntmps38
   go_wp2_with (go_at_call 87;refine HE.out.mono ?_;rintro e w' ⟨rfl,rfl⟩)
   go_ret
   exact⟨by rw [HD.out];rfl,rfl⟩
 ·have hb:(e != 0)=true:=by rw [bne_iff_ne];exact he
  have HD:=qH (show AG s e=e by simp [AG,he]);go_enter Tryz.func38,Tryz.ntmps38
  go_wp2_with (go_at_call 87;refine HE.out.mono ?_;rintro e w' ⟨rfl,rfl⟩)
  go_ret
  exact⟨by rw [HD.out];rfl,rfl⟩
def CF (w:World) (b:Nat) (v:Value) (s:ByteArray) (e:Int) (en:Ending) (w':World):Prop:=en=.returned v∧Ci w' b s e∧w.grownBy w' (some b)
theorem Gn (b:Nat) (s:ByteArray) (e:Int) (w:World) (h:Ci w b s e) (hm:s.size≤9223372036854775807) :
  Calls qP 37 #[.pointer (some ⟨b,0,none⟩)] w (CF w b (.int .i64 ((Ao s e).2:Nat)) (Ao s e).1.1 (Ao s e).1.2):=by
 have h0:=Blk.cell h 0;have h1:=Blk.cell h 1;simp only [List.getElem?_toArray,List.getElem?_cons_zero,List.getElem?_cons_succ] at h0 h1;have HE:=qH (Hy b s e w h);by_cases he:e=0
 ·subst he
  have hdn:=Uu s w hm;have hf:=Mh s.data.toList;rw [Ah] at hf;obtain⟨n,sz,er,hd⟩:∃ n sz er,dec s.data.toList=(n,sz,er):=⟨_,_,_,rfl⟩;have HS:=qH (show Ao s 0=if er≠0 then ((s,er),0) else ((s.extract sz s.size,0),n) by simp [Ao,hd]);rw [hd] at hdn hf;simp only at hf;have HDN:=qH hdn;clear hdn hd;by_cases her:er=0
  ·subst her
   have HS2:=qH (HS.out.trans (if_neg (by simp)));clear HS;go_enter Tryz.func37,Tryz.ntmps37
   go_wp2_with (go_at_call 87;refine HE.out.mono ?_;rintro e w' ⟨rfl,rfl⟩)
   refine HDN.out.mono ?_;rintro e w1 ⟨rfl,hb⟩;unfold Ji;have hR:=Blk.below h hb (Blk.lt h);have k0:=(Blk.cell hR 0);have k0f:=(Blk.frozen hR 0);simp only [List.getElem?_toArray,List.getElem?_cons_zero] at k0;go_wp2
   go_ret
   rw [HS2.out];exact⟨rfl,Blk.set_ hR 0 _,BO (DS (BJ _ _) hb (Nat.le_refl _)) 0 _⟩
  ·have hne:(er != 0)=true:=by rw [bne_iff_ne];exact her
   have HS2:=qH (HS.out.trans (if_pos her));clear HS;go_enter Tryz.func37,Tryz.ntmps37
   go_wp2_with (go_at_call 87;refine HE.out.mono ?_;rintro e w' ⟨rfl,rfl⟩)
   refine HDN.out.mono ?_;rintro e w1 ⟨rfl,hb⟩;unfold Ji;have hR:=Blk.below h hb (Blk.lt h);have k1:=(Blk.cell hR 1);have k1f:=(Blk.frozen hR 1);simp only [List.getElem?_toArray,List.getElem?_cons_zero,List.getElem?_cons_succ] at k1;go_wp2
   go_ret
   rw [HS2.out];exact⟨rfl,Blk.set_ hR 1 _,BO (DS (BJ _ _) hb (Nat.le_refl _)) 1 _⟩
 ·have hb:(e != 0)=true:=by rw [bne_iff_ne];exact he
  have HS:=qH (Do s he);go_enter Tryz.func37,Tryz.ntmps37
  go_wp2_with (go_at_call 87;refine HE.out.mono ?_;rintro e w' ⟨rfl,rfl⟩)
  go_ret
  rw [HS.out];exact⟨rfl,h,BJ _ _⟩
theorem cJ (b:Nat) (s:ByteArray) (e:Int) (most:Nat) (w:World) (h:Ci w b s e) (hm:s.size≤9223372036854775807) :
  Calls qP 86 #[.pointer (some ⟨b,0,none⟩),.int .i64 most] w (CF w b (.int .i64 ((Bn s e most).2:Nat)) (Bn s e most).1.1 (Bn s e most).1.2):=by
 have HN:=qH (Gn b s e w h hm);have HS:=qH (show Bn s e most=if most<(Ao s e).2 then (((Ao s e).1.1,4),0) else Ao s e from rfl);obtain⟨⟨⟨s1,e1⟩,n⟩,hd⟩:∃ r,Ao s e=r:=⟨_,rfl⟩;rw [hd] at HN HS;clear hd;by_cases hn:most<n
 ·have HS2:=qH (HS.out.trans (if_pos hn))
  clear HS;go_enter Tryz.func86,Tryz.ntmps86
  go_wp2_with fail
  refine HN.out.mono ?_;rintro e w1 ⟨rfl,hR,hg⟩;have k1:=(Blk.cell hR 1);have k1f:=(Blk.frozen hR 1);simp only [List.getElem?_toArray,List.getElem?_cons_zero,List.getElem?_cons_succ] at k1;go_wp2
  go_ret
  rw [HS2.out];exact⟨rfl,Blk.set_ hR 1 _,BO hg 1 _⟩
 ·have HS2:=qH (HS.out.trans (if_neg hn))
  clear HS;go_enter Tryz.func86,Tryz.ntmps86
  go_wp2_with fail
  refine HN.out.mono ?_;rintro e w1 ⟨rfl,hR,hg⟩;go_wp2
  go_ret
  rw [HS2.out];exact⟨rfl,hR,hg⟩
theorem Gc (b:Nat) (s:ByteArray) (e:Int) (w:World) (h:Ci w b s e) (hm:s.size≤9223372036854775807) :
  Calls qP 36 #[.pointer (some ⟨b,0,none⟩)] w (CF w b (.string (Aj s e).2) (Aj s e).1.1 (Aj s e).1.2):=by
 have HN:=qH (cJ b s e 65536 w h hm);have HS:=qH (show Aj s e=(if (Bn s e 65536).1.2≠0 then ((Bn s e 65536).1,.empty) else if (Bn s e 65536).1.1.size<(Bn s e 65536).2 then (((Bn s e 65536).1.1,5),.empty) else (((Bn s e 65536).1.1.extract (Bn s e 65536).2 (Bn s e 65536).1.1.size,0),(Bn s e 65536).1.1.extract 0 (Bn s e 65536).2)) from rfl);have hf:=Dp s e 65536;obtain⟨⟨⟨s1,e1⟩,n⟩,hd⟩:∃ r,Bn s e 65536=r:=⟨_,rfl⟩;rw [hd] at HN HS hf;clear hd;simp only at hf;by_cases he:e1=0
 ·subst he
  have HS1:=qH (HS.out.trans (if_neg (by simp)));by_cases hn:s1.size<n
  ·have HS2:=qH (HS1.out.trans (if_pos hn))
   clear HS HS1;go_enter Tryz.func36,Tryz.ntmps36
   go_wp2_with fail
   refine HN.out.mono ?_;rintro e w1 ⟨rfl,hR,hg⟩;have k0:=(Blk.cell hR 0);have k1:=(Blk.cell hR 1);have k1f:=(Blk.frozen hR 1);simp only [List.getElem?_toArray,List.getElem?_cons_zero,List.getElem?_cons_succ] at k0 k1
   go_wp2_with fail
   refine(Hy b s1 0 w1 hR).mono ?_;rintro e w2 ⟨rfl,rfl⟩;go_wp2
   go_ret
   rw [HS2.out];exact⟨rfl,Blk.set_ hR 1 _,BO hg 1 _⟩
  ·have HS2:=qH (HS1.out.trans (if_neg hn))
   clear HS HS1;go_enter Tryz.func36,Tryz.ntmps36
   go_wp2_with fail
   refine HN.out.mono ?_;rintro e w1 ⟨rfl,hR,hg⟩;have k0:=(Blk.cell hR 0);have k0f:=(Blk.frozen hR 0);simp only [List.getElem?_toArray,List.getElem?_cons_zero] at k0
   go_wp2_with fail
   refine(Hy b s1 0 w1 hR).mono ?_;rintro e w2 ⟨rfl,rfl⟩;go_wp2
   go_ret
   rw [HS2.out];exact⟨rfl,Blk.set_ hR 0 _,BO hg 0 _⟩
 ·have hne:(e1 != 0)=true:=by rw [bne_iff_ne];exact he
  have HS2:=qH (HS.out.trans (if_pos he));clear HS;go_enter Tryz.func36,Tryz.ntmps36
  go_wp2_with fail
  refine HN.out.mono ?_;rintro e w1 ⟨rfl,hR,hg⟩
  go_wp2_with fail
  refine(Hy b s1 e1 w1 hR).mono ?_;rintro e w2 ⟨rfl,rfl⟩;go_wp2
  go_ret
  rw [HS2.out];exact⟨rfl,hR,hg⟩
def rV (s:ByteArray) (e:Int):Value:=.agg #[.string s,.int .i64 e]
theorem WP (s:ByteArray) (h:1<s.size) (h2:0<(s.extract 1 s.size).size):(s.extract 1 s.size)[0]=s[1]:=by
 have e1:(s.extract 1 s.size)[0]=(s.extract 1 s.size).data.toList[0]'(by rw [Ah];exact h2):=rfl;have e2:s[1]=s.data.toList[1]'(by rw [Ah];exact h):=rfl;rw [e1,e2];simp only [EB,List.getElem_drop]
theorem Jv (s:ByteArray) (k:Nat):((s.extract 1 s.size).extract 0 k).data.toList=(s.data.toList.drop 1).take k:=by rw [Iw,EB]
theorem WQ (s:ByteArray) (j:Nat) (h:j+1<s.size):val ((s.data.toList.drop 1).take (j+1))=val ((s.data.toList.drop 1).take j)*256+s[j+1].toNat:=by
 rw [List.take_succ_eq_append_getElem (by rw [List.length_drop,Ah];omega),Gs,List.getElem_drop];have e2:s[j+1]=s.data.toList[j+1]'(by rw [Ah];exact h):=rfl;rw [e2]
 congr 3
 omega
theorem Np (s:ByteArray) (j:Nat) (h:j≤7):val ((s.data.toList.drop 1).take j)<72057594037927936:=by
 refine Nat.lt_of_lt_of_le (Qz _) ?_
 have:((s.data.toList.drop 1).take j).length≤7:=by rw [List.length_take];omega
 exact Nat.le_trans (Nat.pow_le_pow_right (by decide) this) (by decide)
theorem LW (s:ByteArray) (j:Nat) (h:j≤6):val ((s.data.toList.drop 1).take j)<281474976710656:=by
 refine Nat.lt_of_lt_of_le (Qz _) ?_
 have:((s.data.toList.drop 1).take j).length≤6:=by rw [List.length_take];omega
 exact Nat.le_trans (Nat.pow_le_pow_right (by decide) this) (by decide)
def Tp (r:(ByteArray×Int)×Nat):Value:=.tuple #[rV r.1.1 r.1.2,.int .i64 r.2]
theorem Dt (s:ByteArray) {n sz:Nat} {er:Int} (h:dec s.data.toList=(n,sz,er)):Ao s 0=if er≠0 then ((s,er),0) else ((s.extract sz s.size,0),n):=by simp [Ao,h]
def GK (w:World) (r:(ByteArray×Int)×Nat) (en:Ending) (w':World):Prop:=en=.returned (Tp r)∧Below w.heap.size w w'
theorem Rj (s:ByteArray) (e:Int) (he:(e != 0)=true) (w:World) :
  Calls qP 41 #[rV s e] w (GK w ((s,e),0)):=by
 unfold rV;go_enter Tryz.func41,Tryz.ntmps41;go_wp2
 go_returns
 exact⟨rfl,by go_grown⟩
theorem Pe (s:ByteArray) (w:World) (hm:s.size≤9223372036854775807) (h0:0<s.size) (h7:¬7<s[0].toNat)
  (h1:0<s[0].toNat→∀ h:1<s.size,s[1].toNat≠0) :
  Calls qP 41 #[rV s 0] w (GK w (Ao s 0)):=by
 have hE:=Ca s h0;have hk:=s[0].toNat_lt
 have HD:=qH (Oh h0 h7 (fun a b=>by
  have hx:=Iv s;rw [WP s (by omega) b]
  exact h1 a (by omega)))
 by_cases hz0:0<s[0].toNat
 ·by_cases hs1:1<s.size
  ·have hz:((s[1].toNat:Int)==0)=false:=beq_eq_false_iff_ne.2 (by have:=h1 hz0 hs1;omega)
   clear h1;by_cases hc:s.size-1<s[0].toNat
   ·have HS:=qH (Dt s (HD.out.trans (if_pos hc)))
    clear HD;unfold rV;go_enter Tryz.func41,Tryz.ntmps41;go_wp2
    go_returns
    rw [HS.out,if_pos (by decide)];exact⟨rfl,by go_grown⟩
   ·have HD2:=qH (HD.out.trans (if_neg hc))
    rw [Jv] at HD2;clear HD;unfold rV;go_enter Tryz.func41,Tryz.ntmps41;go_wp2
    go_loop [5,6] (fun n i=>∃ j:Nat,j≤s[0].toNat∧i=.int .i64 ((j:Int)+1)∧n=.int .i64 (val ((s.data.toList.drop 1).take j))) (fun _ i=>s[0].toNat+1-(intOf i).toNat)
    case atStart=>exact⟨0,Nat.zero_le _,rfl,rfl⟩
    case round =>
     obtain⟨j,hj,rfl,rfl⟩:=hrel;by_cases hlt:j<s[0].toNat
     ·have hv:=LW s j (by omega)
      have HV:=qH (WQ s j (by omega));have hb:=s[j+1].toNat_lt;generalize val ((s.data.toList.drop 1).take j)=m at *;go_wp2
      go_round
      case rel=>exact⟨j+1,by omega,by go_num,by rw [HV.out];go_num⟩
      case measure=>simp [intOf];omega
     ·obtain rfl:j=s[0].toNat:=by omega
      have hv:=Np s s[0].toNat (by omega);generalize val ((s.data.toList.drop 1).take s[0].toNat)=m at *;by_cases hr:9007199254740992<m
      ·have HS:=qH (Dt s (HD2.out.trans (if_pos hr)))
       clear HD2;go_wp2
       go_returns
       rw [HS.out,if_pos (by decide)];exact⟨rfl,by go_grown⟩
      ·have HS:=qH (Dt s (HD2.out.trans (if_neg hr)))
       clear HD2;go_wp2
       go_returns
       rw [HS.out,if_neg (by decide)];exact⟨rfl,by go_grown⟩
  ·clear h1
   have HS:=qH (Dt s (HD.out.trans (if_pos (by omega))));clear HD;unfold rV;go_enter Tryz.func41,Tryz.ntmps41;go_wp2
   go_returns
   rw [HS.out,if_pos (by decide)];exact⟨rfl,by go_grown⟩
 ·have hz:s[0].toNat=0:=by omega
  have HS:=qH (Dt s ((HD.out.trans (if_neg (by omega))).trans (if_neg (by rw [Jv,hz];simp [val]))));rw [Jv,hz,List.take_zero,Ir] at HS;clear HD h1;unfold rV;go_enter Tryz.func41,Tryz.ntmps41;go_wp2
  go_rounds 1
  go_returns
  rw [HS.out,if_neg (by decide)];exact⟨rfl,by go_grown⟩
theorem GL (s:ByteArray) (e:Int) (w:World) (hm:s.size≤9223372036854775807) :
  Calls qP 41 #[rV s e] w (GK w (Ao s e)):=by
 by_cases he:e=0
 ·subst he
  by_cases h0:0<s.size
  ·by_cases h7:7<s[0].toNat
   ·have hE:=Ca s h0
    have hk:=s[0].toNat_lt;have HS:=qH (Dt s (SD h0 h7));unfold rV;go_enter Tryz.func41,Tryz.ntmps41;go_wp2
    go_returns
    rw [HS.out,if_pos (by decide)];exact⟨rfl,by go_grown⟩
   ·by_cases hf:0<s[0].toNat∧∃ h:1<s.size,s[1].toNat=0
    ·obtain⟨hz0,hs1,hz⟩:=hf
     have hE:=Ca s h0;have hk:=s[0].toNat_lt;have hx:=Iv s;have HS:=qH (Dt s (Og h0 h7 hz0 (by omega) (by rw [WP s hs1 (by omega)];exact hz)));have hz2:((s[1].toNat:Int)==0)=true:=beq_iff_eq.2 (by omega);clear hz hx;unfold rV;go_enter Tryz.func41,Tryz.ntmps41;go_wp2
     go_returns
     rw [HS.out,if_pos (by decide)];exact⟨rfl,by go_grown⟩
    ·exact Pe s w hm h0 h7 (fun a b c=>hf ⟨a,b,c⟩)
  ·have hE:=Gy s (by omega)
   have HS:=qH (Dt s (show dec s.data.toList=(0,0,5) by rw [List.eq_nil_of_length_eq_zero (show s.data.toList.length=0 by rw [Ah];omega)];rfl));unfold rV;go_enter Tryz.func41,Tryz.ntmps41;go_wp2
   go_returns
   rw [HS.out,if_pos (by decide)];exact⟨rfl,by go_grown⟩
 ·rw [Do s he]
  exact Rj s e (by rw [bne_iff_ne];exact he) w
theorem Rk (s:ByteArray) (e:Int) {s1:ByteArray} {e1:Int} {n:Nat} (h:Ao s e=((s1,e1),n)) :
  Aj s e=if e1≠0 then ((s1,e1),.empty) else if 65536<n then ((s1,4),.empty) else if s1.size<n then ((s1,5),.empty) else ((s1.extract n s1.size,0),s1.extract 0 n):=by
 have hf:=Ay s e;rw [h] at hf;simp only at hf;by_cases he:e1=0
 ·subst he
  by_cases hn:65536<n
  ·simp [Aj,Bn,h,hn]
  ·simp [Aj,Bn,h,hn]
 ·have hz:=hf.2.2 he
  subst hz;simp [Aj,Bn,h,he]
def dV (w:World) (r:(ByteArray×Int)×ByteArray) (en:Ending) (w':World):Prop :=
 ∃ s',en=.returned (.tuple #[rV s' r.1.2,.string r.2])∧(r.1.2=0→s'=r.1.1)∧s'.size≤9223372036854775807∧Below w.heap.size w w'
theorem cL {w w1:World} {s:ByteArray} {e:Int} {x:ByteArray} {y:Int} {T:TypeId}
  (hb:Below ((w.alloc (.cells #[.string s,.int .i64 e] T)).alloc (.cells #[.string x,.int .i64 y] T)).heap.size ((w.alloc (.cells #[.string s,.int .i64 e] T)).alloc (.cells #[.string x,.int .i64 y] T)) w1) :
  Blk w1 w.heap.size T #[.string s,.int .i64 e]∧Blk w1 (w.heap.size+1) T #[.string x,.int .i64 y]∧w.heap.size+1<w1.heap.size∧Below w.heap.size w w1:=by
 have h1:Blk ((w.alloc (.cells #[.string s,.int .i64 e] T)).alloc (.cells #[.string x,.int .i64 y] T)) w.heap.size T #[.string s,.int .i64 e]:=(Blk.new w T _).alloc _
 have h2:Blk ((w.alloc (.cells #[.string s,.int .i64 e] T)).alloc (.cells #[.string x,.int .i64 y] T)) (w.heap.size+1) T #[.string x,.int .i64 y]:=by
  have:=Blk.new (w.alloc (.cells #[.string s,.int .i64 e] T)) T #[.string x,.int .i64 y]
  simpa using this
 refine⟨h1.below hb h1.lt,h2.below hb h2.lt,?_,?_⟩
 ·have:=hb.size
  simp at this
  omega
 ·have h3:Below w.heap.size w ((w.alloc (.cells #[.string s,.int .i64 e] T)).alloc (.cells #[.string x,.int .i64 y] T)):=by go_grown
  exact h3.trans (hb.mono (by simp;omega))
theorem DI {w:World} {g:Nat} {T:TypeId} {a b:Value} (h:Blk w g T #[a,b]):w.cell? ⟨g,0,none⟩=some a:=by
 have:=h.cell 0
 simpa using this
theorem EL {w:World} {g:Nat} {T:TypeId} {a b:Value} (h:Blk w g T #[a,b]):w.cell? ⟨g,1,none⟩=some b:=by
 have:=h.cell 1
 simpa using this
theorem Kn (s:ByteArray) (e:Int) (w:World) (hm:s.size≤9223372036854775807) :
  Calls qP 40 #[rV s e] w (dV w (Aj s e)):=by
 have hf:=Ay s e;obtain⟨⟨⟨s1,e1⟩,n⟩,hd⟩:∃ r,Ao s e=r:=⟨_,rfl⟩;have HN:=qH (fun W=>hd▸GL s e W hm);have HT:=qH (Rk s e hd);rw [hd] at hf;clear hd;simp only at hf;unfold rV;go_enter Tryz.func40,Tryz.ntmps40
 go_wp2_with fail
 refine(HN.out _).mono ?_;rintro en w1 ⟨rfl,hb⟩;unfold Tp rV;obtain⟨k1,k2,hz,hbel⟩:=cL hb;have c0:=DI k1;have d0:=DI k2;have d1:=EL k2;have f0:=k2.frozen 0;have f1:=k2.frozen 1
 have hz0:w.heap.size<w1.heap.size:=by omega
 clear hb;simp only;by_cases he:e1=0
 ·subst he
  have HT1:=qH (HT.out.trans (if_neg (by simp)));clear HT;by_cases hn:65536<n
  ·have HT2:=qH (HT1.out.trans (if_pos hn))
   clear HT1;go_wp2;have K:Blk _ _ _ #[.string s,.int .i64 4]:=((k2.set_ 0 (.string s)).set_ 1 (.int .i64 4)).alloc (.cells #[.string s1,.int .i64 0] 93);refine bodyPost_ret (v:=.tuple #[.agg #[.string s,.int .i64 4],.string ⟨#[]⟩]) (by simp [results,Tryz.results40,go_sem,DI K,EL K]) rfl ?_;rw [HT2.out];refine⟨_,rfl,fun h=>by simp at h,by omega,?_⟩
   go_grown
  ·have HT2:=qH (HT1.out.trans (if_neg hn))
   clear HT1;by_cases hs:s1.size<n
   ·have HT3:=qH (HT2.out.trans (if_pos hs))
    clear HT2;go_wp2;have K:Blk _ _ _ #[.string s,.int .i64 5]:=((k2.set_ 0 (.string s)).set_ 1 (.int .i64 5)).alloc (.cells #[.string s1,.int .i64 0] 93);refine bodyPost_ret (v:=.tuple #[.agg #[.string s,.int .i64 5],.string ⟨#[]⟩]) (by simp [results,Tryz.results40,go_sem,DI K,EL K]) rfl ?_;rw [HT3.out];refine⟨_,rfl,fun h=>by simp at h,by omega,?_⟩
    go_grown
   ·have HT3:=qH (HT2.out.trans (if_neg hs))
    clear HT2
    have hs':(n:Int)≤(s1.size:Int):=by omega
    have hx:(s1.extract n s1.size).size≤9223372036854775807:=by rw [←Ah,EB,List.length_drop,Ah];omega
    go_wp2
    go_region
    all_goals go_wp2
    all_goals have K:Blk _ _ _ #[.string (s1.extract n s1.size),.int .i64 0]:=((k2.set_ 0 (.string (s1.extract n s1.size))).set_ 1 (.int .i64 0)).alloc (.cells #[.string s1,.int .i64 0] 93)
    all_goals refine bodyPost_ret (v:=.tuple #[.agg #[.string (s1.extract n s1.size),.int .i64 0],.string (s1.extract 0 n)]) (by simp [results,Tryz.results40,go_sem,DI K,EL K]) rfl ?_
    all_goals rw [HT3.out]
    all_goals refine⟨_,rfl,fun _=>rfl,hx,?_⟩
    all_goals go_grown
 ·have hne:(e1 != 0)=true:=by rw [bne_iff_ne];exact he
  have HT1:=qH (HT.out.trans (if_pos he));clear HT;go_wp2;have K:Blk _ _ _ #[.string s1,.int .i64 e1]:=((k2.set_ 0 (.string s1)).set_ 1 (.int .i64 e1)).alloc (.cells #[.string s1,.int .i64 e1] 93);refine bodyPost_ret (v:=.tuple #[.agg #[.string s1,.int .i64 e1],.string ⟨#[]⟩]) (by simp [results,Tryz.results40,go_sem,DI K,EL K]) rfl ?_;rw [HT1.out];refine⟨_,rfl,fun h=>absurd h he,by omega,?_⟩
  go_grown
theorem Tq (s:ByteArray) (e:Int) (w:World) :
  Calls qP 42 #[rV s e] w fun en w'=>en=.returned (.int .i64 (AG s e))∧Below w.heap.size w w':=by
 unfold rV;by_cases he:e=0
 ·subst he
  by_cases hs:s.size=0
  ·have hE:=Gy s hs
   have HD:=qH (show AG s 0=0 by simp [AG,hs]);go_enter Tryz.func42,Tryz.ntmps42;go_wp2
   go_ret
   exact⟨by rw [HD.out];rfl,by go_grown⟩
  ·have hE:=Ca s (by omega)
   have HD:=qH (show AG s 0=6 by simp [AG,hs]);go_enter Tryz.func42,Tryz.ntmps42;go_wp2
   go_ret
   exact⟨by rw [HD.out];rfl,by go_grown⟩
 ·have hb:(e==0)=false:=beq_eq_false_iff_ne.2 he
  have HD:=qH (show AG s e=e by simp [AG,he]);go_enter Tryz.func42,Tryz.ntmps42;go_wp2
  go_ret
  exact⟨by rw [HD.out];rfl,by go_grown⟩
end Go.Proofs.YtkejaepmoabikaaGreatDoor.W
namespace Go.Proofs.YtkejaepmoabikaaGreatDoor.W
open Go.RowKit Go.Shelf
open _root_.Go.Proofs.Tryz renaming prog → qP
structure Lay (w:World):Prop where
 tab:Pow w
 syn:∃ t p,w.cell? ⟨3,0,none⟩=some (.iface t p)
 rng:∃ t p,w.cell? ⟨4,0,none⟩=some (.iface t p)
theorem Lay.next {w w':World} (h:Lay w) (hb:Below w.heap.size w w'):Lay w':=by
 obtain⟨t1,p1,h1⟩:=h.syn;obtain⟨t2,p2,h2⟩:=h.rng;exact⟨h.tab.next hb,⟨t1,p1,Jl h1 hb⟩,⟨t2,p2,Jl h2 hb⟩⟩
theorem kL (n:Nat) (h:n≤1099511627776) (w:World) (hL:Lay w) :
  Calls qP 113 #[.int .i64 n] w fun e w'=>e=.returned (.string (bs (dcm n)))∧Below w.heap.size w w':=bX n (by omega) w hL.tab
theorem ZJ (s:ByteArray) (hs:s.size≤1000000) (v:Int) (h:Lib.atoiAll s.data.toList=.ok v) (w:World) :
  Calls qP 155 #[.string s] w fun e w'=>e=.returned (.tuple #[.int .i64 v,.nilIface])∧Below w.heap.size w w':=by
 refine(Any.strconv_Atoi_ok Tryz.laysC172 s (by omega) v h w).mono ?_;rintro e w' ⟨rfl,rfl|⟨t,rfl⟩⟩
 ·exact⟨rfl,Below.refl _ _⟩
 ·exact⟨rfl,Lib.bytesWorld_below _ _ _⟩
theorem WS (s:ByteArray) (hs:s.size≤1000000) (h:∀ v,Lib.atoiAll s.data.toList≠.ok v) (w:World) (hL:Lay w) :
  Calls qP 155 #[.string s] w fun e w'=>(∃ n t p,e=.returned (.tuple #[.int .i64 n,.iface t p]))∧Below w.heap.size w w':=by
 cases hr:Lib.atoiAll s.data.toList with
 | ok v=>exact absurd hr (h v)
 | range =>
   obtain⟨t,p,hv⟩:=hL.rng;refine(Any.strconv_Atoi_range Tryz.laysC172 s (by omega) hr (.iface t p) w hv (.inr ⟨_,_,rfl⟩)).mono ?_;rintro e w' ⟨N,rfl,-,-,hb⟩;exact⟨⟨_,_,_,rfl⟩,hb⟩
 | _ =>
   obtain⟨t,p,hv⟩:=hL.syn;refine(Any.strconv_Atoi_syntax Tryz.laysC172 s (by omega) hr (.iface t p) w hv (.inr ⟨_,_,rfl⟩)).mono ?_;rintro e w' ⟨N,rfl,-,-,hb⟩;exact⟨⟨_,_,_,rfl⟩,hb⟩
theorem MF (s p:ByteArray) (w:World) :
  Calls qP 154 #[.string s,.string p] w fun e w'=>e=.returned (.tuple #[.string (bs (Lib.trimPrefix s.data.toList p.data.toList)),.bool (Lib.hasPrefix s.data.toList p.data.toList)])∧w=w':=by
 refine(Any.strings_CutPrefix Tryz.lays103 s p w).mono ?_;rintro e w' ⟨rfl,rfl⟩;exact⟨rfl,rfl⟩
end Go.Proofs.YtkejaepmoabikaaGreatDoor.W
namespace Go.Proofs.YtkejaepmoabikaaGreatDoor.W
open Go.RowKit
open Lib renaming hid → qH
open _root_.Go.Proofs.Tryz renaming prog → qP
set_option maxHeartbeats 4000000
theorem Ft (k:Int):k=1∨k=2∨k=3∨(wd k=[]∧k≠1∧k≠2∧k≠3):=by
 by_cases h1:k=1
 ·exact .inl h1
 ·by_cases h2:k=2
  ·exact .inr (.inl h2)
  ·by_cases h3:k=3
   ·exact .inr (.inr (.inl h3))
   ·exact .inr (.inr (.inr ⟨by simp [wd,h1,h2,h3],h1,h2,h3⟩))
theorem Nq (k:Int):(wd k).length≤11:=by
 rcases Ft k with rfl|rfl|rfl|⟨h,_⟩
 ·decide
 ·decide
 ·decide
 ·rw [h];decide
def WT (k:Int):Value:=.tuple #[.string (bs (wd k)),.bool (decide (wd k≠[]))]
theorem Ts {k:Int} (h:wd k=[]):WT k=.tuple #[.string (bs []),.bool false]:=by simp [WT,h]
theorem WU {k:Int} (h:wd k≠[]):WT k=.tuple #[.string (bs (wd k)),.bool true]:=by simp [WT,h]
theorem gZ (k:Int) (w:World):Calls qP 112 #[.int .i64 k] w fun e w'=>e=.returned (WT k)∧w=w':=by
 rcases Ft k with rfl|rfl|rfl|⟨h,h1,h2,h3⟩
 ·go_enter Tryz.func112,Tryz.ntmps112
  go_wp2
  go_ret2
  exact⟨rfl,rfl⟩
 ·go_enter Tryz.func112,Tryz.ntmps112
  go_wp2
  go_ret2
  exact⟨rfl,rfl⟩
 ·go_enter Tryz.func112,Tryz.ntmps112
  go_wp2
  go_ret2
  exact⟨rfl,rfl⟩
 ·have HE:=qH (Ts h)
  clear h;go_enter Tryz.func112,Tryz.ntmps112;go_wp2
  go_ret2
  exact⟨by rw [HE.out];rfl,rfl⟩
theorem Tt {k:Int} (h:wd k=[]) (w:World):Calls qP 112 #[.int .i64 k] w fun e w'=>e=.returned (.tuple #[.string (bs []),.bool false])∧w=w':=by
 have:=gZ k w;rw [Ts h] at this;exact this
theorem Ph {k:Int} (h:wd k≠[]) (w:World):Calls qP 112 #[.int .i64 k] w fun e w'=>e=.returned (.tuple #[.string (bs (wd k)),.bool true])∧w=w':=by
 have:=gZ k w;rw [WU h] at this;exact this
def mkV (k n:Int):Value:=.tuple #[.string (bs (mkS k n)),.int .i64 (mkE k n)]
theorem Tu {k:Int} (h:wd k=[]) (n:Int):mkV k n=.tuple #[.string (bs []),.int .i64 1]:=by simp [mkV,mkS,mkE,h]
theorem Hf {k n:Int} (h:wd k≠[]) (hn:n<0∨1099511627776<n):mkV k n=.tuple #[.string (bs []),.int .i64 3]:=by simp [mkV,mkS,mkE,h,hn]
theorem WV {k n:Int} (h:wd k≠[]) (hn:¬(n<0∨1099511627776<n)):mkV k n=.tuple #[.string (bs (wd k++dcm n.toNat)),.int .i64 0]:=by
 simp [mkV,mkS,mkE,h,hn]
theorem hH (k n:Int) (w:World) (hL:Lay w):Calls qP 64 #[.int .i64 k,.int .i64 n] w fun e w'=>e=.returned (mkV k n)∧Below w.heap.size w w':=by
 by_cases h:wd k=[]
 ·have HE:=qH (Tu h n)
  have HP:=qH (Tt h);clear h;go_enter Tryz.func64,Tryz.ntmps64
  go_wp2_with fail
  refine(HP.out w).mono ?_;rintro e w1 ⟨rfl,rfl⟩;go_wp2
  go_ret2
  exact⟨by rw [HE.out];rfl,Below.refl _ _⟩
 ·have HP:=qH (Ph h)
  have hw:=Nq k;by_cases h0:n<0
  ·have HE:=qH (Hf h (.inl h0))
   clear h;go_enter Tryz.func64,Tryz.ntmps64
   go_wp2_with fail
   refine(HP.out w).mono ?_;rintro e w1 ⟨rfl,rfl⟩;go_wp2
   go_ret2
   exact⟨by rw [HE.out];rfl,Below.refl _ _⟩
  ·by_cases h1:1099511627776<n
   ·have HE:=qH (Hf h (.inr h1))
    clear h;go_enter Tryz.func64,Tryz.ntmps64
    go_wp2_with fail
    refine(HP.out w).mono ?_;rintro e w1 ⟨rfl,rfl⟩;go_wp2
    go_ret2
    exact⟨by rw [HE.out];rfl,Below.refl _ _⟩
   ·have HE:=qH (WV (n:=n) h (by omega))
    clear h;obtain⟨m,rfl⟩:∃ m:Nat,n=m:=⟨n.toNat,by omega⟩
    have hm:m≤1099511627776:=by omega
    go_enter Tryz.func64,Tryz.ntmps64
    go_wp2_with fail
    refine(HP.out w).mono ?_;rintro e w1 ⟨rfl,rfl⟩
    go_wp2_with fail
    refine(kL m hm w hL).mono ?_;rintro e w1 ⟨rfl,b1⟩;have hadd:=AB w1 (wd k) (dcm m) (by have:=Fa m hm;omega);go_wp2
    go_ret2
    exact⟨by rw [HE.out];rfl,b1⟩
def nmV (k:Int) (l:List UInt8):Value:=.tuple #[.int .i64 (nmN k l),.int .i64 (nmE k l)]
theorem Tv {k:Int} (h:wd k=[]) (l:List UInt8):nmV k l=.tuple #[.int .i64 0,.int .i64 1]:=by
 obtain⟨h1,h2⟩:=ZA h l;rw [nmV,h1,h2]
theorem Ik {k:Int} {l:List UInt8} (hw:wd k≠[]) (h:∀ n,mkE k n=0→mkS k n≠l):nmV k l=.tuple #[.int .i64 0,.int .i64 7]:=by
 obtain⟨h1,h2⟩:=gL hw h;rw [nmV,h1,h2]
theorem Tw {k n:Int} {l:List UInt8} (h1:mkE k n=0) (h2:mkS k n=l):nmV k l=.tuple #[.int .i64 n,.int .i64 0]:=by
 obtain⟨h1,h2⟩:=dK h1 h2;rw [nmV,h1,h2]
theorem dX (s:ByteArray) (k:Int) (h:∀ d,s.data.toList≠wd k++d) (w:World) :
  Calls qP 154 #[.string s,.string (bs (wd k))] w fun e w'=>(∃ t,e=.returned (.tuple #[.string t,.bool false]))∧w=w':=by
 refine(MF s (bs (wd k)) w).mono ?_;rintro e w' ⟨rfl,rfl⟩
 have:Lib.hasPrefix s.data.toList (wd k)=false:=by
  unfold Lib.hasPrefix
  cases hp:(wd k).isPrefixOf s.data.toList with
  | false=>rfl
  | true =>
    obtain⟨d,hd⟩:=List.isPrefixOf_iff_prefix.mp hp;exact absurd hd.symm (h d)
 rw [Bs,this];exact⟨⟨_,rfl⟩,rfl⟩
theorem ZK (s:ByteArray) (k:Int) (d:List UInt8) (h:s.data.toList=wd k++d) (w:World) :
  Calls qP 154 #[.string s,.string (bs (wd k))] w fun e w'=>e=.returned (.tuple #[.string (bs d),.bool true])∧w=w':=by
 refine(MF s (bs (wd k)) w).mono ?_;rintro e w' ⟨rfl,rfl⟩
 have hp:Lib.hasPrefix s.data.toList (wd k)=true:=by
  unfold Lib.hasPrefix;exact List.isPrefixOf_iff_prefix.mpr ⟨d,h.symm⟩
 have ht:Lib.trimPrefix s.data.toList (wd k)=d:=by
  unfold Lib.trimPrefix;rw [if_pos hp,h,List.drop_left]
 rw [Bs,hp,ht];exact⟨rfl,rfl⟩
theorem JW {k n:Int} {d:List UInt8} (h1:mkE k n=0) (h2:mkS k n=wd k++d):Lib.atoiAll d=.ok n:=by
 obtain⟨e,h0,hn⟩:=Ot h1 h2;have:d=dcm n.toNat:=List.append_cancel_left e;rw [this,Wh _ (by omega)]
 congr 1
 omega
theorem Ty {k:Int} {l:List UInt8} (h:∀ d,l≠wd k++d):∀ n,mkE k n=0→mkS k n≠l:=by
 intro n h1 h2;exact h _ (Ot h1 h2).1
theorem dY {k:Int} {d:List UInt8} (h:∀ v,Lib.atoiAll d≠.ok v):∀ n,mkE k n=0→mkS k n≠wd k++d:=by
 intro n h1 h2;exact h _ (JW h1 h2)
theorem WW {k v:Int} {d:List UInt8} (hv:Lib.atoiAll d=.ok v) (h:¬(mkE k v=0∧mkS k v=wd k++d)):∀ n,mkE k n=0→mkS k n≠wd k++d:=by
 intro n h1 h2;have e:=JW h1 h2;rw [hv] at e
 injection e with e
 subst e;exact h ⟨h1,h2⟩
theorem Jy (k v:Int) (q:ByteArray) (z:Int) (h1:bs (mkS k v)=q) (h2:mkE k v=z) (w:World) (hL:Lay w) :
  Calls qP 64 #[.int .i64 k,.int .i64 v] w fun e w'=>e=.returned (.tuple #[.string q,.int .i64 z])∧Below w.heap.size w w':=by
 subst h1 h2;exact hH k v w hL
theorem dZ (k:Int) (s:ByteArray) (w:World) (hL:Lay w) (hs:s.size≤1000000) :
  Calls qP 109 #[.int .i64 k,.string s] w fun e w'=>e=.returned (nmV k s.data.toList)∧Below w.heap.size w w':=by
 by_cases h:wd k=[]
 ·have HE:=qH (Tv h s.data.toList)
  have HP:=qH (Tt h);clear h;go_enter Tryz.func109,Tryz.ntmps109
  go_wp2_with fail
  refine(HP.out w).mono ?_;rintro e w1 ⟨rfl,rfl⟩;go_wp2
  go_ret2
  exact⟨by rw [HE.out];rfl,Below.refl _ _⟩
 ·have HP:=qH (Ph h)
  have hw:=Nq k;by_cases hd:∃ d,s.data.toList=wd k++d
  ·obtain⟨d,hd⟩:=hd
   have hdl:d.length≤1000000:=by
    have:=congrArg List.length hd;rw [List.length_append,Ah] at this
    omega
   have HC:=qH (ZK s k d hd);by_cases ha:∃ v,Lib.atoiAll d=.ok v
   ·obtain⟨v,hv⟩:=ha
    have HA:=qH (ZJ (bs d) (by rw [Aw];exact hdl) v (by rw [Bs];exact hv));by_cases hm:mkE k v=0∧mkS k v=wd k++d
    ·have HE:=qH (Tw hm.1 (hm.2.trans hd.symm))
     have HM:=qH (Jy k v s 0 (by rw [hm.2,←hd,Ch]) hm.1);clear h hd hv hm;go_enter Tryz.func109,Tryz.ntmps109
     go_wp2_with fail
     refine(HP.out w).mono ?_;rintro e w1 ⟨rfl,rfl⟩
     go_wp2_with fail
     refine(HC.out w).mono ?_;rintro e w1 ⟨rfl,rfl⟩
     go_wp2_with fail
     refine(HA.out w).mono ?_;rintro e w1 ⟨rfl,b1⟩
     go_wp2_with fail
     refine(HM.out w1 (hL.next b1)).mono ?_;rintro e w2 ⟨rfl,b2⟩
     replace b2:=Ae b1 b2
     go_wp2
     go_ret2
     exact⟨by rw [HE.out];rfl,b2⟩
    ·have HE:=qH (Ik (l:=s.data.toList) h (by rw [hd];exact WW hv hm))
     by_cases hz:mkE k v=0
     ·have hne:bs (mkS k v)≠s:=by
       intro e;refine hm ⟨hz,?_⟩;rw [←hd,←e,Bs]
      have HM:=qH (Jy k v (bs (mkS k v)) 0 rfl hz);generalize bs (mkS k v)=q at *
      replace hne:=Eh hne
      clear h hd hv hm hz;go_enter Tryz.func109,Tryz.ntmps109
      go_wp2_with fail
      refine(HP.out w).mono ?_;rintro e w1 ⟨rfl,rfl⟩
      go_wp2_with fail
      refine(HC.out w).mono ?_;rintro e w1 ⟨rfl,rfl⟩
      go_wp2_with fail
      refine(HA.out w).mono ?_;rintro e w1 ⟨rfl,b1⟩
      go_wp2_with fail
      refine(HM.out w1 (hL.next b1)).mono ?_;rintro e w2 ⟨rfl,b2⟩
      replace b2:=Ae b1 b2
      go_wp2
      go_ret2
      exact⟨by rw [HE.out];rfl,b2⟩
     ·have HM:=qH (Jy k v (bs (mkS k v)) (mkE k v) rfl rfl)
      generalize bs (mkS k v)=q at *;generalize mkE k v=z at *;clear h hd hv hm;go_enter Tryz.func109,Tryz.ntmps109
      go_wp2_with fail
      refine(HP.out w).mono ?_;rintro e w1 ⟨rfl,rfl⟩
      go_wp2_with fail
      refine(HC.out w).mono ?_;rintro e w1 ⟨rfl,rfl⟩
      go_wp2_with fail
      refine(HA.out w).mono ?_;rintro e w1 ⟨rfl,b1⟩
      go_wp2_with fail
      refine(HM.out w1 (hL.next b1)).mono ?_;rintro e w2 ⟨rfl,b2⟩
      replace b2:=Ae b1 b2
      go_wp2
      go_ret2
      exact⟨by rw [HE.out];rfl,b2⟩
   ·have ha':∀ v,Lib.atoiAll d≠.ok v:=fun v e=>ha ⟨v,e⟩
    have HA:=qH (WS (bs d) (by rw [Aw];exact hdl) (by rw [Bs];exact ha'));have HE:=qH (Ik (l:=s.data.toList) h (by rw [hd];exact dY ha'));clear h hd ha ha';go_enter Tryz.func109,Tryz.ntmps109
    go_wp2_with fail
    refine(HP.out w).mono ?_;rintro e w1 ⟨rfl,rfl⟩
    go_wp2_with fail
    refine(HC.out w).mono ?_;rintro e w1 ⟨rfl,rfl⟩
    go_wp2_with fail
    refine(HA.out w hL).mono ?_;rintro e w1 ⟨⟨n,t,p,rfl⟩,b1⟩;go_wp2
    go_ret2
    exact⟨by rw [HE.out];rfl,b1⟩
  ·have hd':∀ d,s.data.toList≠wd k++d:=fun d e=>hd ⟨d,e⟩
   have HC:=qH (dX s k hd');have HE:=qH (Ik h (Ty hd'));clear h hd hd';go_enter Tryz.func109,Tryz.ntmps109
   go_wp2_with fail
   refine(HP.out w).mono ?_;rintro e w1 ⟨rfl,rfl⟩
   go_wp2_with fail
   refine(HC.out w).mono ?_;rintro e w1 ⟨⟨t,rfl⟩,rfl⟩;go_wp2
   go_ret2
   exact⟨by rw [HE.out];rfl,Below.refl _ _⟩
theorem Pi {s:ByteArray} {k:Nat} (h:(s.data.toList.take k).all ltr=true) (hk:k<s.size) (hl:ltr s[k]=true):(s.data.toList.take (k+1)).all ltr=true:=by
 rw [Je s k hk,List.all_append,h];simp [hl]
theorem Pj {s:ByteArray} {k:Nat} (hk:k<s.size) (hl:ltr s[k]=false):s.data.toList.all ltr=false:=by
 rw [List.all_eq_false];refine⟨s[k],?_,by rw [hl];decide⟩;exact List.mem_of_getElem (i:=k) (h:=by rw [Ah];exact hk) rfl
theorem Pk {s:ByteArray} (h:(s.data.toList.take s.size).all ltr=true):s.data.toList.all ltr=true:=by
 rw [List.take_of_length_le (by rw [Ah];exact Nat.le_refl _)] at h;exact h
theorem ZL (s:ByteArray) (w:World) (hs:s.size≤1000000) :
  Calls qP 110 #[.string s] w fun e w'=>e=.returned (.bool (s.data.toList.all ltr))∧w=w':=by
 go_enter Tryz.func110,Tryz.ntmps110;go_wp2
 go_step3
 go_wp2
 go_step3
 go_wp2
 go_loop [3] (fun i=>∃ k:Nat,k≤s.size∧i=.int .i64 k∧(s.data.toList.take k).all ltr=true) (fun i=>s.size-(intOf i).toNat)
 case atStart=>exact⟨0,Nat.zero_le _,rfl,rfl⟩
 case round =>
  obtain⟨k,hk,rfl,hall⟩:=hrel;by_cases hlt:k<s.size
  ·have hb:=s[k].toNat_lt
   have HS:=qH (Pi hall hlt);have HF:=qH (Pj hlt);have hks:Hid (((k:Int)==(s.size:Int))=false):=qH (by rw [beq_eq_false_iff_ne];omega);clear hall;go_wp2
   all_goals first
    | (have hl:ltr s[k]=true:=by
        simp only [ltr,Bool.or_eq_true,decide_eq_true_eq];simp only [beq_iff_eq,beq_eq_false_iff_ne] at *
        omega
       go_round
       case rel=>exact⟨k+1,by omega,by go_num,HS.out hl⟩
       case measure=>simp [intOf];omega)
    | (have hl:ltr s[k]=false:=by
        simp only [ltr,Bool.or_eq_false_iff,decide_eq_false_iff_not];simp only [beq_eq_false_iff_ne] at *
        omega
       go_ret
       refine⟨?_,rfl⟩
       show Ending.returned (Value.bool ((k:Int)==(s.size:Int)))=_
       rw [hks.out,HF.out hl])
  ·obtain rfl:k=s.size:=by omega
   have HE:=qH (Pk hall);clear hall;go_wp2
   go_ret
   exact⟨by rw [HE.out];rfl,rfl⟩
theorem WX {k:Int} (h:wd k≠[]) (l:List UInt8):ck k l=nmE k l:=by
 unfold ck;rw [if_neg ?_,if_neg h]
 rcases Ft k with rfl|rfl|rfl|⟨e,_⟩
 ·decide
 ·decide
 ·decide
 ·exact absurd e h
theorem IR {s:ByteArray} (h:s.size<1∨64<s.size):plain s.data.toList=false:=by
 unfold plain;rw [Ah];simp only [Bool.and_eq_false_iff,decide_eq_false_iff_not]
 omega
theorem MG {s:ByteArray} (h1:1≤s.size) (h2:s.size≤64):plain s.data.toList=s.data.toList.all ltr:=by
 unfold plain;rw [Ah];simp [h1,h2]
theorem Pm {k:Int} (h:k=0∨k=4∨k=5∨k=6) (l:List UInt8):ck k l=if plain l then 0 else 7:=by
 rcases h with rfl|rfl|rfl|rfl<;>rfl
theorem Rl {k:Int} (h:k<0∨6<k) (l:List UInt8):ck k l=1:=by rw [ck,if_pos h]
theorem Pn (k:Int) (s:ByteArray) (hs:s.size≤1000000) (a b:Int) (h1:nmN k s.data.toList=a) (h2:nmE k s.data.toList=b) (w:World) (hL:Lay w) :
  Calls qP 109 #[.int .i64 k,.string s] w fun e w'=>e=.returned (.tuple #[.int .i64 a,.int .i64 b])∧Below w.heap.size w w':=by
 subst h1 h2;exact dZ k s w hL hs
theorem IS (s:ByteArray) (hs:s.size≤1000000) (b:Bool) (h:s.data.toList.all ltr=b) (w:World) :
  Calls qP 110 #[.string s] w fun e w'=>e=.returned (.bool b)∧w=w':=by
 subst h;exact ZL s w hs
theorem WY (k:Int) (s:ByteArray) (w:World) (hL:Lay w) (hs:s.size≤1000000) :
  Calls qP 61 #[.int .i64 k,.string s] w fun e w'=>e=.returned (.int .i64 (ck k s.data.toList))∧Below w.heap.size w w':=by
 by_cases h:wd k=[]
 ·by_cases hk:k=0∨k=4∨k=5∨k=6
  ·have HE:=qH (Pm hk s.data.toList)
   clear h;by_cases h1:s.size<1
   ·have HP:=qH (IR (.inl h1))
    rcases hk with rfl|rfl|rfl|rfl
    all_goals
     go_enter Tryz.func61,Tryz.ntmps61;go_wp2
     go_ret
     exact⟨by rw [HE.out,HP.out];rfl,Below.refl _ _⟩
   ·by_cases h2:64<s.size
    ·have HP:=qH (IR (.inr h2))
     rcases hk with rfl|rfl|rfl|rfl
     all_goals
      go_enter Tryz.func61,Tryz.ntmps61;go_wp2
      go_ret
      exact⟨by rw [HE.out,HP.out];rfl,Below.refl _ _⟩
    ·have HP:=qH (MG (s:=s) (by omega) (by omega))
     cases ha:s.data.toList.all ltr with
     | false =>
       have HA:=qH (IS s hs false ha);have HZ:=qH ha;clear ha
       rcases hk with rfl|rfl|rfl|rfl
       all_goals
        go_enter Tryz.func61,Tryz.ntmps61
        go_wp2_with fail
        refine(HA.out w).mono ?_;rintro e w1 ⟨rfl,rfl⟩;go_wp2
        go_ret
        exact⟨by rw [HE.out,HP.out,HZ.out];rfl,Below.refl _ _⟩
     | true =>
       have HA:=qH (IS s hs true ha);have HZ:=qH ha;clear ha
       rcases hk with rfl|rfl|rfl|rfl
       all_goals
        go_enter Tryz.func61,Tryz.ntmps61
        go_wp2_with fail
        refine(HA.out w).mono ?_;rintro e w1 ⟨rfl,rfl⟩;go_wp2
        go_ret
        exact⟨by rw [HE.out,HP.out,HZ.out];rfl,Below.refl _ _⟩
  ·rcases Ft k with rfl|rfl|rfl|⟨-,h1,h2,h3⟩
   ·exact absurd h (by decide)
   ·exact absurd h (by decide)
   ·exact absurd h (by decide)
   ·have HE:=qH (Rl (k:=k) (by omega) s.data.toList)
    have k0:k≠0:=by omega
    have k4:k≠4:=by omega
    have k5:k≠5:=by omega
    have k6:k≠6:=by omega
    clear h hk;go_enter Tryz.func61,Tryz.ntmps61;go_wp2
    go_ret
    exact⟨by rw [HE.out];rfl,Below.refl _ _⟩
 ·have HE:=qH (WX h s.data.toList)
  have HN:=qH (Pn k s hs _ _ rfl rfl);generalize nmN k s.data.toList=a at *;generalize nmE k s.data.toList=b at *
  rcases Ft k with rfl|rfl|rfl|⟨e,_⟩
  ·clear h
   go_enter Tryz.func61,Tryz.ntmps61
   go_wp2_with fail
   refine(HN.out w hL).mono ?_;rintro e w1 ⟨rfl,b1⟩;go_wp2
   go_ret
   exact⟨by rw [HE.out];rfl,b1⟩
  ·clear h
   go_enter Tryz.func61,Tryz.ntmps61
   go_wp2_with fail
   refine(HN.out w hL).mono ?_;rintro e w1 ⟨rfl,b1⟩;go_wp2
   go_ret
   exact⟨by rw [HE.out];rfl,b1⟩
  ·clear h
   go_enter Tryz.func61,Tryz.ntmps61
   go_wp2_with fail
   refine(HN.out w hL).mono ?_;rintro e w1 ⟨rfl,b1⟩;go_wp2
   go_ret
   exact⟨by rw [HE.out];rfl,b1⟩
  ·exact absurd e h
end Go.Proofs.YtkejaepmoabikaaGreatDoor.W
