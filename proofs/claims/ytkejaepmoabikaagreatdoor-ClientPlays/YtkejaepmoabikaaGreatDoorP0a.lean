import Derived.Test.YtkejaepmoabikaaGreatDoorProg
import Derived.WalkKit
import Derived.Handy
import Derived.Lib.BitFns
import Derived.Lib.Hide
import Derived.WalkSpells
import Derived.WalkLawsBesides
import Derived.Lib.BufSteps
import Derived.Deep.QuietTactic
import Derived.BigQuiet
import Derived.ScopeJumps
import Derived.Lib.ItoaNum
import Derived.Test.YtkejaepmoabikaaGreatDoorShelf
import Derived.Lib.ItoaMem
import Derived.Lib.SmallJoins
import Derived.Lib.Replace
import Derived.Lib.SplitLaws
import Derived.Lib.Join
import Derived.Lib.ReplaceLaws
import Derived.WideShapes
import Derived.OwnWalk
import Derived.Deep.RegionHeld3
import Derived.Deep.AppendLies
import Derived.StillTactics
import Derived.Lib.AtoiTie
import Derived.Lib.Bytealg
import Derived.Lib.Strings
namespace Go.Proofs.YtkejaepmoabikaaGreatDoor.W
def bs (l:List UInt8):ByteArray:=⟨l.toArray⟩
theorem Bs (l:List UInt8):(bs l).data.toList=l:=rfl
theorem Ch (s:ByteArray):bs s.data.toList=s:=by cases s;rfl
theorem dE {a b:List UInt8} (h:bs a=bs b):a=b:=by rw [←Bs a,←Bs b,h]
theorem Aw (l:List UInt8):(bs l).size=l.length:=by simp [bs,ByteArray.size]
theorem Ah (s:ByteArray):s.data.toList.length=s.size:=by rw [Array.length_toList];rfl
theorem Mc (a b:List UInt8):bs a++bs b=bs (a++b):=by
 apply ByteArray.ext
 simp [bs,ByteArray.data_append]
theorem GW {α:Type} {P:List α→Prop} (h0:P []) (h1:∀ l a,P l→P (l++[a])) (l:List α):P l:=by
 have:∀ r:List α,P r.reverse:=by
  intro r
  induction r with
  | nil=>exact h0
  | cons a r ih=>rw [List.reverse_cons];exact h1 _ _ ih
 have h:=this l.reverse
 rwa [List.reverse_reverse] at h
theorem toNat_ofNat {n:Nat} (h:n<256):(UInt8.ofNat n).toNat=n:=by
 rw [UInt8.toNat_ofNat'];omega
theorem ofNat_toNat (b:UInt8):UInt8.ofNat b.toNat=b:=by
 apply UInt8.toNat_inj.1
 rw [toNat_ofNat b.toNat_lt]
theorem Je (s:ByteArray) (k:Nat) (h:k<s.size):s.data.toList.take (k+1)=s.data.toList.take k++[s[k]]:=by
 rw [List.take_succ_eq_append_getElem (by simpa using h)];rfl
theorem Kv {α:Type} {a b:List α} (h:a≠[]):(a++b).head?=a.head?:=by
 cases a with
 | nil=>exact absurd rfl h
 | cons x r=>rfl
def be (n:Nat):List UInt8:=if _h:n=0 then [] else be (n/256)++[UInt8.ofNat (n%256)]
termination_by n
decreasing_by omega
theorem CY:be 0=[]:=by rw [be];simp
theorem FF {n:Nat} (h:n≠0):be n=be (n/256)++[UInt8.ofNat (n%256)]:=by rw [be];simp [h]
def val (l:List UInt8):Nat:=l.foldl (fun n b=>n*256+b.toNat) 0
theorem Ir:val []=0:=rfl
theorem Gs (l:List UInt8) (b:UInt8):val (l++[b])=val l*256+b.toNat:=by simp [val]
theorem Qz (l:List UInt8):val l<256 ^ l.length:=by
 induction l using GW with
 | h0=>simp [val]
 | h1 l b ih =>
   rw [Gs,List.length_append,List.length_singleton,Nat.pow_succ];have:=b.toNat_lt
   omega
theorem VQ (n:Nat):val (be n)=n:=by
 induction n using Nat.strongRecOn with
 | _ n ih =>
   by_cases h:n=0
   ·subst h;rw [CY];rfl
   ·rw [FF h,Gs,ih (n/256) (by omega),toNat_ofNat (by omega)];omega
theorem Cr (n k:Nat) (h:n<256 ^ k):(be n).length≤k:=by
 induction k generalizing n with
 | zero=>have:n=0:=by simpa using h
         subst this;rw [CY];simp
 | succ k ih =>
   by_cases hn:n=0
   ·subst hn;rw [CY];simp
   ·rw [FF hn,List.length_append,List.length_singleton]
    have:=ih (n/256) (by rw [Nat.pow_succ] at h;omega)
    omega
theorem Zk (n:Nat):(be n).head?≠some 0:=by
 induction n using Nat.strongRecOn with
 | _ n ih =>
   by_cases h:n=0
   ·subst h;rw [CY];simp
   ·rw [FF h]
    by_cases hq:n/256=0
    ·rw [hq,CY]
     simp only [List.nil_append,List.head?_cons,ne_eq,Option.some.injEq];intro he;have:=congrArg UInt8.toNat he;rw [toNat_ofNat (by omega)] at this;simp at this
     omega
    ·have hne:be (n/256)≠[]:=by
      intro he;have:=VQ (n/256);rw [he,Ir] at this
      omega
     rw [Kv hne];exact ih (n/256) (by omega)
theorem dF (l:List UInt8) (h:l.head?≠some 0):be (val l)=l:=by
 induction l using GW with
 | h0=>rw [Ir,CY]
 | h1 l b ih =>
   rw [Gs];have hb:=b.toNat_lt;by_cases hl:l=[]
   ·subst hl
    rw [Ir]
    have hb0:b≠0:=by simpa using h
    have hbn:b.toNat≠0:=fun e=>hb0 (UInt8.toNat_inj.1 (by simpa using e));rw [FF (by omega),show(0*256+b.toNat)/256=0 by omega,CY,show(0*256+b.toNat)%256=b.toNat by omega];simp
   ·rw [Kv hl] at h
    have hv:val l≠0:=by
     intro e;have:=ih h;rw [e,CY] at this;exact hl this.symm
    rw [FF (by omega),show(val l*256+b.toNat)/256=val l by omega,show(val l*256+b.toNat)%256=b.toNat by omega,ih h];simp
def num (n:Nat):List UInt8:=UInt8.ofNat (be n).length::be n
def Cd (s:List UInt8):List UInt8:=num s.length++s
def join (l:List (List UInt8)):List UInt8:=num l.length++(l.map Cd).flatten
theorem gG (n i:Nat) (h:i<(be n).length):(be n)[(be n).length-1-i]'(by omega)=UInt8.ofNat (n/256 ^ i%256):=by
 induction i generalizing n with
 | zero =>
   have h0:n≠0:=by intro e;subst e;rw [CY] at h;simp at h
   have e:=FF h0;simp only [e,List.length_append,List.length_singleton,Nat.add_sub_cancel,Nat.sub_zero,Nat.pow_zero,Nat.div_one];simp
 | succ i ih =>
   have h0:n≠0:=by intro e;subst e;rw [CY] at h;simp at h
   have e:=FF h0
   have hl:i<(be (n/256)).length:=by rw [e] at h;simp at h;omega
   have h2:=ih (n/256) hl
   have hd:n/256/256 ^ i=n/256 ^ (i+1):=by rw [Nat.div_div_eq_div_mul,Nat.pow_succ,Nat.mul_comm]
   rw [hd] at h2;rw [←h2];simp only [e,List.length_append,List.length_singleton];rw [List.getElem_append_left (by omega)]
   congr 1
   omega
theorem Zl (n j:Nat) (h:j<(be n).length):(be n).take (j+1)=(be n).take j++[UInt8.ofNat (n/256 ^ ((be n).length-1-j)%256)]:=by
 rw [List.take_succ_eq_append_getElem h,←gG n ((be n).length-1-j) (by omega)]
 congr 2
 congr 1
 omega
theorem Di (n:Nat):(num n).length=(be n).length+1:=rfl
end Go.Proofs.YtkejaepmoabikaaGreatDoor.W
namespace Go.Proofs.YtkejaepmoabikaaGreatDoor.W
open Go.RowKit
open Lib renaming hid → qH
open _root_.Go.Proofs.Tryz renaming prog → qP
set_option maxHeartbeats 4000000
set_option maxRecDepth 100000
theorem Gt (y c:Int) (h0:0≤y) (h1:y≤255) (hc0:0≤c) (hc1:c≤56) (h:y.toNat<Lib.len8tab.size) :
  wrap64 (c+wrap64 (Lib.len8tab[y.toNat].toNat:Int))=c+(Lib.bitLen y.toNat:Int):=by
 have e:=Lib.len8_of y h0 h1;have l:=Lib.bitLen_le8' y h0 h1
 have hb:(Lib.len8tab[y.toNat].toNat:Int)=(Lib.bitLen y.toNat:Int):=by
  rw [←e];unfold Lib.len8;rw [ByteArray.getElem?_lt' _ _ h]
  rfl
 rw [hb];simp only [wrap64]
 omega
theorem Zm (y:Int) (h0:0≤y) (h1:y≤255) (h:y.toNat<Lib.len8tab.size) :
  wrap64 (wrap64 (Lib.len8tab[y.toNat].toNat:Int))=(Lib.bitLen y.toNat:Int):=by
 have e:=Gt y 0 h0 h1 (by omega) (by omega) h
 rwa [Int.zero_add,Int.zero_add] at e
theorem bW (x:Int) (w:World) (h0:0≤x) (h1:x≤18446744073709551615) :
  Calls qP 157 #[.int .u64 x] w fun e w'=>e=.returned (.int .i64 (Lib.bitLen x.toNat))∧w=w':=by
 have hsz:=Lib.len8tab_size;go_enter Tryz.func157,Tryz.ntmps157;go_wp2
 all_goals (go_ret;refine⟨congrArg Ending.returned (congrArg (Value.int IntKind.i64) ?_),rfl⟩)
 ·rw [Gt _ 56 (by omega) (by omega) (by omega) (by omega)]
  have e:(x/4294967296/65536/256).toNat=x.toNat/72057594037927936:=by omega
  have s:=Lib.bitLen_shift56 x.toNat (by omega) (by omega);rw [e];omega
 ·rw [Gt _ 48 (by omega) (by omega) (by omega) (by omega)]
  have e:(x/4294967296/65536).toNat=x.toNat/281474976710656:=by omega
  have s:=Lib.bitLen_shift48 x.toNat (by omega) (by omega);rw [e];omega
 ·rw [Gt _ 40 (by omega) (by omega) (by omega) (by omega)]
  have e:(x/4294967296/256).toNat=x.toNat/1099511627776:=by omega
  have s:=Lib.bitLen_shift40 x.toNat (by omega) (by omega);rw [e];omega
 ·rw [Gt _ 32 (by omega) (by omega) (by omega) (by omega)]
  have e:(x/4294967296).toNat=x.toNat/4294967296:=by omega
  have s:=Lib.bitLen_shift32 x.toNat (by omega) (by omega);rw [e];omega
 ·rw [Gt _ 24 (by omega) (by omega) (by omega) (by omega)]
  have e:(x/65536/256).toNat=x.toNat/16777216:=by omega
  have s:=Lib.bitLen_shift24 x.toNat (by omega) (by omega);rw [e];omega
 ·rw [Gt _ 16 (by omega) (by omega) (by omega) (by omega)]
  have e:(x/65536).toNat=x.toNat/65536:=by omega
  have s:=Lib.bitLen_shift16 x.toNat (by omega) (by omega);rw [e];omega
 ·rw [Gt _ 8 (by omega) (by omega) (by omega) (by omega)]
  have e:(x/256).toNat=x.toNat/256:=by omega
  have s:=Lib.bitLen_shift8 x.toNat (by omega) (by omega);rw [e];omega
 ·rw [Zm _ (by omega) (by omega)]
theorem NX:Lib.bitLen 0=0:=by decide +kernel
theorem MY (n:Nat) (h0:n≠0) (h:n<256):(Lib.bitLen n+7)/8=1:=by
 have:=Lib.bitLen_le8 ⟨n,h⟩;have h2:=Lib.bitLen_half n h0 (by omega);simp only at this
 omega
theorem dG (n:Nat) (h:n<18446744073709551616):(be n).length=(Lib.bitLen n+7)/8:=by
 induction n using Nat.strongRecOn with
 | _ n ih =>
   by_cases h0:n=0
   ·subst h0;rw [CY,NX];rfl
   ·rw [FF h0,List.length_append,List.length_singleton]
    by_cases hs:n<256
    ·rw [show n/256=0 by omega,CY,MY n h0 hs];rfl
    ·rw [ih (n/256) (by omega) (by omega),Lib.bitLen_shift8 n (by omega) h];omega
theorem Ae {w a b:World} (h:Below w.heap.size w a) (k:Below a.heap.size a b):Below w.heap.size w b:=h.trans (k.mono h.size)
theorem Jf {w a b:World} {g:Nat} (h:Below w.heap.size w a) (k:a.grownBy b (some g)) (hg:w.heap.size≤g):Below w.heap.size w b:=h.trans ⟨k.os,k.tape,k.output,k.size,fun i hi=>k.block i (Nat.lt_of_lt_of_le hi h.size) (by intro e;injection e with e;omega)⟩
theorem Below.drewN {B:Nat} {a w:World} (h:Below B a w) (n:Nat):Below B a (w.drewN n):=⟨h.os,h.tape,h.output,h.size,h.block⟩
theorem BI (w:World) (n:Nat):Below w.heap.size w (w.drewN n):=⟨rfl,rfl,rfl,Nat.le_refl _,fun _ _=>rfl⟩
def Blk (w:World) (g:Nat) (t:TypeId) (cs:Array Value):Prop:=w.heap[g]?=some (.cells cs t (0,0))
section
variable {w w':World} {g:Nat} {t:TypeId} {cs:Array Value}
theorem Blk.lt (h:Blk w g t cs):g<w.heap.size:=by
 rcases Nat.lt_or_ge g w.heap.size with hlt|hge
 ·exact hlt
 ·unfold Blk at h;rw [Array.getElem?_eq_none hge] at h;cases h
theorem Blk.cell (h:Blk w g t cs) (i:Nat):w.cell? ⟨g,i,none⟩=cs[i]?:=cell_of_row w g i cs t (0,0) h
theorem Blk.frozen (h:Blk w g t cs) (i:Nat):w.frozen? ⟨g,i,none⟩=false:=by
 unfold Blk at h;simp [World.frozen?,h]
theorem Blk.new (w:World) (t:TypeId) (cs:Array Value):Blk (w.alloc (.cells cs t)) w.heap.size t cs:=heap_alloc_new w _
theorem Blk.alloc (h:Blk w g t cs) (o:Obj):Blk (w.alloc o) g t cs:=(Below.heap_alloc w o g h.lt).trans h
theorem Blk.set_ (h:Blk w g t cs) (i:Nat) (u:Value):Blk (w.setCell ⟨g,i,none⟩ u) g t (cs.setIfInBounds i u):=by
 unfold Blk at h ⊢;simp [World.setCell,Array.getElem?_modify,h]
theorem Blk.far (h:Blk w g t cs) {p:Addr} (hp:g≠p.block) (u:Value):Blk (w.setCell p u) g t cs:=(Below.heap_setCell w p u g hp).trans h
theorem Blk.below {B:Nat} (h:Blk w g t cs) (hb:Below B w w') (hg:g<B):Blk w' g t cs:=(hb.block g hg).trans h
theorem Blk.grown {row:Option Nat} (h:Blk w g t cs) (hb:w.grownBy w' row) (hg:some g≠row):Blk w' g t cs:=(hb.block g h.lt hg).trans h
end
theorem BJ (w:World) (r:Option Nat):w.grownBy w r:=⟨rfl,rfl,rfl,Nat.le_refl _,fun _ _ _=>rfl⟩
theorem Kw {a b c:World} {r:Option Nat} (h:a.grownBy b r) (k:b.grownBy c r):a.grownBy c r :=
 ⟨k.os.trans h.os,k.tape.trans h.tape,k.output.trans h.output,Nat.le_trans h.size k.size,fun i hi hne=>(k.block i (Nat.lt_of_lt_of_le hi h.size) hne).trans (h.block i hi hne)⟩
theorem DS {a b c:World} {r:Option Nat} (h:a.grownBy b r) {B:Nat} (k:Below B b c) (hB:a.heap.size≤B):a.grownBy c r :=
 ⟨k.os.trans h.os,k.tape.trans h.tape,k.output.trans h.output,Nat.le_trans h.size k.size,fun i hi hne=>(k.block i (by omega)).trans (h.block i hi hne)⟩
theorem BO {a b:World} {g:Nat} (h:a.grownBy b (some g)) (i:Nat) (u:Value):a.grownBy (b.setCell ⟨g,i,none⟩ u) (some g) :=
 ⟨h.os,h.tape,h.output,by have:=h.size;simpa [World.setCell] using this,fun k hk hne=>(Below.heap_setCell b ⟨g,i,none⟩ u k (fun e=>hne (by rw [e]))).trans (h.block k hk hne)⟩
def Aa (w0 W:World):Prop:=W.os=w0.os∧W.tape=w0.tape∧W.output=w0.output∧w0.heap.size≤W.heap.size∧∀ i,i<w0.heap.size→W.heap[i]?=w0.heap[i]?
theorem Aa.refl (w:World):Aa w w:=⟨rfl,rfl,rfl,Nat.le_refl _,fun _ _=>rfl⟩
theorem Aa.below {w0 W:World} (h:Aa w0 W):Below w0.heap.size w0 W:=⟨h.1,h.2.1,h.2.2.1,h.2.2.2.1,h.2.2.2.2⟩
theorem Ad {w0 W:World} (h:Below w0.heap.size w0 W):Aa w0 W:=⟨h.os,h.tape,h.output,h.size,h.block⟩
theorem Aa.cell {w0 W:World} (h:Aa w0 W) {p:Addr} {v:Value} (hc:w0.cell? p=some v):W.cell? p=some v:=(h.below.cell (World.block_lt_of_cell? w0 _ hc)).trans hc
theorem Aa.after {a b c:World} (h:Aa b c) (k:Aa a b):Below a.heap.size a c:=Ae k.below h.below
theorem NY {P:Program} {f:FuncId} {args:Array Value} {w0 W:World} {x:Ending} (h:Calls P f args W fun e w'=>e=x∧Below W.heap.size W w') (hs:Aa w0 W) :
  Calls P f args W fun e w'=>e=x∧Aa w0 w' :=
 h.mono fun _ _ ⟨he,hb⟩=>⟨he,Ad (Ae hs.below hb)⟩
theorem Ff:(qP.info? 5).map (fun i=>(i.zero,i.size,i.bytes))=some (some (.int .u8 0),1,1):=by kernel_rfl
def cells (l:List UInt8):List Value:=l.map fun b=>Value.int .u8 b.toNat
theorem Cz (a b:List UInt8):cells (a++b)=cells a++cells b:=by simp [cells]
theorem Jg (a:List UInt8):(cells a).length=a.length:=by simp [cells]
theorem NZ (s:ByteArray):Lib.strCells s=cells s.data.toList:=rfl
theorem FG (w:World) (e:TypeId):Lib.OwnBuf w.heap.size e (.slice none 0 0) 0 [] w w :=
 ⟨World.ownsRowF_nil _ _ _ _,Below.refl _ _,Nat.le_refl _⟩
theorem CT (B:Nat) (v:Value) (l:List UInt8) (W0 w:World) (h:Lib.OwnBuf B 5 v l.length (cells l) W0 w) :
  (convert 121 9 v).run qP w=.ok (.string (bs l)) w:=by
 rcases h.1.2 with⟨rfl,hn⟩|⟨g,cap,cur,fz,rfl,_⟩
 ·have hl:l=[]:=List.eq_nil_of_length_eq_zero hn
  subst hl;exact run_convert_bytes_nil w 121 5 Tryz.underlying121 Tryz.underlying5 0 0 9 Tryz.underlying9
 ·refine run_convert_bytes_back w 121 9 5 ⟨g,0,none⟩ cap l Tryz.underlying121 Tryz.underlying5 Tryz.underlying9 ?_
  intro j hj;exact h.1.cells (g:=g) rfl j _ (by simp [cells,hj])
theorem ES {P:Program} {ops:Array Oper} {rest:List Oper} {o:Oper} {a:Act} {Q:Exit→Act→World→Prop} (hgd:o.guard=none) (s x:Operand) (t:TypeId)
  (ho:o.op=.call { callee:=.builtin .append,args:=#[s,x],argTypes:=#[t,t] })
  (B:Nat) (e:TypeId) (i:TypeInfo) (ht:P.underlying t=some (.slice e)) (hi:P.info? e=some i) (hz:i.zero=some (.int .u8 0)) (hsize:i.size=1) (hby:i.bytes=1)
  (v:Value) (n:Nat) (xs:List Value) (hs:a.eval s=v) (W0 w0:World) (c d:Int) (hb:Lib.OwnBuf B e v n xs W0 w0)
  (hx:a.eval x=.slice (some ⟨w0.heap.size,0,none⟩) 2 2) (hlen:n+2≤140737488355328)
  (h:∀ v' w',Lib.OwnBuf B e v' (n+2) (xs++[.int .u8 c,.int .u8 d]) W0 w'→wpList P ops Q rest (a.put o.dst v') w'):wpList P ops Q (o::rest) a (w0.alloc (.cells #[.int .u8 c,.int .u8 d] e)):=by
 have hb':=hb.alloc (.cells #[.int .u8 c,.int .u8 d] e);refine wpList_append_ownF _ hgd s x t ho B e i (.int .u8 0) 1 1 ht hi hz hsize hby rfl (by decide) v n xs hs hb'.1 ⟨w0.heap.size,0,none⟩ 2 2 [.int .u8 c,.int .u8 d] hx rfl ?_ ?_ (by unfold maxLen;omega) (by omega) hb'.2.2 ?_
 ·intro j u hj
  match j,hj with
  | 0,hj=>simp at hj;subst hj;simp [Addr.add]
  | 1,hj=>simp at hj;subst hj;simp [Addr.add]
  | (j+2),hj=>simp at hj
 ·intro u hu
  simp at hu
  rcases hu with rfl|rfl<;>rfl
 ·intro v' w' ho' hg _
  exact h v' w' (hb'.grown ho' hg)
theorem Uk (n:Nat) (h:n≤140737488355328) (w:World):(Instr.makeSlice 121 (.int .i64 0) (.int .i64 n)).run qP w=.ok (.slice (some ⟨w.heap.size,0,none⟩) 0 n) (w.alloc (.cells (madeCells (Value.int .u8 0).cells n) 5)):=by
 obtain⟨i0,hi,hz0,hz1,hz2⟩:=info_parts Ff;have hr:=run_make (P:=qP) w 121 5 i0 _ Tryz.underlying121 hi hz0 .i64 .i64 0 n (by omega) (by omega) (by rw [hz2];omega) (by omega);rw [hz1] at hr
 simpa using hr
theorem Oa (n:Nat) (h:n≤maxLen) (w:World):Lib.OwnBuf w.heap.size 5 (.slice (some ⟨w.heap.size,0,none⟩) 0 n) 0 [] w (w.alloc (.cells (madeCells (Value.int .u8 0).cells n) 5)):=by
 exact⟨World.ownsRowF_of (World.ownsRow_made w _ n (Nat.le_refl _) h (by rw [size_madeCells,Nat.mul_one])),(Below.refl _ _).alloc (Nat.le_refl _) _,by simp⟩
theorem Ob (n:Nat) (w:World) (hn:n≤9007199254740992) :
  Calls qP 157 #[.int .u64 n] w fun e w'=>∃ m:Nat,e=.returned (.int .i64 m)∧((m:Int)+7)/8=((be n).length:Nat)∧m≤64∧w=w':=by
 refine(bW n w (by omega) (by omega)).mono ?_;rintro e w' ⟨rfl,rfl⟩;have hL:=dG n (by omega);refine⟨Lib.bitLen n,by rw [Int.toNat_natCast],by rw [hL];omega,?_,rfl⟩;exact Lib.bitLen_le n 64 (by omega) (by omega)
def LR (n c j:Nat):List Value:=cells (UInt8.ofNat c::(be n).take j)
theorem Ul {n c j B k:Nat} {xs:List Value} {v:Value} {W0 w:World} {T:TypeId} (hc:(be n).length=c) (hj:j<c)
  (h:Lib.OwnBuf B T v (k+1+j+1) (xs++(LR n c j++[Value.int .u8 ((n:Int)/2 ^ (8*(c-1-j))%256)])) W0 w):Lib.OwnBuf B T v (k+1+(j+1)) (xs++LR n c (j+1)) W0 w:=by
 have e:LR n c (j+1)=LR n c j++[Value.int .u8 ((n:Int)/2 ^ (8*(c-1-j))%256)]:=by
  unfold LR;rw [Zl n j (by omega),←List.cons_append,Cz,hc]
  congr 1
  simp only [cells,List.map_cons,List.map_nil];rw [W.toNat_ofNat (Nat.mod_lt _ (by decide))]
  have hp:(256:Nat) ^ (c-1-j)=2 ^ (8*(c-1-j)):=by rw [Nat.pow_mul]
  rw [hp]
  congr 2
 rw [e];exact h
theorem VR {n j B k:Nat} {xs:List Value} {v:Value} {W0 w:World} {T:TypeId} (hc:(be n).length=j)
  (h:Lib.OwnBuf B T v (k+1+j) (xs++LR n j j) W0 w):Lib.OwnBuf B T v (k+(num n).length) (xs++cells (num n)) W0 w:=by
 have e1:k+(num n).length=k+1+j:=by rw [Di,hc];omega
 have e2:cells (num n)=LR n j j:=by
  unfold LR num;rw [hc,List.take_of_length_le (by omega)]
 rw [e1,e2];exact h
theorem Md (B:Nat) (v:Value) (k:Nat) (xs:List Value) (n:Nat) (W0 w:World) (h:Lib.OwnBuf B 5 v k xs W0 w) (hk:k≤70368744177664) (hn:n≤9007199254740992) :
  Calls qP 114 #[v,.int .i64 n] w fun e w'=>∃ v',e=.returned v'∧Lib.OwnBuf B 5 v' (k+(num n).length) (xs++cells (num n)) W0 w':=by
 obtain⟨i0,hi,hz0,hz1,hz2⟩:=info_parts Ff;have hle:=Cr n 7 (by omega);have hc:=Ob n w hn;obtain⟨c,hcc⟩:∃ c,(be n).length=c:=⟨_,rfl⟩;rw [hcc] at hc hle;have HC:=qH hcc;have HL:=qH hc;clear hc hcc;go_enter Tryz.func114,Tryz.ntmps114
 go_wp2_with fail
 refine HL.out.mono ?_;rintro e w' ⟨m,rfl,hm,hm64,rfl⟩
 go_wp2_with (at_builtin;refine Lib.wpList_append_byte rfl _ _ 121 rfl B 5 i0 Tryz.underlying121 hi hz0 hz1 hz2 v k xs rfl W0 w _ h rfl (by omega) ?_)
 intro v1 w1 h1;go_wp2
 go_loopw [0,6] (fun v i wr=>∃ j:Nat,j≤c∧i=.int .i64 ((c:Int)-1-j)∧Lib.OwnBuf B 5 v (k+1+j) (xs++LR n c j) W0 wr) (fun _ i _=>(intOf i+1).toNat)
 case atStart=>exact⟨0,Nat.zero_le _,by simp,by simpa [LR,cells,W.toNat_ofNat (show c<256 by omega)] using h1⟩
 case round =>
  obtain⟨j,hj,rfl,hown⟩:=hrel;by_cases hlt:j<c
  ·go_wp2_with (at_builtin;go_must (refine Lib.wpList_append_byte rfl _ _ 121 rfl B 5 i0 Tryz.underlying121 hi hz0 hz1 hz2 u0 (k+1+j) _ rfl W0 wr _ hown rfl (by omega) ?_))
   intro v2 w2 h2;have R:=Ul (n:=n) (c:=c) (j:=j) HC.out hlt h2;clear h2 hown;go_wp2
   go_roundw
   case rel=>exact⟨j+1,by omega,by go_num,R⟩
   case measure=>simp [intOf];omega
  ·obtain rfl:j=c:=by omega
   have R:=VR HC.out hown;clear hown;go_wp2
   go_ret
   exact⟨_,rfl,R⟩
theorem QA (B:Nat) (v:Value) (k:Nat) (xs:List Value) (s:ByteArray) (W0 w:World) (h:Lib.OwnBuf B 5 v k xs W0 w) (hk:k≤70000000000000) (hs:s.size≤65536) :
  Calls qP 111 #[v,.string s] w fun e w'=>∃ v',e=.returned v'∧Lib.OwnBuf B 5 v' (k+(Cd s.data.toList).length) (xs++cells (Cd s.data.toList)) W0 w':=by
 obtain⟨i0,hi,hz0,hz1,hz2⟩:=info_parts Ff;have HA:=qH (Md B v k xs s.size W0 w h (by omega) (by omega));have hle:=Cr s.size 7 (by omega);go_enter Tryz.func111,Tryz.ntmps111
 go_wp2_with fail
 refine HA.out.mono ?_;rintro e w1 ⟨v1,rfl,h1⟩;have hln:=Di s.size
 go_wp2_with (at_builtin;go_must (refine Lib.wpList_append_text rfl _ _ 121 9 rfl B 5 i0 Tryz.underlying121 Tryz.underlying9 hi hz0 hz1 hz2 v1 _ _ rfl W0 h1 s rfl (by omega) ?_))
 intro v2 w2 h2
 have R:Lib.OwnBuf B 5 v2 (k+(Cd s.data.toList).length) (xs++cells (Cd s.data.toList)) W0 w2:=by
  unfold Cd;rw [Cz,←List.append_assoc,List.length_append,Ah,←Nat.add_assoc]
  simpa [NZ,Di] using h2
 clear h2 h1;go_wp2
 go_ret
 exact⟨_,rfl,R⟩
def AP (p:List UInt8×Int):Value:=.tuple #[.string (bs p.1),.int .i64 p.2]
def Ag (n:Int):List UInt8×Int:=if 0≤n∧n≤9007199254740992 then (num n.toNat,0) else ([],3)
def Ai (s:ByteArray):List UInt8×Int:=if s.size≤65536 then (Cd s.data.toList,0) else ([],4)
def BV (l:List ByteArray):List UInt8×Int:=if l.length≤256∧∀ s ∈ l,s.size≤65536 then (join (l.map fun s=>s.data.toList),0) else ([],4)
theorem QB (n:Int) (w:World) :
  Calls qP 65 #[.int .i64 n] w fun e w'=>e=.returned (AP (Ag n))∧Below w.heap.size w w':=by
 by_cases h0:0≤n
 ·by_cases h1:n≤9007199254740992
  ·obtain⟨m,rfl⟩:=Int.eq_ofNat_of_zero_le h0
   have HE:=qH (show Ag m=(num m,0) by simp [Ag,h1]);have HA:=qH (Md w.heap.size (.slice none 0 0) 0 [] m w w (FG w _) (by omega) (by omega));go_enter Tryz.func65,Tryz.ntmps65
   go_wp2_with fail
   refine HA.out.mono ?_;rintro e w1 ⟨v1,rfl,h2⟩;have hs:=CT w.heap.size v1 (num m) w w1 (by simpa using h2);go_wp2
   go_ret2
   exact⟨by rw [HE.out];rfl,h2.2.1⟩
  ·have HE:=qH (show Ag n=([],3) by simp [Ag,h1])
   go_enter Tryz.func65,Tryz.ntmps65;go_wp2
   go_ret2
   exact⟨by rw [HE.out];rfl,Below.refl _ _⟩
 ·have HE:=qH (show Ag n=([],3) by simp [Ag,h0])
  go_enter Tryz.func65,Tryz.ntmps65;go_wp2
  go_ret2
  exact⟨by rw [HE.out];rfl,Below.refl _ _⟩
theorem Kx (s:ByteArray) (w:World) :
  Calls qP 62 #[.string s] w fun e w'=>e=.returned (AP (Ai s))∧Below w.heap.size w w':=by
 by_cases h1:s.size≤65536
 ·have HE:=qH (show Ai s=(Cd s.data.toList,0) by simp [Ai,h1])
  have HA:=qH (QA w.heap.size (.slice none 0 0) 0 [] s w w (FG w _) (by omega) (by omega));go_enter Tryz.func62,Tryz.ntmps62
  go_wp2_with fail
  refine HA.out.mono ?_;rintro e w1 ⟨v1,rfl,h2⟩;have hs:=CT w.heap.size v1 (Cd s.data.toList) w w1 (by simpa using h2);go_wp2
  go_ret2
  exact⟨by rw [HE.out];rfl,h2.2.1⟩
 ·have HE:=qH (show Ai s=([],4) by simp [Ai,h1])
  go_enter Tryz.func62,Tryz.ntmps62;go_wp2
  go_ret2
  exact⟨by rw [HE.out];rfl,Below.refl _ _⟩
end Go.Proofs.YtkejaepmoabikaaGreatDoor.W
namespace Go.Proofs.YtkejaepmoabikaaGreatDoor.W
open List renaming set_cons_zero → qE
def Ar (s p:List UInt8×Int):List UInt8×Int:=if s.2≠0 then ([],s.2) else if p.2≠0 then ([],p.2) else (s.1++p.1,0)
def Ky (s p:List UInt8×Int):List UInt8×Int:=if s.2≠0 then s else (s.1++p.1,p.2)
def fin (s:List UInt8×Int):List UInt8×Int:=if s.2≠0 then ([],s.2) else s
theorem VS (s p:List UInt8×Int):fin (Ky s p)=Ar (fin s) p:=by
 unfold fin Ky Ar;by_cases h:s.2=0
 ·simp only [h,ne_eq,not_true_eq_false,if_false]
  by_cases h2:p.2=0<;>simp [h2]
 ·simp [h]
theorem Is (l:List (List UInt8×Int)):∀ s,fin (l.foldl Ky s)=l.foldl Ar (fin s):=by
 induction l with
 | nil=>intro s;rfl
 | cons p l ih=>intro s;rw [List.foldl_cons,List.foldl_cons,ih,VS]
theorem Kz {s p:List UInt8×Int} (h:s.2≠0):Ar s p=([],s.2):=by unfold Ar;rw [if_pos h]
theorem Oc (l:List (List UInt8×Int)) {e:Int} (h:e≠0):l.foldl Ar ([],e)=([],e):=by
 induction l with
 | nil=>rfl
 | cons p l ih=>rw [List.foldl_cons,Kz h,ih]
theorem Me {s p:List UInt8×Int} (h:(Ar s p).2≠0):(Ar s p).1=[]:=by
 unfold Ar at h ⊢
 split
 ·rfl
 ·split
  ·rfl
  ·rename_i h1 h2
   rw [if_neg h1,if_neg h2] at h;simp at h
theorem Sy:∀(l:List (List UInt8×Int)) (a:List UInt8),(∀ p ∈ l,p.2=0)→l.foldl Ar (a,0)=(a++(l.map Prod.fst).flatten,0)
 | [],a,_=>by simp
 | p::l,a,h=>by
   rw [List.foldl_cons]
   have h1:Ar (a,0) p=(a++p.1,0):=by unfold Ar;simp [h p (by simp)]
   rw [h1,Sy l _ (fun q hq=>h q (by simp [hq]))];simp
theorem AZ (s p:List UInt8×Int):(Ar s p).1.length≤s.1.length+p.1.length:=by
 unfold Ar
 split
 ·simp
 ·split
  ·simp
  ·simp
theorem It {s p:List UInt8×Int} (h:(Ar s p).2=0):s.2=0∧p.2=0∧Ar s p=(s.1++p.1,0):=by
 unfold Ar at h ⊢;by_cases h1:s.2=0
 ·by_cases h2:p.2=0
  ·simp [h1,h2]
  ·rw [if_neg (by simp [h1]),if_pos h2] at h
   exact absurd h h2
 ·rw [if_pos h1] at h
  exact absurd h h1
theorem Au (n:Int):(Ag n).1.length≤8:=by
 unfold Ag
 split
 ·rename_i h
  have:=Cr n.toNat 7 (by omega)
  show(num n.toNat).length≤8
  rw [Di]
  omega
 ·exact Nat.zero_le _
theorem AF (s:ByteArray):(Ai s).1.length≤65544:=by
 unfold Ai
 split
 ·rename_i h
  have:=Cr s.data.toList.length 7 (by rw [Ah];omega)
  show(num s.data.toList.length++s.data.toList).length≤65544
  rw [List.length_append,Di,Ah] at *
  omega
 ·exact Nat.zero_le _
def BH (a b:Nat):Nat:=(a+b)%4294967296
def CI (a b:Nat):Nat:=(a ^^^ b)%4294967296
def FH (a b:Nat):Nat:=(a &&& b)%4294967296
def wor (a b:Nat):Nat:=(a ||| b)%4294967296
def QC (a:Nat):Nat:=(4294967295 ^^^ a)%4294967296
def Hp (a n:Nat):Nat:=(a*2 ^ n)%4294967296
def KB (a n:Nat):Nat:=a/2 ^ n
def By (a n:Nat):Nat:=wor (Hp a (32-n)) (KB a n)
def sg0 (x:Nat):Nat:=CI (CI (By x 7) (By x 18)) (KB x 3)
def sg1 (x:Nat):Nat:=CI (CI (By x 17) (By x 19)) (KB x 10)
def SG1 (e:Nat):Nat:=CI (CI (By e 6) (By e 11)) (By e 25)
def SG0 (a:Nat):Nat:=CI (CI (By a 2) (By a 13)) (By a 22)
def ch (e f g:Nat):Nat:=CI (FH e f) (FH (QC e) g)
def maj (a b c:Nat):Nat:=CI (CI (FH a b) (FH a c)) (FH b c)
theorem Zn (a n:Nat):Hp a n<4294967296:=Nat.mod_lt _ (by decide)
theorem Um (a b:Nat):BH a b=BH b a:=by unfold BH;rw [Nat.add_comm]
theorem VT (a b:Nat):wor a b=wor b a:=by unfold wor;rw [Nat.or_comm]
theorem VU (a:Nat) (h:a<4294967296):wor a 0=a:=by unfold wor;rw [Nat.or_zero];exact Nat.mod_eq_of_lt h
theorem gH (a b c d:Nat):BH (BH (BH d b) c) a=BH (BH (BH a b) c) d:=by unfold BH;omega
def nth (l:List Nat) (i:Nat):Nat:=l.getD i 0
theorem QD (l:List Nat) (i:Nat) (h:i<l.length):l[i]?=some (nth l i):=by
 unfold nth;rw [List.getD_eq_getElem?_getD,List.getElem?_eq_getElem h,Option.getD_some]
theorem Iu (l:List Nat) (i v:Nat) (h:i<l.length):nth (l.set i v) i=v:=by
 unfold nth;rw [List.getD_eq_getElem?_getD,List.getElem?_set_self h,Option.getD_some]
theorem Hs (l:List Nat) (i j v:Nat) (h:i≠j):nth (l.set i v) j=nth l j:=by
 unfold nth;rw [List.getD_eq_getElem?_getD,List.getD_eq_getElem?_getD,List.getElem?_set_ne h]
theorem Zo {a b:List Nat} (hl:a.length=b.length) (h:∀ i,i<a.length→nth a i=nth b i):a=b:=by
 apply List.ext_getElem?
 intro i;by_cases hi:i<a.length
 ·rw [QD a i hi,QD b i (by omega),h i hi]
 ·rw [List.getElem?_eq_none (by omega),List.getElem?_eq_none (by omega)]
def Ic (l:List UInt8) (i:Nat):Nat:=(l.getD i 0).toNat
theorem Un (s:ByteArray) (i:Nat) (h:i<s.size):Ic s.data.toList i=(s[i]).toNat:=by
 unfold Ic;rw [List.getD_eq_getElem?_getD,List.getElem?_eq_getElem (by simpa using h),Option.getD_some]
 rfl
theorem QE (s:ByteArray) (i:Nat) (h:s.size≤i):Ic s.data.toList i=0:=by
 unfold Ic;rw [List.getD_eq_getElem?_getD,List.getElem?_eq_none (by simpa using h),Option.getD_none]
 rfl
def Dw (l:List UInt8) (p:Nat):Nat→Nat
 | 0=>0
 | k+1=>wor (Hp (Dw l p k) 8) (Ic l (p+k))
def VV (ws:List Nat) (t:Nat):Nat:=BH (BH (BH (sg1 (nth ws (t-2))) (nth ws (t-7))) (sg0 (nth ws (t-15)))) (nth ws (t-16))
def EA (l:List UInt8) (ws:List Nat) (t:Nat):Nat:=if t<16 then Dw l (4*t) 4 else VV ws t
def arr (l:List UInt8):Nat→List Nat
 | 0=>List.replicate 64 0
 | t+1=>(arr l t).set t (EA l (arr l t) t)
theorem DT (l:List UInt8) (t:Nat):(arr l t).length=64:=by
 induction t with
 | zero=>simp [arr]
 | succ t ih=>simp [arr,ih]
def VW (l:List Nat):Prop:=∀ i,nth l i<4294967296
theorem VW.set {l:List Nat} (h:VW l) (i v:Nat) (hv:v<4294967296):VW (l.set i v):=by
 intro j;by_cases e:i=j
 ·subst e
  by_cases hi:i<l.length
  ·rw [Iu l i v hi];exact hv
  ·rw [List.set_eq_of_length_le (by omega)];exact h i
 ·rw [Hs l i j v e];exact h j
structure Reg where
 (a b c d e f g h:Nat)
deriving DecidableEq
def Reg.list (r:Reg):List Nat:=[r.a,r.b,r.c,r.d,r.e,r.f,r.g,r.h]
def Ej (l:List Nat):Reg:=⟨nth l 0,nth l 1,nth l 2,nth l 3,nth l 4,nth l 5,nth l 6,nth l 7⟩
theorem QF {l:List Nat} (h:l.length=8):(Ej l).list=l:=by
 match l,h with
 | [a,b,c,d,e,f,g,i],_=>rfl
def kk:List Nat:=[
 0x428a2f98,0x71374491,0xb5c0fbcf,0xe9b5dba5,0x3956c25b,0x59f111f1,0x923f82a4,0xab1c5ed5,
 0xd807aa98,0x12835b01,0x243185be,0x550c7dc3,0x72be5d74,0x80deb1fe,0x9bdc06a7,0xc19bf174,
 0xe49b69c1,0xefbe4786,0x0fc19dc6,0x240ca1cc,0x2de92c6f,0x4a7484aa,0x5cb0a9dc,0x76f988da,
 0x983e5152,0xa831c66d,0xb00327c8,0xbf597fc7,0xc6e00bf3,0xd5a79147,0x06ca6351,0x14292967,
 0x27b70a85,0x2e1b2138,0x4d2c6dfc,0x53380d13,0x650a7354,0x766a0abb,0x81c2c92e,0x92722c85,
 0xa2bfe8a1,0xa81a664b,0xc24b8b70,0xc76c51a3,0xd192e819,0xd6990624,0xf40e3585,0x106aa070,
 0x19a4c116,0x1e376c08,0x2748774c,0x34b0bcb5,0x391c0cb3,0x4ed8aa4a,0x5b9cca4f,0x682e6ff3,
 0x748f82ee,0x78a5636f,0x84c87814,0x8cc70208,0x90befffa,0xa4506ceb,0xbef9a3f7,0xc67178f2]
def up (k w:Nat) (r:Reg):Nat:=BH (BH (BH (BH r.h (SG1 r.e)) (ch r.e r.f r.g)) k) w
def kC (r:Reg):Nat:=BH (SG0 r.a) (maj r.a r.b r.c)
def rnd (k w:Nat) (r:Reg):Reg:=⟨BH (up k w r) (kC r),r.a,r.b,r.c,BH r.d (up k w r),r.e,r.f,r.g⟩
def rds (ws:List Nat) (r:Reg):Nat→Reg
 | 0=>r
 | t+1=>rnd (nth kk t) (nth ws t) (rds ws r t)
def Cs (h v:List Nat):Nat→List Nat
 | 0=>h
 | i+1=>(Cs h v i).set i (BH (nth (Cs h v i) i) (nth v i))
theorem CZ (h v:List Nat) (i:Nat):(Cs h v i).length=h.length:=by
 induction i with
 | zero=>rfl
 | succ i ih=>simp [Cs,ih]
theorem Od (h v:List Nat) (i j:Nat) (hj:j<h.length):nth (Cs h v i) j=if j<i then BH (nth h j) (nth v j) else nth h j:=by
 induction i with
 | zero=>simp [Cs]
 | succ i ih =>
   show nth ((Cs h v i).set i (BH (nth (Cs h v i) i) (nth v i))) j=_
   by_cases e:i=j
   ·subst e
    rw [Iu _ _ _ (by rw [CZ];exact hj),ih,if_neg (by omega),if_pos (by omega)]
   ·rw [Hs _ _ _ _ e,ih]
    by_cases hlt:j<i
    ·rw [if_pos hlt,if_pos (by omega)]
    ·rw [if_neg hlt,if_neg (by omega)]
theorem QG (h v:List Nat) (hh:h.length=8) (hv:v.length=8):Cs v h 8=Cs h v 8:=by
 refine Zo (by rw [CZ,CZ,hh,hv]) fun i hi=>?_;rw [CZ,hv] at hi;rw [Od v h 8 i (by omega),Od h v 8 i (by omega),if_pos hi,if_pos hi,Um]
def blk (h:List Nat) (l:List UInt8):List Nat:=Cs h (rds (arr l 64) (Ej h) 64).list 8
theorem MZ (h:List Nat) (l:List UInt8) (hh:h.length=8):(blk h l).length=8:=by unfold blk;rw [CZ,hh]
def zs (n:Nat):Nat:=(119-n%64)%64
def by8 (m:Nat):Nat→List UInt8
 | 0=>[]
 | i+1=>by8 m i++[UInt8.ofNat (m/2 ^ (56-8*i)%256)]
theorem Sz (m i:Nat):(by8 m i).length=i:=by
 induction i with
 | zero=>rfl
 | succ i ih=>simp [by8,ih]
def Gu (n:Nat):List UInt8:=128::List.replicate (zs n) 0++by8 (n*8%18446744073709551616) 8
theorem Fn (n:Nat):(Gu n).length=9+zs n:=by simp [Gu,Sz];omega
theorem Mf (n:Nat):zs n<64:=Nat.mod_lt _ (by decide)
theorem Oe (n:Nat):(n+(Gu n).length)%64=0:=by rw [Fn];unfold zs;omega
def Gv:List Nat:=[0x6a09e667,0xbb67ae85,0x3c6ef372,0xa54ff53a,0x510e527f,0x9b05688c,0x1f83d9ab,0x5be0cd19]
def Gw (p:List UInt8):Nat→List Nat
 | 0=>Gv
 | k+1=>blk (Gw p k) ((p.drop (64*k)).take 64)
theorem Fo (p:List UInt8) (k:Nat):(Gw p k).length=8:=by
 induction k with
 | zero=>rfl
 | succ k ih=>exact MZ _ _ ih
def by4 (x:Nat):List UInt8:=[UInt8.ofNat (x/16777216%256),UInt8.ofNat (x/65536%256),UInt8.ofNat (x/256%256),UInt8.ofNat (x%256)]
def DG (h:List Nat):Nat→List UInt8
 | 0=>[]
 | i+1=>DG h i++by4 (nth h i)
theorem Jh (h:List Nat) (i:Nat):(DG h i).length=4*i:=by
 induction i with
 | zero=>rfl
 | succ i ih=>simp [DG,by4,ih];omega
def Dc (l:List UInt8):List UInt8:=l++Gu l.length
theorem KC (l:List UInt8):(Dc l).length=64*((Dc l).length/64):=by
 have h:=Oe l.length
 have e:(Dc l).length=l.length+(Gu l.length).length:=by simp [Dc]
 omega
def Ax (l:List UInt8):List UInt8:=DG (Gw (Dc l) ((Dc l).length/64)) 8
theorem Bc (l:List UInt8):(Ax l).length=32:=Jh _ _
def Gj (k:List UInt8):List UInt8:=if 64<k.length then Ax k else k
def FI (k:List UInt8):List UInt8:=k++List.replicate (64-k.length) 0
def mix (x:UInt8) (l:List UInt8):List UInt8:=l.map fun c=>c ^^^ x
def Ht (k s:List UInt8):List UInt8:=Ax (mix 92 (FI (Gj k))++Ax (mix 54 (FI (Gj k))++s))
theorem Mg (k:List UInt8):(Gj k).length≤64:=by
 unfold Gj
 split
 ·rw [Bc];omega
 ·omega
theorem KF (k:List UInt8) (h:64<k.length):Gj k=Ax k:=by unfold Gj;rw [if_pos h]
theorem JL (k:List UInt8) (h:k.length≤64):Gj k=k:=by unfold Gj;rw [if_neg (by omega)]
theorem Gx (k:List UInt8) (h:k.length≤64):(FI k).length=64:=by simp [FI];omega
theorem ET (x:UInt8) (l:List UInt8):(mix x l).length=l.length:=by simp [mix]
theorem Uo (k s:List UInt8):(Ht k s).length=32:=Bc _
theorem Zp (k:List UInt8) (i:Nat) (h:i<k.length):(FI k)[i]?=some k[i]:=by
 unfold FI;rw [List.getElem?_append_left h,List.getElem?_eq_getElem h]
theorem VX (k:List UInt8) (i:Nat) (h:k.length≤i) (hi:i<64):(FI k)[i]?=some 0:=by
 unfold FI;rw [List.getElem?_append_right h,List.getElem?_replicate,if_pos (by omega)]
def Hu (f:List UInt8) (x:UInt8) (i:Nat):List UInt8:=mix x (f.take i)++f.drop i
theorem Uq (f:List UInt8) (x:UInt8):Hu f x 0=f:=by simp [Hu,mix]
theorem VY (f:List UInt8) (x:UInt8) (i:Nat) (h:f.length≤i):Hu f x i=mix x f:=by
 unfold Hu;rw [List.take_of_length_le h,List.drop_eq_nil_of_le h,List.append_nil]
theorem Zq (f:List UInt8) (x:UInt8) (i:Nat) (h:i<f.length):(Hu f x i)[i]?=some f[i]:=by
 unfold Hu;rw [List.getElem?_append_right (by simp [mix];omega),ET,List.length_take,Nat.min_eq_left (by omega),List.getElem?_drop,Nat.sub_self,Nat.add_zero,List.getElem?_eq_getElem h]
theorem Ur (f:List UInt8) (x:UInt8) (i:Nat) (h:i<f.length):(Hu f x i).set i (f[i] ^^^ x)=Hu f x (i+1):=by
 have e:(mix x (f.take i)).length=i:=by rw [ET,List.length_take];omega
 unfold Hu;rw [List.set_append_right _ _ (by omega),e,Nat.sub_self,List.drop_eq_getElem_cons h,qE,List.take_succ_eq_append_getElem h];unfold mix;rw [List.map_append,List.append_assoc]
 rfl
theorem VZ (f:List UInt8) (x:UInt8) (i:Nat) (h:i<f.length):mix x (f.take (i+1))=mix x (f.take i)++[f[i] ^^^ x]:=by
 rw [List.take_succ_eq_append_getElem h];unfold mix;rw [List.map_append]
 rfl
end Go.Proofs.YtkejaepmoabikaaGreatDoor.W
namespace Go.Proofs.YtkejaepmoabikaaGreatDoor.W
open Go.RowKit
open Lib renaming hid → qH
open _root_.Go.Proofs.Tryz renaming prog → qP
set_option maxHeartbeats 2000000
set_option maxRecDepth 1000000
theorem dH (a b:Nat) (ha:a<4611686018427387904) (hb:b<4611686018427387904):bits .or .i64 (a:Int) (b:Int)=((a ||| b:Nat):Int):=by
 have hx:a ||| b<2 ^ 62:=Nat.or_lt_two_pow (by omega) (by omega)
 have h1:(BitVec.ofInt 64 (a:Int)).toNat=a:=by
  rw [BitVec.ofInt_natCast,BitVec.toNat_ofNat];exact Nat.mod_eq_of_lt (by omega)
 have h2:(BitVec.ofInt 64 (b:Int)).toNat=b:=by
  rw [BitVec.ofInt_natCast,BitVec.toNat_ofNat];exact Nat.mod_eq_of_lt (by omega)
 show IntKind.i64.wrap ((BitVec.ofInt 64 (a:Int) ||| BitVec.ofInt 64 (b:Int)).toNat:Int)=_
 rw [BitVec.toNat_or,h1,h2,IntKind.wrap_i64]
 omega
theorem SA (m:Nat) (b:UInt8) (hm:m<281474976710656):bits .or .i64 ((m:Int)*256) (wrap64 (b.toNat:Int))=((m*256+b.toNat:Nat):Int):=by
 have hb:=b.toNat_lt
 rw [show(m:Int)*256=((m*256:Nat):Int) by omega,show wrap64 (b.toNat:Int)=(b.toNat:Int) by simp only [wrap64];omega,
  dH _ _ (by omega) (by omega),nat_join8 _ _ (by omega) (by omega)]
theorem Wb (b:UInt8):bits .or .i64 0 (wrap64 (b.toNat:Int))=((b.toNat:Nat):Int):=by
 have h:=SA 0 b (by omega)
 simpa using h
theorem Of (d:ByteArray) (k:Nat) (h:k<d.size):val (d.data.toList.take (k+1))=val (d.data.toList.take k)*256+d[k].toNat:=by
 rw [List.take_succ_eq_append_getElem (by rw [Ah];exact h),Gs]
 rfl
theorem Us (d:ByteArray) (k:Nat) (hk:k<7):val (d.data.toList.take k)<281474976710656:=by
 refine Nat.lt_of_lt_of_le (Qz _) ?_
 have:(d.data.toList.take k).length≤6:=by rw [List.length_take];omega
 exact Nat.le_trans (Nat.pow_le_pow_right (by decide) this) (by decide)
theorem Ut (d:ByteArray) (w:World) (hd:d.size≤7) :
  Calls qP 136 #[.string d] w fun e w'=>e=.returned (.int .i64 (val d.data.toList))∧w=w':=by
 go_enter Tryz.func136,Tryz.ntmps136;go_wp2;refine wp_scope_jumps 0 (fun a' w'=>w'=w∧∃(k:Nat) (u5 u6 u7 u8 u9 u10 u11 u12 u13 u14 u15 u16 u17 u18:Value),a'={ tmps:=#[.string d,undef,.int .i64 0,.int .i64 (val (d.data.toList.take k)),.int .i64 k,u5,u6,u7,u8,u9,u10,u11,u12,u13,u14,u15,u16,u17,u18],defers:=[] }∧k≤d.size) (fun a' _=>d.size-(intOf (a'.tmps.getD 4 undef)).toNat) rfl ?_ ?_
 ·by_cases h0:0<d.size
  ·have hv:=Of d 0 h0
   rw [List.take_zero,Ir,Nat.zero_mul,Nat.zero_add] at hv;rw [Nat.zero_add] at hv;have HV:=qH hv;clear hv;go_wp2
   go_step3
   go_wp2
   go_step3
   rw [Wb d[0],←HV.out];exact⟨rfl,rfl,1,_,_,_,_,_,_,_,_,_,_,_,_,_,_,rfl,by omega⟩
  ·go_wp2
   go_step3
   go_wp2;simp only [Exit.jump]
   go_ret
   refine⟨?_,rfl⟩;have e:d.data.toList=[]:=List.eq_nil_of_length_eq_zero (by rw [Ah];omega);rw [e]
   rfl
 ·rintro a' w' ⟨rfl,k,u5,u6,u7,u8,u9,u10,u11,u12,u13,u14,u15,u16,u17,u18,rfl,hk⟩
  by_cases hlt:k<d.size
  ·have hv:=Us d k (by omega)
   have HV:=qH (Of d k hlt);generalize val (d.data.toList.take k)=m at *;go_wp2
   go_step3
   rw [SA m d[k] hv,←HV.out];refine⟨rfl,⟨rfl,k+1,_,_,_,_,_,_,_,_,_,_,_,_,_,_,rfl,by omega⟩,?_⟩;simp [intOf]
   omega
  ·obtain rfl:k=d.size:=by omega
   rw [show d.data.toList.take d.size=d.data.toList from List.take_of_length_le (by rw [Ah];omega)];go_wp2;simp only [Exit.jump]
   go_ret
   exact⟨rfl,rfl⟩
def dec:List UInt8→Nat×Nat×Int
 | []=>(0,0,5)
 | k::d =>
   if 7<k.toNat then (0,0,6) else if 0<k.toNat∧d.head?=some 0 then (0,0,6) else if d.length<k.toNat then (0,0,5)
   else if 9007199254740992<val (d.take k.toNat) then (0,0,3) else (val (d.take k.toNat),1+k.toNat,0)
def Ji (p:Nat×Nat×Int):Value:=.tuple #[.int .i64 p.1,.int .i64 p.2.1,.int .i64 p.2.2]
theorem Gy (s:ByteArray) (h:s.size=0):s.toList.isEmpty=true:=by
 rw [ByteArray.toList_eq,List.isEmpty_iff];exact List.eq_nil_of_length_eq_zero (by rw [Ah];exact h)
theorem Ca (s:ByteArray) (h:0<s.size):s.toList.isEmpty=false:=by
 rw [ByteArray.toList_eq,Bool.eq_false_iff];intro e;rw [List.isEmpty_iff] at e;have:=Ah s;rw [e] at this;simp at this
 omega
theorem FJ (s:ByteArray) (a b:Nat):(s.extract a b).data.toList=(s.data.toList.drop a).take (b-a):=by
 have h:=ByteArray.extract_mk s.data.toList a b
 have e:s=ByteArray.mk s.data.toList.toArray:=by cases s;simp
 conv=>lhs;rw [e]
 rw [h]
theorem Iv (s:ByteArray):(s.extract 1 s.size).size=s.size-1:=by
 rw [←Ah,FJ,List.length_take,List.length_drop,Ah];omega
theorem Kk (s:ByteArray) (h:0<s.size):s.data.toList=s[0]::(s.extract 1 s.size).data.toList:=by
 rw [FJ,List.take_of_length_le (by rw [List.length_drop,Ah];omega),List.drop_one]
 have hne:s.data.toList≠[]:=by intro e;have:=Ah s;rw [e] at this;simp at this;omega
 have e:s[0]=s.data.toList.head hne:=by rw [List.head_eq_getElem];rfl
 rw [e,List.cons_head_tail]
theorem SC (d:ByteArray) (h:0<d.size):d.data.toList.head?=some d[0]:=by rw [Kk d h];rfl
theorem Iw (d:ByteArray) (k:Nat):(d.extract 0 k).data.toList=d.data.toList.take k:=by rw [FJ];simp
section
variable {s:ByteArray} (h0:0<s.size)
include h0
theorem SD (h:7<s[0].toNat):dec s.data.toList=(0,0,6):=by
 rw [Kk s h0,dec,if_pos h]
theorem Og (h:¬7<s[0].toNat) (h1:0<s[0].toNat) (h2:0<(s.extract 1 s.size).size) (h3:(s.extract 1 s.size)[0].toNat=0):dec s.data.toList=(0,0,6):=by
 rw [Kk s h0,dec,if_neg h,if_pos];refine⟨h1,?_⟩;rw [SC _ h2];exact congrArg some (UInt8.toNat_inj.1 (by simpa using h3))
theorem Oh (h:¬7<s[0].toNat) (h1:0<s[0].toNat→∀ h2:0<(s.extract 1 s.size).size,(s.extract 1 s.size)[0].toNat≠0) :
  dec s.data.toList=if s.size-1<s[0].toNat then (0,0,(5:Int)) else if 9007199254740992<val ((s.extract 1 s.size).extract 0 s[0].toNat).data.toList then (0,0,(3:Int)) else (val ((s.extract 1 s.size).extract 0 s[0].toNat).data.toList,1+s[0].toNat,(0:Int)):=by
 rw [Kk s h0,dec,if_neg h,if_neg,Ah,Iv,Iw];rintro⟨h2,h3⟩;by_cases hp:0<(s.extract 1 s.size).size
 ·rw [SC _ hp] at h3
  refine h1 h2 hp ?_;rw [Option.some.inj h3]
  rfl
 ·rw [List.eq_nil_of_length_eq_zero (show(s.extract 1 s.size).data.toList.length=0 by rw [Ah];omega)] at h3
  cases h3
end
theorem EU {a:Nat×Nat×Int} {b:Nat×Nat×Int} (h:a=b):Ending.returned (Ji b)=Ending.returned (Ji a):=by rw [h]
theorem KG (s:ByteArray) (w:World) (hm:s.size≤9223372036854775807) (h0:0<s.size) (h7:¬7<s[0].toNat)
  (h1:0<s[0].toNat→∀ h2:0<(s.extract 1 s.size).size,(s.extract 1 s.size)[0].toNat≠0) :
  Calls qP 88 #[.string s] w fun e w'=>e=.returned (Ji (dec s.data.toList))∧Below w.heap.size w w':=by
 have hE:=Ca s h0;have hk:=s[0].toNat_lt;have HX:=qH (Iv s);have HD:=qH (Oh h0 h7 h1);by_cases hc:s.size-1<s[0].toNat
 ·have HD2:=qH (show dec s.data.toList=(0,0,(5:Int)) by rw [HD.out,if_pos hc])
  clear HD;by_cases hp:0<(s.extract 1 s.size).size
  ·have hne:=Ca _ hp
   have hne2:¬(s.extract 1 s.size).toList=[]:=by intro e;rw [e] at hne;cases hne
   have hz:((((s.extract 1 s.size)[0]'hp).toNat:Int)==0)=false:=beq_eq_false_iff_ne.2 (by have:=h1 (by omega) hp;omega)
   have hs1:0<s.size-1:=by have:=HX.out;omega
   clear h1;go_enter Tryz.func88,Tryz.ntmps88;go_wp2
   go_quiet (fail)
   go_wp2
   go_ret3
   exact⟨EU HD2.out,BI _ _⟩
  ·have hne:=Gy (s.extract 1 s.size) (by omega)
   have hne2:(s.extract 1 s.size).toList=[]:=by rwa [List.isEmpty_iff] at hne
   clear h1;go_enter Tryz.func88,Tryz.ntmps88;go_wp2
   go_quiet (fail)
   go_wp2
   go_ret3
   exact⟨EU HD2.out,BI _ _⟩
 ·have HD2:=qH (HD.out.trans (if_neg hc))
  clear HD
  have hsz:((s.extract 1 s.size).extract 0 s[0].toNat).size≤7:=by
   rw [←Ah,Iw,List.length_take];omega
  have HB:=qH (fun W=>Ut ((s.extract 1 s.size).extract 0 s[0].toNat) W hsz);by_cases hz0:0<s[0].toNat
  ·have hp:0<(s.extract 1 s.size).size:=by have:=HX.out;omega
   have hne:=Ca _ hp
   have hne2:¬(s.extract 1 s.size).toList=[]:=by intro e;rw [e] at hne;cases hne
   have hz:((((s.extract 1 s.size)[0]'hp).toNat:Int)==0)=false:=beq_eq_false_iff_ne.2 (by have:=h1 (by omega) hp;omega)
   have hs1:0<s.size-1:=by have:=HX.out;omega
   clear h1 hsz;go_enter Tryz.func88,Tryz.ntmps88;go_wp2
   go_quiet (fail)
   go_wp2_with fail
   refine(HB.out _).mono ?_;rintro e w' ⟨rfl,rfl⟩;generalize val ((s.extract 1 s.size).extract 0 s[0].toNat).data.toList=m at *;by_cases hr:9007199254740992<m
   ·go_wp2
    go_ret3
    exact⟨EU (HD2.out.trans (if_pos hr)),BI _ _⟩
   ·go_wp2
    go_ret3
    exact⟨EU (HD2.out.trans (if_neg hr)),BI _ _⟩
  ·clear h1 hsz
   go_enter Tryz.func88,Tryz.ntmps88;go_wp2
   go_quiet (fail)
   go_wp2_with fail
   refine(HB.out _).mono ?_;rintro e w' ⟨rfl,rfl⟩;generalize val ((s.extract 1 s.size).extract 0 s[0].toNat).data.toList=m at *;by_cases hr:9007199254740992<m
   ·go_wp2
    go_ret3
    exact⟨EU (HD2.out.trans (if_pos hr)),BI _ _⟩
   ·go_wp2
    go_ret3
    exact⟨EU (HD2.out.trans (if_neg hr)),BI _ _⟩
theorem Uu (s:ByteArray) (w:World) (hm:s.size≤9223372036854775807) :
  Calls qP 88 #[.string s] w fun e w'=>e=.returned (Ji (dec s.data.toList))∧Below w.heap.size w w':=by
 by_cases h0:0<s.size
 ·have hE:=Ca s h0
  have hk:=s[0].toNat_lt;have hxs:=Iv s;by_cases h7:7<s[0].toNat
  ·have HD:=qH (SD h0 h7)
   clear hxs;go_enter Tryz.func88,Tryz.ntmps88;go_wp2
   go_quiet (fail)
   go_wp2
   go_ret3
   exact⟨EU HD.out,BI _ _⟩
  ·by_cases hf:0<s[0].toNat∧∃ h2:0<(s.extract 1 s.size).size,(s.extract 1 s.size)[0].toNat=0
   ·obtain⟨hz0,hp,hz⟩:=hf
    have HD:=qH (Og h0 h7 hz0 hp hz);have hne:=Ca _ hp
    have hne2:¬(s.extract 1 s.size).toList=[]:=by intro e;rw [e] at hne;cases hne
    have hz2:((((s.extract 1 s.size)[0]'hp).toNat:Int)==0)=true:=beq_iff_eq.2 (by omega)
    have hs1:0<s.size-1:=by omega
    clear hz hxs;go_enter Tryz.func88,Tryz.ntmps88;go_wp2
    go_quiet (fail)
    go_wp2
    go_ret3
    exact⟨EU HD.out,BI _ _⟩
   ·exact KG s w hm h0 h7 (fun a b c=>hf ⟨a,b,c⟩)
 ·have hE:=Gy s (by omega)
  have HD:=qH (show dec s.data.toList=(0,0,5) by rw [List.eq_nil_of_length_eq_zero (show s.data.toList.length=0 by rw [Ah];omega)];rfl);go_enter Tryz.func88,Tryz.ntmps88;go_wp2
  go_ret3
  exact⟨by rw [HD.out];rfl,Below.refl _ _⟩
def Txs (w:World) (B:Nat) (v:Value) (ss:List ByteArray):Prop :=
 ∃ A cap,v=.slice A ss.length cap∧∀ i (h:i<ss.length),∃ b off,A=some ⟨b,off,none⟩∧b<B∧w.cell? ⟨b,off+i,none⟩=some (.string ss[i])
theorem Txs.below {w w':World} {B:Nat} {v:Value} {ss:List ByteArray} (h:Txs w B v ss) (hb:Below B w w'):Txs w' B v ss:=by
 obtain⟨A,cap,rfl,hc⟩:=h;refine⟨A,cap,rfl,fun i hi=>?_⟩;obtain⟨b,off,ha,hlt,hcell⟩:=hc i hi;exact⟨b,off,ha,hlt,(hb.cell (p:=⟨b,off+i,none⟩) hlt).trans hcell⟩
theorem Txs.moved {w w':World} {B:Nat} {v:Value} {ss:List ByteArray} (h:Txs w B v ss) (hb:∀ g,v.ownBlock=some g→w'.heap[g]?=w.heap[g]?):Txs w' B v ss:=by
 obtain⟨A,cap,rfl,hc⟩:=h;refine⟨A,cap,rfl,fun i hi=>?_⟩;obtain⟨b,off,rfl,hlt,hcell⟩:=hc i hi;exact⟨b,off,rfl,hlt,(World.cell?_of_block (w:=w) (hb b rfl)).trans hcell⟩
theorem Txs.more {w:World} {B B':Nat} {v:Value} {ss:List ByteArray} (h:Txs w B v ss) (hb:B≤B'):Txs w B' v ss:=by
 obtain⟨A,cap,rfl,hc⟩:=h;refine⟨A,cap,rfl,fun i hi=>?_⟩;obtain⟨b,off,ha,hlt,hcell⟩:=hc i hi;exact⟨b,off,ha,by omega,hcell⟩
theorem Txs.nil (w:World) (B cap:Nat) (A:Option Addr):Txs w B (.slice A 0 cap) []:=⟨A,cap,rfl,fun i h=>absurd h (by simp)⟩
def Ci (w:World) (b:Nat) (s:ByteArray) (e:Int):Prop:=Blk w b 149 #[.string s,.int .i64 e]
def Ao (s:ByteArray) (e:Int):(ByteArray×Int)×Nat :=
 if e≠0 then ((s,e),0) else if (dec s.data.toList).2.2≠0 then ((s,(dec s.data.toList).2.2),0) else ((s.extract (dec s.data.toList).2.1 s.size,0),(dec s.data.toList).1)
def Bn (s:ByteArray) (e:Int) (most:Nat):(ByteArray×Int)×Nat :=
 if most<(Ao s e).2 then (((Ao s e).1.1,4),0) else Ao s e
def Aj (s:ByteArray) (e:Int):(ByteArray×Int)×ByteArray :=
 let r:=Bn s e 65536
 if r.1.2≠0 then (r.1,.empty) else if r.1.1.size<r.2 then ((r.1.1,5),.empty) else ((r.1.1.extract r.2 r.1.1.size,0),r.1.1.extract 0 r.2)
def AU:Nat→ByteArray→List ByteArray→(ByteArray×Int)×List ByteArray
 | 0,s,acc=>((s,0),acc)
 | k+1,s,acc=>if (Aj s 0).1.2≠0 then ((Aj s 0).1,[]) else AU k (Aj s 0).1.1 (acc++[(Aj s 0).2])
def Bk (s:ByteArray) (e:Int):(ByteArray×Int)×List ByteArray :=
 let r:=Bn s e 256
 if r.1.2≠0 then (r.1,[]) else AU r.2 r.1.1 []
def AG (s:ByteArray) (e:Int):Int:=if e≠0 then e else if s.size=0 then 0 else 6
theorem Mh (l:List UInt8):(dec l).1≤9007199254740992∧(dec l).2.1≤l.length∧((dec l).2.2=0∨(dec l).2.2=3∨(dec l).2.2=5∨(dec l).2.2=6):=by
 cases l with
 | nil=>simp [dec]
 | cons k d =>
   rw [dec];by_cases h1:7<k.toNat
   ·rw [if_pos h1];simp
   ·rw [if_neg h1]
    by_cases h2:0<k.toNat∧d.head?=some 0
    ·rw [if_pos h2];simp
    ·rw [if_neg h2]
     by_cases h3:d.length<k.toNat
     ·rw [if_pos h3];simp
     ·rw [if_neg h3]
      by_cases h4:9007199254740992<val (d.take k.toNat)
      ·rw [if_pos h4];simp
      ·rw [if_neg h4]
       refine⟨by simp only;omega,?_,by simp⟩;simp only [List.length_cons]
       omega
theorem Ay (s:ByteArray) (e:Int):(Ao s e).2≤9007199254740992∧(Ao s e).1.1.size≤s.size∧((Ao s e).1.2≠0→(Ao s e).2=0):=by
 have hf:=Mh s.data.toList;unfold Ao
 split
 ·simp
 ·split
  ·simp
  ·refine⟨hf.1,?_,by simp⟩
   simp only [←Ah,FJ,List.length_take,List.length_drop]
   omega
theorem Do (s:ByteArray) {e:Int} (h:e≠0):Ao s e=((s,e),0):=by simp [Ao,h]
theorem Mi (s:ByteArray) {e:Int} (h:e≠0) (m:Nat):Bn s e m=((s,e),0):=by simp [Bn,Do s h]
theorem FK (s:ByteArray) {e:Int} (h:e≠0):Aj s e=((s,e),.empty):=by simp [Aj,Mi s h,h]
theorem QH (s:ByteArray) {e:Int} (h:e≠0):Bk s e=((s,e),[]):=by simp [Bk,Mi s h,h]
theorem Dp (s:ByteArray) (e:Int) (m:Nat):(Bn s e m).2≤m∧(Bn s e m).1.1.size≤s.size:=by
 have hf:=Ay s e;unfold Bn
 split
 ·exact⟨Nat.zero_le _,hf.2.1⟩
 ·exact⟨by omega,hf.2.1⟩
theorem QI (s:ByteArray) (e:Int) (m:Nat) (h:(Bn s e m).1.2≠0):(Bn s e m).2=0:=by
 have hf:=Ay s e;unfold Bn at h ⊢
 split
 ·rfl
 ·next hm=>rw [if_neg hm] at h;exact hf.2.2 h
theorem AV (s:ByteArray) (e:Int):(Aj s e).1.1.size≤s.size∧(Aj s e).2.size≤65536:=by
 have hf:=Dp s e 65536;unfold Aj;simp only
 split
 ·exact⟨hf.2,by simp [ByteArray.size]⟩
 ·split
  ·exact⟨hf.2,by simp [ByteArray.size]⟩
  ·simp only [←Ah,FJ,List.length_take,List.length_drop]
   rw [Ah];have h2:=hf.2;rw [Ah]
   omega
end Go.Proofs.YtkejaepmoabikaaGreatDoor.W
namespace Go.Proofs.YtkejaepmoabikaaGreatDoor.W
theorem Zr (n:Nat) (hn:n≤9007199254740992) (t:List UInt8):dec (num n++t)=(n,(num n).length,0):=by
 have hl:=Cr n 7 (by omega);have hk:(UInt8.ofNat (be n).length).toNat=(be n).length:=toNat_ofNat (by omega)
 show dec (UInt8.ofNat (be n).length::(be n++t))=_
 rw [dec,hk,if_neg (by omega),if_neg,if_neg (by rw [List.length_append];omega),List.take_left,VQ,if_neg (by omega),Di,Nat.add_comm];rintro⟨hp,hh⟩
 have hne:be n≠[]:=by intro e;rw [e] at hp;simp at hp
 rw [Kv hne] at hh;exact Zk n hh
theorem QJ (l:List UInt8) (h:(dec l).2.2=0):l=num (dec l).1++l.drop (dec l).2.1∧(dec l).1≤9007199254740992∧(dec l).2.1=(num (dec l).1).length:=by
 cases l with
 | nil=>simp [dec] at h
 | cons k d =>
   rw [dec] at h ⊢;by_cases h1:7<k.toNat
   ·rw [if_pos h1] at h;simp at h
   ·rw [if_neg h1] at h ⊢
    by_cases h2:0<k.toNat∧d.head?=some 0
    ·rw [if_pos h2] at h;simp at h
    ·rw [if_neg h2] at h ⊢
     by_cases h3:d.length<k.toNat
     ·rw [if_pos h3] at h;simp at h
     ·rw [if_neg h3] at h ⊢
      by_cases h4:9007199254740992<val (d.take k.toNat)
      ·rw [if_pos h4] at h;simp at h
      ·rw [if_neg h4]
       simp only
       have hh:(d.take k.toNat).head?≠some 0:=by
        intro e
        apply h2
        cases d with
        | nil=>simp at e
        | cons x r =>
          cases hk:k.toNat with
          | zero=>rw [hk] at e;simp at e
          | succ j=>rw [hk] at e;exact⟨by omega,by simpa using e⟩
       have hb:=dF _ hh
       have hlen:(d.take k.toNat).length=k.toNat:=by rw [List.length_take];omega
       refine⟨?_,by omega,?_⟩
       ·unfold num
        rw [hb,hlen,UInt8.ofNat_toNat,show 1+k.toNat=k.toNat+1 by omega,List.drop_succ_cons,List.cons_append,List.take_append_drop]
       ·rw [Di,hb,hlen];omega
theorem EB (s:ByteArray) (k:Nat):(s.extract k s.size).data.toList=s.data.toList.drop k:=by
 rw [FJ,List.take_of_length_le (by rw [List.length_drop,Ah];omega)]
theorem BK (n:Nat) (hn:n≤9007199254740992) (t:List UInt8):Ao (bs (num n++t)) 0=((bs t,0),n):=by
 have hd:=Zr n hn t
 have e:(bs (num n++t)).extract (num n).length (bs (num n++t)).size=bs t:=by
  rw [←Ch ((bs (num n++t)).extract _ _),EB,Bs,List.drop_left]
 simp [Ao,Bs,hd,e]
theorem Jj (s:ByteArray) (h:(Ao s 0).1.2=0):s.data.toList=num (Ao s 0).2++(Ao s 0).1.1.data.toList∧(Ao s 0).2≤9007199254740992:=by
 unfold Ao at h ⊢;simp only [ne_eq,not_true_eq_false,if_false] at h ⊢;by_cases hd:(dec s.data.toList).2.2=0
 ·simp only [hd,not_true_eq_false,if_false] at h ⊢
  obtain⟨h1,h2,_⟩:=QJ s.data.toList hd;rw [EB];exact⟨h1,h2⟩
 ·simp only [hd,not_false_eq_true,if_true] at h
theorem Cj (x:List UInt8) (hx:x.length≤65536) (t:List UInt8):Aj (bs (Cd x++t)) 0=((bs t,0),bs x):=by
 have hn:Ao (bs (Cd x++t)) 0=((bs (x++t),0),x.length):=by
  unfold Cd;rw [List.append_assoc];exact BK x.length (by omega) (x++t)
 have hl:Bn (bs (Cd x++t)) 0 65536=((bs (x++t),0),x.length):=by
  unfold Bn;rw [hn,if_neg (by simp only;omega)]
 have e1:(bs (x++t)).extract x.length (bs (x++t)).size=bs t:=by
  rw [←Ch ((bs (x++t)).extract _ _),EB,Bs,List.drop_left]
 have e2:(bs (x++t)).extract 0 x.length=bs x:=by
  rw [←Ch ((bs (x++t)).extract _ _),Iw,Bs,List.take_left]
 unfold Aj;simp only [hl,ne_eq,not_true_eq_false,if_false];rw [if_neg (by rw [Aw,List.length_append];omega),e1,e2]
theorem KH (s:ByteArray) (h:(Aj s 0).1.2=0):s.data.toList=Cd (Aj s 0).2.data.toList++(Aj s 0).1.1.data.toList∧(Aj s 0).2.size≤65536:=by
 have hf:=AV s 0;refine⟨?_,hf.2⟩;unfold Aj at h ⊢;simp only at h ⊢;by_cases h1:(Bn s 0 65536).1.2=0
 ·simp only [h1,ne_eq,not_true_eq_false,if_false] at h ⊢
  by_cases h2:(Bn s 0 65536).1.1.size<(Bn s 0 65536).2
  ·rw [if_pos h2] at h;simp at h
  ·rw [if_neg h2]
   simp only
   have hL:Bn s 0 65536=Ao s 0:=by
    unfold Bn at h1 ⊢;by_cases hm:65536<(Ao s 0).2
    ·rw [if_pos hm] at h1;simp at h1
    ·rw [if_neg hm]
   rw [hL] at h1 h2 ⊢;obtain⟨e,hb⟩:=Jj s h1;unfold Cd;rw [Iw,EB,List.length_take,Ah,Nat.min_eq_left (by omega),List.append_assoc,List.take_append_drop];exact e
 ·simp only [h1,ne_eq,not_false_eq_true,if_true] at h
theorem Oi (s:ByteArray) (h:AG s 0=0):s=bs []:=by
 unfold AG at h;simp only [ne_eq,not_true_eq_false,if_false] at h;by_cases hs:s.size=0
 ·rw [←Ch s,List.eq_nil_of_length_eq_zero (show s.data.toList.length=0 by rw [Ah];exact hs)]
 ·rw [if_neg hs] at h;simp at h
structure Hdr where
 chain:ByteArray
 height:Int
 time:Int
 root:ByteArray
 mac:ByteArray
deriving DecidableEq
def Hdr.zero:Hdr:=⟨⟨#[]⟩,0,0,⟨#[]⟩,⟨#[]⟩⟩
def hdV (h:Hdr):Value:=.agg #[.string h.chain,.int .i64 h.height,.int .i64 h.time,.string h.root,.string h.mac]
def Br (h:Hdr):List UInt8×Int:=Ar (Ar (Ar (Ar ([],0) (Ai h.chain)) (Ag h.height)) (Ag h.time)) (Ai h.root)
def Gk (h:Hdr):List UInt8×Int:=Ar (Br h) (Ai h.mac)
def AO (key:ByteArray) (h:Hdr):Hdr×Int:=if (Br h).2≠0 then (Hdr.zero,(Br h).2) else (⟨h.chain,h.height,h.time,h.root,bs (Ht key.data.toList (Br h).1)⟩,0)
def EC (key:ByteArray) (h:Hdr):Bool:=decide ((AO key h).2=0∧(AO key h).1=h)
def CR (s:ByteArray):Hdr×Int :=
 let a:=Aj s 0
 let b:=Ao a.1.1 a.1.2
 let c:=Ao b.1.1 b.1.2
 let d:=Aj c.1.1 c.1.2
 let e:=Aj d.1.1 d.1.2
 if AG e.1.1 e.1.2≠0 then (Hdr.zero,AG e.1.1 e.1.2) else (⟨a.2,b.2,c.2,d.2,e.2⟩,0)
theorem Gz (s:ByteArray) (h:(Ai s).2=0):s.size≤65536∧(Ai s).1=Cd s.data.toList:=by
 unfold Ai at h ⊢
 split
 ·rename_i h1;exact⟨h1,rfl⟩
 ·rename_i h1;rw [if_neg h1] at h;simp at h
theorem KI (n:Int) (h:(Ag n).2=0):0≤n∧n≤9007199254740992∧(Ag n).1=num n.toNat:=by
 unfold Ag at h ⊢
 split
 ·rename_i h1;exact⟨h1.1,h1.2,rfl⟩
 ·rename_i h1;rw [if_neg h1] at h;simp at h
theorem gI (h:Hdr) (he:(Gk h).2=0) (t:List UInt8):CR (bs ((Gk h).1++t))=if t=[] then (h,0) else (Hdr.zero,6):=by
 unfold Gk Br at he ⊢;obtain⟨he,h5,e5⟩:=It he;obtain⟨he,h4,e4⟩:=It he;obtain⟨he,h3,e3⟩:=It he;obtain⟨he,h2,e2⟩:=It he;obtain⟨_,h1,e1⟩:=It he;rw [e5,e4,e3,e2,e1];obtain⟨l1,f1⟩:=Gz _ h1;obtain⟨l2,m2,f2⟩:=KI _ h2;obtain⟨l3,m3,f3⟩:=KI _ h3;obtain⟨l4,f4⟩:=Gz _ h4;obtain⟨l5,f5⟩:=Gz _ h5;rw [f1,f2,f3,f4,f5];have b1:=Cj h.chain.data.toList (by rw [Ah];exact l1) (num h.height.toNat++(num h.time.toNat++(Cd h.root.data.toList++(Cd h.mac.data.toList++t))));have b2:=BK h.height.toNat (by omega) (num h.time.toNat++(Cd h.root.data.toList++(Cd h.mac.data.toList++t)));have b3:=BK h.time.toNat (by omega) (Cd h.root.data.toList++(Cd h.mac.data.toList++t));have b4:=Cj h.root.data.toList (by rw [Ah];exact l4) (Cd h.mac.data.toList++t);have b5:=Cj h.mac.data.toList (by rw [Ah];exact l5) t;simp only [List.nil_append,List.append_assoc];unfold CR;simp only [b1,b2,b3,b4,b5,Ch];by_cases ht:t=[]
 ·subst ht
  rw [if_neg (by simp [AG,Aw]),if_pos rfl,Int.toNat_of_nonneg l2,Int.toNat_of_nonneg l3]
 ·have hd:AG (bs t) 0=6:=by
   unfold AG;rw [if_neg (by simp),if_neg (by rw [Aw];intro e;exact ht (List.eq_nil_of_length_eq_zero e))]
  rw [hd,if_pos (by decide),if_neg ht]
theorem Iy (h:Hdr):(Br h).1.length≤131104:=by
 unfold Br;have a1:=AZ ([],0) (Ai h.chain);have a2:=AZ (Ar ([],0) (Ai h.chain)) (Ag h.height);have a3:=AZ (Ar (Ar ([],0) (Ai h.chain)) (Ag h.height)) (Ag h.time);have a4:=AZ (Ar (Ar (Ar ([],0) (Ai h.chain)) (Ag h.height)) (Ag h.time)) (Ai h.root);have c1:=AF h.chain;have c2:=Au h.height;have c3:=Au h.time;have c4:=AF h.root;simp only [List.length_nil] at a1
 omega
theorem Mj (key:ByteArray) (h:Hdr) (hb:(Br h).2=0):(AO key h).2=0∧EC key (AO key h).1=true∧(Gk (AO key h).1).2=0∧Br (AO key h).1=Br h:=by
 have e:AO key h=(⟨h.chain,h.height,h.time,h.root,bs (Ht key.data.toList (Br h).1)⟩,0):=by unfold AO;rw [if_neg (by simp [hb])]
 have e2:Br (⟨h.chain,h.height,h.time,h.root,bs (Ht key.data.toList (Br h).1)⟩:Hdr)=Br h:=rfl;rw [e];refine⟨rfl,?_,?_,e2⟩
 ·unfold EC AO
  rw [e2,if_neg (by simp [hb])];simp
 ·unfold Gk
  rw [e2]
  have hm:(Ai (bs (Ht key.data.toList (Br h).1))).2=0:=by
   unfold Ai;rw [if_pos (by rw [Aw,Uo];decide)]
  unfold Ar;rw [if_neg (by simp [hb]),if_neg (by simp [hm])]
def dcm (n:Nat):List UInt8:=Lib.decDigits n
theorem Dq {n:Nat} (h:n<10):dcm n=[UInt8.ofNat (48+n)]:=Lib.decDigits_one h
theorem GX {n:Nat} (h:¬n<10):dcm n=dcm (n/10)++[UInt8.ofNat (48+n%10)]:=by
 unfold dcm;rw [Lib.decDigits,dif_neg h]
theorem Id:∀(k n:Nat),n<10 ^ (k+1)→(dcm n).length≤k+1
 | 0,n,h=>by rw [Dq (by simpa using h)];simp
 | k+1,n,h=>by
   by_cases h1:n<10
   ·rw [Dq h1];simp
   ·have:=Id k (n/10) (Nat.div_lt_of_lt_mul (by rw [Nat.pow_succ] at h;omega))
    rw [GX h1];simp only [List.length_append,List.length_singleton]
    omega
def FM:Nat→Nat→List UInt8
 | 0,_=>[]
 | k+1,m=>FM k (m/10)++[UInt8.ofNat (48+m%10)]
theorem Iz:∀ k m,(FM k m).length=k
 | 0,_=>rfl
 | k+1,m=>by rw [FM,List.length_append,Iz k];rfl
theorem Jk:∀ k m,FM (k+1) m=UInt8.ofNat (48+m/10 ^ k%10)::FM k m
 | 0,m=>by simp [FM]
 | k+1,m=>by
   rw [FM,Jk k (m/10),Nat.div_div_eq_div_mul,show 10*10 ^ k=10 ^ (k+1) by rw [Nat.pow_succ,Nat.mul_comm]]
   rfl
theorem Mk:∀ k,FM k 0=List.replicate k 48
 | 0=>rfl
 | k+1=>by rw [Jk,Mk k];simp [List.replicate_succ]
theorem Oj:∀(k m:Nat),m<10 ^ (k+1)→List.replicate (k+1-(dcm m).length) 48++dcm m=FM (k+1) m
 | 0,m,h=>by
   have h1:m<10:=by simpa using h
   rw [Dq h1,FM,FM,Nat.mod_eq_of_lt h1]
   rfl
 | k+1,m,h=>by
   by_cases h1:m<10
   ·rw [Dq h1,FM,Nat.mod_eq_of_lt h1,Nat.div_eq_of_lt h1,Mk]
    rfl
   ·have ih:=Oj k (m/10) (Nat.div_lt_of_lt_mul (by rw [Nat.pow_succ] at h;omega))
    rw [GX h1,FM,←ih,List.length_append,List.length_singleton,←List.append_assoc]
    congr 3
    omega
end Go.Proofs.YtkejaepmoabikaaGreatDoor.W
namespace Go.Proofs.YtkejaepmoabikaaGreatDoor.W
open Go.RowKit Go.Shelf
open _root_.Go.Proofs.Tryz renaming prog → qP
theorem gJ:qP.globalNamed "internal/strconv.uint64pow10"=some 5:=by kernel_rfl
theorem Jl {w w':World} {p:Addr} {v:Value} (h:w.cell? p=some v) (hb:Below w.heap.size w w'):w'.cell? p=some v :=
 (hb.cell (World.block_lt_of_cell? w _ h)).trans h
theorem QK (w:World) (k:Nat) (os:Array Obj):Below w.heap.size w (Go.Sort.grow (w.drewN k) os):=by
 refine⟨rfl,rfl,rfl,?_,fun i hi=>?_⟩
 ·show w.heap.size≤(w.heap++os).size
  rw [Array.size_append]
  omega
 ·show(w.heap++os)[i]?=w.heap[i]?
  rw [Array.getElem?_append_left hi]
def Pow (w:World):Prop:=Lib.TabIs qP w "internal/strconv.uint64pow10" .u64 Lib.pow10Tab
theorem Pow.next {w w':World} (h:Pow w) (hb:Below w.heap.size w w'):Pow w':=Go.Joins.tab_stays gJ h hb (Nat.le_refl _)
theorem bX (n:Nat) (h:n≤9223372036854775807) (w:World) (hT:Pow w) :
  Calls qP 113 #[.int .i64 n] w fun e w'=>e=.returned (.string (bs (dcm n)))∧Below w.heap.size w w':=by
 refine(Any.strconv_Itoa Tryz.laysM171 (n:Int) (by omega) (by omega) w hT).mono ?_;rintro e w' ⟨rfl,k,os,rfl⟩;refine⟨?_,QK w k os⟩;rw [Lib.itoa_nonneg]
 rfl
end Go.Proofs.YtkejaepmoabikaaGreatDoor.W
namespace Go.Proofs.YtkejaepmoabikaaGreatDoor.W
def rp (old new:List UInt8):Nat→List UInt8→List UInt8
 | 0,s=>s
 | _+1,[]=>[]
 | f+1,x::l=>if old.isPrefixOf (x::l) then new++rp old new f ((x::l).drop old.length) else x::rp old new f l
theorem DX (old new:List UInt8) (ho:old≠[]):∀(f:Nat) (s:List UInt8),s.length≤f→Lib.replaceK old new (Lib.count s old) s=rp old new f s
 | 0,s,h=>by
   have e:s=[]:=List.eq_nil_of_length_eq_zero (by omega);subst e
   have hm:Lib.index [] old=-1:=by
    unfold Lib.index;rw [if_neg (by simpa using ho)]
   rw [Lib.count_miss hm]
   rfl
 | f+1,[],h=>by
   have hm:Lib.index [] old=-1:=by
    unfold Lib.index;rw [if_neg (by simpa using ho)]
   rw [Lib.count_miss hm]
   rfl
 | f+1,x::l,h=>by
   have hl:1≤old.length:=by cases old with|nil=>exact absurd rfl ho|cons a r=>simp
   rw [rp];by_cases hp:old.isPrefixOf (x::l)=true
   ·rw [if_pos hp]
    have hi:Lib.index (x::l) old=((0:Nat):Int):=by unfold Lib.index;rw [if_pos hp];rfl
    rw [Lib.count_hit ho hi,Nat.add_comm 1,Lib.replaceK_hit old new _ _ 0 hi,List.take_zero,List.nil_append,Nat.zero_add];rw [DX old new ho f _ (by simp only [List.length_drop,List.length_cons] at h ⊢;omega)]
   ·rw [if_neg hp]
    have hp':old.isPrefixOf (x::l)=false:=by cases e:old.isPrefixOf (x::l) with|false=>rfl|true=>exact absurd e hp
    have ih:=DX old new ho f l (by simp only [List.length_cons] at h;omega);rw [←ih];by_cases hm:Lib.index l old=-1
    ·have hi:Lib.index (x::l) old=-1:=by unfold Lib.index;rw [hp',hm];rfl
     rw [Lib.count_miss hi,Lib.count_miss hm]
     rfl
    ·have hge:=Lib.index_ge l old
     obtain⟨i,hj⟩:∃ i:Nat,Lib.index l old=i:=⟨(Lib.index l old).toNat,by omega⟩
     have hi:Lib.index (x::l) old=((i+1:Nat):Int):=by
      unfold Lib.index;rw [hp',hj]
      have:((i:Int)==-1)=false:=by rw [beq_eq_false_iff_ne];omega
      simp [this]
     rw [Lib.count_hit ho hi,Lib.count_hit ho hj,Nat.add_comm 1,Nat.add_comm 1,Lib.replaceK_hit old new _ _ (i+1) hi,Lib.replaceK_hit old new _ _ i hj];rw [show i+1+old.length=(i+old.length)+1 by omega,List.drop_succ_cons,List.take_succ_cons];simp
def rpA (old new s:List UInt8):List UInt8:=rp old new s.length s
theorem SG (old new:List UInt8) (ho:old≠[]) (f:Nat) (s:List UInt8) (h:s.length≤f):rp old new f s=rpA old new s:=by
 rw [rpA,←DX old new ho f s h,←DX old new ho _ s (Nat.le_refl _)]
theorem Hv (s old new:List UInt8) (ho:old≠[]) (hn:old≠new):Lib.replaceAll s old new=rpA old new s:=by
 rw [Lib.replaceAll,Lib.replace,if_neg (by simpa using hn),Lib.replaceNum,if_pos (Or.inl (by decide))];exact DX old new ho _ s (Nat.le_refl _)
theorem Kl (old new:List UInt8) (ho:old≠[]) (r:List UInt8):rpA old new (old++r)=new++rpA old new r:=by
 cases old with
 | nil=>exact absurd rfl ho
 | cons a o =>
   rw [rpA,List.cons_append,List.length_cons,rp,if_pos (by rw [←List.cons_append];simp)];rw [←List.cons_append,List.drop_left];rw [SG _ _ ho _ _ (by simp)]
theorem Ea (old new:List UInt8) (ho:old≠[]) (x:UInt8) (l:List UInt8) (h:old.isPrefixOf (x::l)=false):rpA old new (x::l)=x::rpA old new l:=by
 rw [rpA,List.length_cons,rp,if_neg (by simp [h]),SG _ _ ho _ _ (Nat.le_refl _)]
def e1:List UInt8→List UInt8
 | []=>[]
 | b::l=>if b=37 then 37::112::e1 l else b::e1 l
def esc:List UInt8→List UInt8
 | []=>[]
 | b::l=>if b=37 then 37::112::esc l else if b=47 then 37::115::esc l else b::esc l
theorem Wc:∀ l,rpA [37] [37,112] l=e1 l
 | []=>rfl
 | b::l=>by
   unfold e1;by_cases h:b=37
   ·subst h
    rw [if_pos rfl,show(37:UInt8)::l=[37]++l from rfl,Kl _ _ (by simp),Wc l]
    rfl
   ·rw [if_neg h,Ea _ _ (by simp) _ _ (by simp [List.isPrefixOf,Ne.symm h]),Wc l]
theorem Na:∀ l,rpA [47] [37,115] (e1 l)=esc l
 | []=>rfl
 | b::l=>by
   unfold e1 esc;by_cases h:b=37
   ·rw [if_pos h,if_pos h,Ea _ _ (by simp) _ _ (by simp [List.isPrefixOf]),Ea _ _ (by simp) _ _ (by simp [List.isPrefixOf]),Na l]
   ·rw [if_neg h,if_neg h]
    by_cases h2:b=47
    ·subst h2
     rw [if_pos rfl,show(47:UInt8)::e1 l=[47]++e1 l from rfl,Kl _ _ (by simp),Na l]
     rfl
    ·rw [if_neg h2,Ea _ _ (by simp) _ _ (by simp [List.isPrefixOf,Ne.symm h2]),Na l]
def une (l:List UInt8):List UInt8:=rpA [37,112] [37] (rpA [37,115] [47] l)
theorem Zs:∀ l,rpA [37,115] [47] (esc l)=e1 l
 | []=>rfl
 | b::l=>by
   unfold e1 esc;by_cases h:b=37
   ·rw [if_pos h,if_pos h,Ea _ _ (by simp) _ _ (by simp [List.isPrefixOf]),Ea _ _ (by simp) _ _ (by simp [List.isPrefixOf]),Zs l]
   ·rw [if_neg h,if_neg h]
    by_cases h2:b=47
    ·subst h2
     rw [if_pos rfl,show(37:UInt8)::115::esc l=[37,115]++esc l from rfl,Kl _ _ (by simp),Zs l]
     rfl
    ·rw [if_neg h2,Ea _ _ (by simp) _ _ (by simp [List.isPrefixOf,Ne.symm h]),Zs l]
theorem dI:∀ l,rpA [37,112] [37] (e1 l)=l
 | []=>rfl
 | b::l=>by
   unfold e1;by_cases h:b=37
   ·subst h
    rw [if_pos rfl,show(37:UInt8)::112::e1 l=[37,112]++e1 l from rfl,Kl _ _ (by simp),dI l]
    rfl
   ·rw [if_neg h,Ea _ _ (by simp) _ _ (by simp [List.isPrefixOf,Ne.symm h]),dI l]
theorem SH (l:List UInt8):une (esc l)=l:=by rw [une,Zs,dI]
theorem Wd:∀ l,(e1 l).length≤2*l.length
 | []=>by simp [e1]
 | b::l=>by
   have:=Wd l;unfold e1
   split<;>simp only [List.length_cons]<;>omega
theorem IA:∀ l,(esc l).length≤2*l.length
 | []=>by simp [esc]
 | b::l=>by
   have:=IA l;unfold esc
   split
   ·simp only [List.length_cons];omega
   ·split<;>simp only [List.length_cons]<;>omega
def ns (l:List UInt8):Prop:=∀ b ∈ l,b≠47
theorem QL:∀ l,ns (esc l)
 | []=>by intro b hb;cases hb
 | c::l=>by
   have ih:=QL l;unfold esc;intro b hb
   split at hb
   ·simp only [List.mem_cons] at hb
    rcases hb with rfl|rfl|hb
    ·decide
    ·decide
    ·exact ih b hb
   ·split at hb
    ·simp only [List.mem_cons] at hb
     rcases hb with rfl|rfl|hb
     ·decide
     ·decide
     ·exact ih b hb
    ·rename_i h2
     simp only [List.mem_cons] at hb
     rcases hb with rfl|hb
     ·exact h2
     ·exact ih b hb
def pcs:List UInt8→List (List UInt8)
 | []=>[[]]
 | b::l=>if b=47 then []::pcs l else ((b::(pcs l).headD [])::(pcs l).tail)
def Jn (x:List UInt8):List (List UInt8)→List UInt8
 | []=>x
 | y::r=>x++47::Jn y r
theorem SI (x:List UInt8) (hx:ns x) (s:List UInt8):∀ p r,pcs s=p::r→pcs (x++s)=(x++p)::r:=by
 induction x with
 | nil=>intro p r h;simpa using h
 | cons b x ih =>
   intro p r h;have hb:b≠47:=hx b (by simp);have ih':=ih (fun c hc=>hx c (by simp [hc])) p r h;rw [List.cons_append,pcs,if_neg hb,ih']
   rfl
theorem dJ (x:List UInt8) (hx:ns x):pcs x=[x]:=by
 have:=SI x hx [] [] [] rfl
 simpa using this
theorem Uv (x:List UInt8) (hx:ns x) (s:List UInt8):pcs (x++47::s)=x::pcs s:=by
 have:=SI x hx (47::s) [] (pcs s) (by rw [pcs,if_pos rfl])
 simpa using this
theorem Ok:∀(r:List (List UInt8)) (x:List UInt8),ns x→(∀ y ∈ r,ns y)→pcs (Jn x r)=x::r
 | [],x,hx,_=>dJ x hx
 | y::r,x,hx,hr=>by
   rw [Jn,Uv x hx,Ok r y (hr y (by simp)) (fun z hz=>hr z (by simp [hz]))]
theorem Ol:∀(r:List (List UInt8)) (x:List UInt8),(Jn x r).length=x.length+((r.map List.length).sum+r.length)
 | [],x=>by simp [Jn]
 | y::r,x=>by
   rw [Jn,List.length_append,List.length_cons,Ol r y];simp only [List.map_cons,List.sum_cons,List.length_cons]
   omega
theorem Ml:∀(r:List (List UInt8)) (x:List UInt8),Lib.join (x::r) [47]=Jn x r
 | [],x=>Lib.join_one x [47]
 | y::r,x=>by
   rw [Lib.join_cons,Jn,←Ml r y,Lib.join_cons];simp [Lib.joinTail]
def key (w:List UInt8) (ps:List (List UInt8)):List UInt8:=Jn (esc w) (ps.map esc)
def txt (s:List UInt8):List (List UInt8):=(pcs s).map une
theorem Zt (w:List UInt8) (ps:List (List UInt8)):pcs (key w ps)=esc w::ps.map esc :=
 Ok _ _ (QL w) (by intro y hy;obtain⟨z,_,rfl⟩:=List.mem_map.mp hy;exact QL z)
theorem Om (ps:List (List UInt8)):(ps.map esc).map une=ps:=by
 rw [List.map_map];exact(List.map_congr_left (fun a _=>SH a)).trans (List.map_id ps)
theorem SJ (w:List UInt8) (ps:List (List UInt8)):txt (key w ps)=w::ps:=by
 rw [txt,Zt,List.map_cons,SH,Om]
theorem Zu {w v:List UInt8} {ps qs:List (List UInt8)} (h:key w ps=key v qs):w=v∧ps=qs:=by
 have e:=SJ w ps;rw [h,SJ] at e
 injection e with e1 e2
 exact⟨e1.symm,e2.symm⟩
end Go.Proofs.YtkejaepmoabikaaGreatDoor.W
namespace Go.Proofs.YtkejaepmoabikaaGreatDoor.W
open Go.RowKit
open _root_.Go.Proofs.Tryz renaming prog → qP
theorem FN:(qP.info? 9).map (fun i=>(i.zero,i.size,i.bytes))=some (some (.string .empty),1,16):=by kernel_rfl
def Bb (ss:List ByteArray):List Value:=ss.map Value.string
theorem JM (ss:List ByteArray):(Bb ss).length=ss.length:=by simp [Bb]
theorem Txs.of_own {w:World} {base:Nat} {v:Value} {ss:List ByteArray} (h:w.ownsRow base 9 1 v ss.length (Bb ss)):Txs w w.heap.size v ss:=by
 rcases h.2 with⟨rfl,hn⟩|⟨g,cap,cur,rfl,hb,hg,_⟩
 ·obtain rfl:ss=[]:=List.eq_nil_of_length_eq_zero hn
  exact Txs.nil _ _ _ _
 ·refine⟨some ⟨g,0,none⟩,cap,rfl,fun i hi=>⟨g,0,rfl,(Array.getElem?_eq_some_iff.1 hg).1,?_⟩⟩
  have:=h.cells (g:=g) rfl i (.string ss[i]) (by simp [Bb,hi]);rw [show(⟨g,0,none⟩:Addr).add i=⟨g,0+i,none⟩ by unfold Addr.add;split<;>simp_all] at this;exact this
def BU (v:Value):Prop:=∃ A n cap,v=.slice A n cap∧n≤cap
theorem Es:BU (.slice none 0 0):=⟨none,0,0,rfl,Nat.le_refl _⟩
theorem GY {w:World} {B:Nat} {e:TypeId} {k n:Nat} {v:Value} {xs:List Value} (h:w.ownsRow B e k v n xs):BU v:=by
 rcases h.2 with⟨rfl,_⟩|⟨g,cap,cur,rfl,_,_,hc,_⟩
 ·exact Es
 ·exact⟨_,_,_,rfl,hc⟩
def Aq (B:Nat) (v:Value) (ss:List ByteArray) (W0 w:World):Prop :=
 w.ownsRow B 9 1 v ss.length (Bb ss)∧Below B W0 w∧B≤w.heap.size
theorem Eb (w:World):Aq w.heap.size (.slice none 0 0) [] w w:=⟨World.ownsRow_nil _ _ _ _,Below.refl _ _,Nat.le_refl _⟩
section
variable {B:Nat} {v:Value} {ss:List ByteArray} {W0 w w':World}
theorem Aq.after (h:Aq B v ss W0 w) (k:Below w.heap.size w w'):Aq B v ss W0 w':=by
 refine⟨h.1.kept (row:=none) ⟨k.os,k.tape,k.output,k.size,fun i hi _=>k.block i hi⟩ (by cases hv:v.ownBlock<;>simp),h.2.1.trans (k.mono h.2.2),Nat.le_trans h.2.2 k.size⟩
theorem Aq.alloc (h:Aq B v ss W0 w) (o:Obj):Aq B v ss W0 (w.alloc o):=h.after ((Below.refl _ _).alloc (Nat.le_refl _) _)
theorem Aq.txs (h:Aq B v ss W0 w):Txs w w.heap.size v ss:=Txs.of_own h.1
theorem Aq.below (h:Aq W0.heap.size v ss W0 w):Below W0.heap.size W0 w:=h.2.1
end
theorem Bi {ops:Array Oper} {rest:List Oper} {o:Oper} {a:Act} {Q:Exit→Act→World→Prop} (hgd:o.guard=none) (s x:Operand)
  (ho:o.op=.call { callee:=.builtin .append,args:=#[s,x],argTypes:=#[74,74] })
  (B:Nat) (v:Value) (ss:List ByteArray) (hs:a.eval s=v) (W0 w0:World) (c:ByteArray) (hb:Aq B v ss W0 w0)
  (hx:a.eval x=.slice (some ⟨w0.heap.size,0,none⟩) 1 1) (hlen:ss.length≤1000000000)
  (h:∀ v' w',Aq B v' (ss++[c]) W0 w'→wpList qP ops Q rest (a.put o.dst v') w'):wpList qP ops Q (o::rest) a (w0.alloc (.cells #[.string c] 9)):=by
 obtain⟨i0,hi,hz0,hz1,hz2⟩:=info_parts FN;have hb':=hb.alloc (.cells #[.string c] 9);refine wpList_append_own _ hgd s x 74 ho B 9 i0 (.string .empty) 1 16 Tryz.underlying74 hi hz0 hz1 hz2 rfl (by decide) v ss.length (Bb ss) hs hb'.1 ⟨w0.heap.size,0,none⟩ 1 1 [.string c] hx rfl ?_ ?_ ?_ ?_ hb'.2.2 ?_
 ·intro j u hj
  match j,hj with
  | 0,hj=>simp at hj;subst hj;simp [Addr.add]
  | (j+1),hj=>simp at hj
 ·intro u hu
  simp at hu;subst hu
  rfl
 ·unfold maxLen;omega
 ·omega
 ·intro v' w' ho' hg _
  refine h v' w' ⟨?_,hb'.2.1.grown hg hb'.2.2 (fun k hk=>(hb'.1.lt k hk).1),Nat.le_trans hb'.2.2 hg.size⟩
  simpa [Bb] using ho'
theorem L8 (n:Nat) (h:n≤1000000000) (w:World):(Instr.makeSlice 74 (.int .i64 0) (.int .i64 n)).run qP w=.ok (.slice (some ⟨w.heap.size,0,none⟩) 0 n) (w.alloc (.cells (madeCells #[.string .empty] n) 9)):=by
 obtain⟨i0,hi,hz0,hz1,hz2⟩:=info_parts FN;have hr:=run_make (P:=qP) w 74 9 i0 _ Tryz.underlying74 hi hz0 .i64 .i64 0 n (by omega) (by omega) (by rw [hz2];omega) (by omega);rw [hz1,show(Value.string ByteArray.empty).cells=#[.string .empty] from rfl] at hr
 simpa using hr
theorem Nb (n:Nat) (h:n≤1000000000) (w:World):Aq w.heap.size (.slice (some ⟨w.heap.size,0,none⟩) 0 n) [] w (w.alloc (.cells (madeCells #[.string .empty] n) 9)) :=
 ⟨World.ownsRow_made w _ n (Nat.le_refl _) (by unfold maxLen;omega) (by rw [size_madeCells,Nat.mul_one]),(Below.refl _ _).alloc (Nat.le_refl _) _,by simp⟩
end Go.Proofs.YtkejaepmoabikaaGreatDoor.W
namespace Go.Proofs.YtkejaepmoabikaaGreatDoor.W
open Go.RowKit Go.Shelf
open _root_.Go.Proofs.Tryz renaming prog → qP
structure ED (w:World):Prop where
 tab:Pow w
 most:∃ m,w.cell? ⟨1,0,none⟩=some (.int .i64 m)
theorem ED.next {w w':World} (h:ED w) (hb:Below w.heap.size w w'):ED w':=by
 obtain⟨m,hm⟩:=h.most;exact⟨h.tab.next hb,m,Jl hm hb⟩
theorem SK (s old new:ByteArray) (hs:s.size≤1000000000) (h1:1≤old.size) (h2:new.size≤2) (w:World) (hL:ED w) :
  Calls qP 167 #[.string s,.string old,.string new] w fun e w'=>e=.returned (.string (bs (Lib.replaceAll s.data.toList old.data.toList new.data.toList)))∧Below w.heap.size w w':=by
 obtain⟨m,hm⟩:=hL.most;have hc:=Lib.countB_mul_le old h1 s.size s (Nat.le_refl _);have hc1:Lib.countB s old≤s.size:=Nat.le_trans (Nat.le_mul_of_pos_right _ (by omega)) hc;have hc2:Lib.countB s old*new.size≤s.size*2:=Nat.mul_le_mul hc1 h2
 exact Any.strings_ReplaceAll { Tryz.lays155 with } Tryz.Builder_Extra_155 s old new m w (by omega) hm h1 (by omega)
theorem Zv (v:Value) (xs:List ByteArray) (B:Nat) (w:World) (hT:Txs w B v xs) (hB:B≤w.heap.size) (hcap:∀ A n c,v=.slice A n c→n≤c) (h0:xs≠[])
  (hN:xs.length≤1000000000) (hlen:(Lib.join (xs.map (·.data.toList)) [47]).length≤1000000000) :
  Calls qP 135 #[v,.string ⟨#[47]⟩] w fun e w'=>e=.returned (.string (bs (Lib.join (xs.map (·.data.toList)) [47])))∧Below w.heap.size w w':=by
 obtain⟨A,c,rfl,hc⟩:=hT;have hp:0<xs.length:=List.length_pos_iff.mpr h0;obtain⟨b,o,rfl,hb,-⟩:=hc 0 hp;refine Any.strings_Join Tryz.lays156 Tryz.Builder_Extra_156 b o c xs ⟨#[47]⟩ w ?_ (by omega) (by omega) (hcap _ _ _ rfl) (Nat.le_trans hlen (by decide));intro j x hx;obtain⟨hj,rfl⟩:=List.getElem?_eq_some_iff.mp hx;obtain⟨b',o',he,-,hcell⟩:=hc j hj
 cases he
 exact hcell
theorem Zw (c:Nat) (hc:c≤1000) (w:World) :
  Calls qP 153 #[.string ⟨#[48]⟩,.int .i64 c] w fun e w'=>e=.returned (.string (bs (List.replicate c 48)))∧Below w.heap.size w w':=by
 have h:=Any.strings_Repeat Tryz.lays105 Tryz.Builder_Extra_105 ⟨#[48]⟩ c w (by omega) (by rw [show(ByteArray.mk #[48]).size=1 from rfl];omega)
 have e:Lib.repeatL (ByteArray.mk #[48]).data.toList c=List.replicate c 48:=by
  have:=Lib.repeatL_replicate 48 1 c
  simpa using this
 rw [e] at h;exact h
end Go.Proofs.YtkejaepmoabikaaGreatDoor.W
namespace Go.Proofs.YtkejaepmoabikaaGreatDoor.W
open Go.RowKit
open List renaming getElem_cons_zero → qC
open Lib renaming hid → qH
open _root_.Go.Proofs.Tryz renaming prog → qP
set_option maxHeartbeats 2000000
set_option maxRecDepth 100000
theorem Fg {x y:ByteArray} (h:(x.toList==y.toList)=true):x=y:=by
 have e:=eq_of_beq h;rw [ByteArray.toList_eq,ByteArray.toList_eq] at e;exact Go.WideShapes.bytes_inj e
theorem Eh {x y:ByteArray} (h:x≠y):(x.toList==y.toList)=false:=by
 cases e:(x.toList==y.toList) with
 | false=>rfl
 | true=>exact absurd (Fg e) h
theorem KJ {x:ByteArray} (h:x≠⟨#[]⟩):x.toList.isEmpty=false:=by
 rw [ByteArray.toList_eq]
 cases e:x.data.toList with
 | nil=>exact absurd (Go.WideShapes.bytes_inj (b:=⟨#[]⟩) e) h
 | cons a r=>rfl
theorem KK:(ByteArray.mk #[]).toList.isEmpty=true:=by rw [ByteArray.toList_eq];rfl
theorem IB (W:World) (c:Int) (h0:0≤c) (h1:c<256) :
  (convert 121 9 (.slice (some ⟨W.heap.size,0,none⟩) 1 1)).run qP (W.alloc (.cells #[.int .u8 c] 5))=.ok (.string (bs [UInt8.ofNat c.toNat])) (W.alloc (.cells #[.int .u8 c] 5)):=by
 refine run_convert_bytes_back (W.alloc (.cells #[.int .u8 c] 5)) 121 9 5 ⟨W.heap.size,0,none⟩ 1 [UInt8.ofNat c.toNat] Tryz.underlying121 Tryz.underlying5 Tryz.underlying9 ?_;intro j hj
 have e:j=0:=by simpa using hj
 subst e;simp only [qC];rw [show(UInt8.ofNat c.toNat).toNat=c.toNat from toNat_ofNat (by omega),Int.toNat_of_nonneg h0];simp [Addr.add]
theorem AB (W:World) (a b:List UInt8) (h:a.length+b.length≤9223372036854775807):(Op.stringOp .add (bs a) (bs b)).run qP W=.ok (.string (bs (a++b))) W:=by
 rw [run_string_add_sum W (bs a) (bs b) (by rw [Aw,Aw];exact h),Mc]
theorem SL (s:ByteArray) (hs:s.size≤100000000) (w:World) (hL:ED w) :
  Calls qP 134 #[.string s] w fun e w'=>e=.returned (.string (bs (esc s.data.toList)))∧Below w.heap.size w w':=by
 have H1:=qH (fun w hL=>SK s ⟨#[37]⟩ ⟨#[37,112]⟩ (by omega) (by decide) (by decide) w hL);have H2:=qH (fun w hL=>SK (bs (e1 s.data.toList)) ⟨#[47]⟩ ⟨#[37,115]⟩ (by rw [Aw];have:=Wd s.data.toList;rw [Ah] at this;omega) (by decide) (by decide) w hL)
 have E1:Lib.replaceAll s.data.toList (ByteArray.mk #[37]).data.toList (ByteArray.mk #[37,112]).data.toList=e1 s.data.toList:=by
  show Lib.replaceAll s.data.toList [37] [37,112]=_
  rw [Hv _ _ _ (by simp) (by simp),Wc]
 have E2:Lib.replaceAll (bs (e1 s.data.toList)).data.toList (ByteArray.mk #[47]).data.toList (ByteArray.mk #[37,115]).data.toList=esc s.data.toList:=by
  show Lib.replaceAll (e1 s.data.toList) [47] [37,115]=_
  rw [Hv _ _ _ (by simp) (by simp),Na]
 rw [E1] at H1;rw [E2] at H2;clear E1 E2;generalize e1 s.data.toList=m at *;generalize esc s.data.toList=r at *;go_enter Tryz.func134,Tryz.ntmps134
 go_wp2_with fail
 refine(H1.out w hL).mono ?_;rintro e w1 ⟨rfl,b1⟩
 go_wp2_with fail
 refine(H2.out w1 (hL.next b1)).mono ?_;rintro e w2 ⟨rfl,b2⟩;go_wp2
 go_ret
 exact⟨rfl,Ae b1 b2⟩
def EE (n:Int):Nat:=(min (max n 0) 99999999999999).toNat
theorem We (n:Int):EE n<10 ^ (13+1):=by unfold EE;omega
theorem Wf (n:Int):(EE n:Int)=min (max n 0) 99999999999999:=by unfold EE;omega
theorem gK (m:Nat) (h:m<10 ^ (13+1)):List.replicate (14-(dcm m).length) 48++dcm m=FM 14 m:=Oj 13 m h
theorem Zx (n:Int) (w:World) (hL:ED w) :
  Calls qP 108 #[.int .i64 n] w fun e w'=>e=.returned (.string (bs (FM 14 (EE n))))∧Below w.heap.size w w':=by
 have hc:=Wf n;have hlt:=We n;have hl:=Id 13 _ hlt;have H1:=qH (fun w hL=>bX (EE n) (by omega) w hL);have H2:=qH (fun w=>Zw (14-(dcm (EE n)).length) (by omega) w);have HN:=qH (gK _ hlt);generalize EE n=m at *
 have hz:((bs (dcm m)).size:Int)=((dcm m).length:Int):=by rw [Aw]
 have hq:(14:Int)-((dcm m).length:Int)=((14-(dcm m).length:Nat):Int):=by omega
 generalize dcm m=d at *;generalize hq2:14-d.length=q at *;generalize FM 14 m=r at *;have hmm:min (max n 0) 99999999999999=(m:Int):=hc.symm;clear hc hlt hq2;go_enter Tryz.func108,Tryz.ntmps108
 go_wp2_with fail
 refine(H1.out w hL.tab).mono ?_;rintro e w1 ⟨rfl,b1⟩;have hadd:=fun W=>AB W (List.replicate q 48) d (by rw [List.length_replicate];omega)
 go_wp2_with fail
 refine(H2.out w1).mono ?_;rintro e w2 ⟨rfl,b2⟩;go_wp2
 go_ret
 exact⟨by rw [HN.out];rfl,Ae b1 b2⟩
def fms (wd:ByteArray) (ps:List ByteArray) (k:Nat):List ByteArray:=bs (esc wd.data.toList)::(ps.take k).map fun p=>bs (esc p.data.toList)
theorem SN (wd:ByteArray) (ps:List ByteArray) (k:Nat) (h:k≤ps.length):(fms wd ps k).length=k+1:=by simp [fms];omega
theorem Wg (wd:ByteArray) (ps:List ByteArray) (k:Nat) (h:k<ps.length):fms wd ps k++[bs (esc ps[k].data.toList)]=fms wd ps (k+1):=by
 simp only [fms,List.cons_append];rw [List.take_succ_eq_append_getElem h,List.map_append]
 rfl
def tot (wd:ByteArray) (ps:List ByteArray):Nat:=wd.size+((ps.map ByteArray.size).sum+ps.length)
theorem QM {l:List ByteArray} {x:ByteArray} (h:x ∈ l):x.size≤(l.map ByteArray.size).sum:=by
 induction l with
 | nil=>cases h
 | cons y l ih =>
   rw [List.map_cons,List.sum_cons]
   rcases List.mem_cons.mp h with rfl|h
   ·omega
   ·have:=ih h;omega
def Fp (wd:ByteArray) (ps:List ByteArray):List UInt8:=key wd.data.toList (ps.map (·.data.toList))
theorem SO:∀(ps:List ByteArray),(((ps.map (·.data.toList)).map esc).map List.length).sum≤2*(ps.map ByteArray.size).sum
 | []=>by simp
 | p::ps=>by
   have:=SO ps;have h1:=IA p.data.toList;rw [Ah] at h1;simp only [List.map_cons,List.sum_cons]
   omega
theorem IC (wd:ByteArray) (ps:List ByteArray):(Fp wd ps).length≤2*tot wd ps:=by
 have h1:=IA wd.data.toList;have h2:=SO ps;rw [Ah] at h1;rw [Fp,key,Ol];simp only [List.length_map,tot] at h2 ⊢
 omega
theorem On (wd:ByteArray) (ps:List ByteArray):Lib.join ((fms wd ps ps.length).map (·.data.toList)) [47]=Fp wd ps:=by
 rw [fms,List.take_length,List.map_cons,Ml,Fp,key];simp only [List.map_map]
 rfl
theorem Zy {w:World} {base:Nat} {e:TypeId} {v:Value} {n:Nat} {xs:List Value} (h:w.ownsRow base e 1 v n xs):∀ A n c,v=.slice A n c→n≤c:=by
 intro A m c hv
 rcases h.2 with⟨rfl,hn⟩|⟨g,cap,cur,rfl,hb,hg,hc,_⟩
 ·cases hv;exact Nat.le_refl _
 ·cases hv;exact hc
theorem bY (wd:ByteArray) (v:Value) (ps:List ByteArray) (w:World) (hL:ED w) (hT:Txs w w.heap.size v ps) (ht:tot wd ps≤10000000) :
  Calls qP 85 #[.string wd,v] w fun e w'=>e=.returned (.string (bs (Fp wd ps)))∧Below w.heap.size w w':=by
 have hbig:ps.length≤10000000:=by unfold tot at ht;omega
 have H1:=qH (fun w hL=>SL wd (by unfold tot at ht;omega) w hL);have H2:=qH (fun k (h:k<ps.length) w hL=>SL ps[k] (by have:=QM (List.getElem_mem h);unfold tot at ht;omega) w hL);have HK:=qH (IC wd ps);have HT:=qH ht;clear ht;obtain⟨A,c,rfl,hc⟩:=hT;have HC:=qH hc;clear hc
 have hmk:∀ W:World,(Instr.makeSlice 74 (.int .i64 0) (.int .i64 (1+(ps.length:Int)))).run qP W=.ok (.slice (some ⟨W.heap.size,0,none⟩) 0 (1+ps.length)) (W.alloc (.cells (madeCells #[.string .empty] (1+ps.length)) 9)):=fun W=>by
  have:=L8 (1+ps.length) (by omega) W
  simpa using this
 have HO:=qH (Nb (1+ps.length) (by omega) w);go_enter Tryz.func85,Tryz.ntmps85
 go_wp2_with fail
 clear hmk;have HO:=HO.out;generalize w.alloc (.cells (madeCells #[.string .empty] (1+ps.length)) 9)=w1 at *;refine(H1.out w1 (hL.next HO.2.1)).mono ?_;rintro e w2 ⟨rfl,b2⟩
 replace HO:=HO.after b2
 clear b2
 go_wp2_with (at_builtin;go_must (refine Bi rfl _ _ rfl w.heap.size (.slice (some ⟨w.heap.size,0,none⟩) 0 (1+ps.length)) [] rfl w w2 _ HO rfl (by simp) ?_))
 intro v3 w3 HO3;have R0:Aq w.heap.size v3 (fms wd ps 0) w w3:=HO3;clear HO HO3;go_wp2
 go_loopw [5,19] (fun v i wr=>∃ k:Nat,k≤ps.length∧i=.int .i64 k∧Aq w.heap.size v (fms wd ps k) w wr) (fun _ i _=>ps.length-(intOf i).toNat)
 case atStart=>exact⟨0,Nat.zero_le _,rfl,R0⟩
 case round =>
  clear R0;obtain⟨k,hk,rfl,hown⟩:=hrel;by_cases hlt:k<ps.length
  ·obtain⟨b,off,rfl,hb,hcell⟩:=HC.out k hlt
   have c1:wr.cell? ⟨b,off+k,none⟩=some (.string ps[k]):=(hown.2.1.cell (p:=⟨b,off+k,none⟩) hb).trans hcell
   have hi1:(k:Int)<(ps.length:Int):=by omega
   have HX:=qH (H2.out k hlt wr (hL.next hown.2.1));have HF:=qH (Wg wd ps k hlt);have HN:=qH (SN wd ps k hk);generalize ps[k]=p at *;clear hcell
   go_wp2_with fail
   refine HX.out.mono ?_;rintro e w2 ⟨rfl,b2⟩
   replace hown:=hown.after b2
   clear b2 c1
   go_wp2_with (at_builtin;go_must (refine Bi rfl _ _ rfl w.heap.size u5 (fms wd ps k) rfl w w2 _ hown rfl (by rw [HN.out];omega) ?_))
   intro v4 w4 HO4;rw [HF.out] at HO4;go_wp2
   go_roundw
   case rel=>exact⟨k+1,by omega,by go_num,HO4⟩
   case measure=>simp [intOf];omega
  ·obtain rfl:k=ps.length:=by omega
   have HJ:=qH (Zv u5 (fms wd ps ps.length) _ wr hown.txs (Nat.le_refl _) (Zy hown.1) (by simp [fms]) (by rw [SN _ _ _ hk];omega) (by rw [On];have:=HK.out;have:=HT.out;omega));rw [On] at HJ;have hbel:=hown.2.1;clear hown
   go_wp2_with fail
   refine HJ.out.mono ?_;rintro e w2 ⟨rfl,b2⟩;go_wp2
   go_ret
   exact⟨rfl,Ae hbel b2⟩
end Go.Proofs.YtkejaepmoabikaaGreatDoor.W
namespace Go.Proofs.YtkejaepmoabikaaGreatDoor.W
theorem JN (d:Nat) (h:d<10):Lib.digitVal (UInt8.ofNat (48+d))=some d:=by
 have e:(UInt8.ofNat (48+d)).toNat=48+d:=by rw [UInt8.toNat_ofNat'];omega
 unfold Lib.digitVal;rw [e,if_pos (by omega)]
 congr 1
 omega
theorem EF:∀(a b:List UInt8) (acc:Nat),Lib.decFrom acc (a++b)=(Lib.decFrom acc a).bind fun m=>Lib.decFrom m b
 | [],b,acc=>rfl
 | x::r,b,acc=>by
   simp only [List.cons_append,Lib.decFrom]
   cases Lib.digitVal x with
   | none=>rfl
   | some d=>exact EF r b _
theorem EW (n:Nat):Lib.decFrom 0 (dcm n)=some n:=by
 induction n using Nat.strongRecOn with
 | ind n ih =>
   by_cases h:n<10
   ·rw [Dq h]
    simp only [Lib.decFrom,JN n h];simp
   ·rw [GX h,EF,ih (n/10) (by omega)]
    simp only [Option.bind_some,Lib.decFrom,JN (n%10) (by omega)]
    congr 1
    omega
theorem Mm (n:Nat):∀ b ∈ dcm n,48≤b.toNat∧b.toNat≤57:=by
 induction n using Nat.strongRecOn with
 | ind n ih =>
   intro b hb;by_cases h:n<10
   ·rw [Dq h] at hb
    simp only [List.mem_singleton] at hb;subst hb;rw [UInt8.toNat_ofNat']
    omega
   ·rw [GX h] at hb
    rcases List.mem_append.mp hb with hb|hb
    ·exact ih (n/10) (by omega) b hb
    ·simp only [List.mem_singleton] at hb
     subst hb;rw [UInt8.toNat_ofNat']
     omega
theorem Fa (n:Nat) (h:n≤1099511627776):(dcm n).length≤13:=Id 12 n (by omega)
theorem Oo (n:Nat):∃ c r,dcm n=c::r∧48≤c.toNat∧c.toNat≤57:=by
 cases h:dcm n with
 | nil =>
   have:=EW n;by_cases h1:n<10
   ·rw [Dq h1] at h;cases h
   ·rw [GX h1] at h;simp at h
 | cons c r=>exact⟨c,r,rfl,Mm n c (by rw [h];simp)⟩
theorem Zz (n:Nat):1≤(dcm n).length:=by
 obtain⟨c,r,h,_⟩:=Oo n;rw [h];simp
theorem Wh (n:Nat) (h:n≤1099511627776):Lib.atoiAll (dcm n)=.ok (n:Int):=by
 obtain⟨c,r,e,h1,h2⟩:=Oo n;have hl:=Fa n h;have hf:=EW n;rw [e] at hl hf ⊢;rw [Lib.atoiAll_plain c r (by omega) (by omega),Lib.signless_short (by omega)]
 have:Lib.decNat (c::r)=some n:=by simp [Lib.decNat,hf]
 rw [this]
 rfl
def wd (k:Int):List UInt8 :=
 if k=1 then [99,104,97,110,110,101,108,45] else if k=2 then [99,111,110,110,101,99,116,105,111,110,45] else if k=3 then [99,108,105,101,110,116,45] else []
def mkE (k n:Int):Int:=if wd k=[] then 1 else if n<0∨1099511627776<n then 3 else 0
def mkS (k n:Int):List UInt8:=if mkE k n=0 then wd k++dcm n.toNat else []
def JO (k:Int) (l:List UInt8):Option Int :=
 match Lib.decFrom 0 (l.drop (wd k).length) with
 | some n=>if mkE k n=0∧mkS k n=l then some (n:Int) else none
 | none=>none
theorem Oq {k n:Int} (h:mkE k n=0):wd k≠[]∧0≤n∧n≤1099511627776:=by
 unfold mkE at h
 split at h
 ·cases h
 ·rename_i h1
  split at h
  ·cases h
  ·exact⟨h1,by omega,by omega⟩
theorem FO (k:Int) (l:List UInt8) (n:Int):JO k l=some n↔mkE k n=0∧mkS k n=l:=by
 constructor
 ·intro h
  unfold JO at h
  split at h
  ·split at h
   ·rename_i hh
    injection h with h
    subst h;exact hh
   ·cases h
  ·cases h
 ·rintro⟨h1,h2⟩
  obtain⟨hw,h0,hn⟩:=Oq h1
  have e:l=wd k++dcm n.toNat:=by rw [←h2,mkS,if_pos h1]
  have hc:((n.toNat:Nat):Int)=n:=by omega
  unfold JO;rw [e,List.drop_left,EW];simp only [hc];rw [if_pos ⟨h1,by rw [mkS,if_pos h1]⟩]
def nmN (k:Int) (l:List UInt8):Int:=(JO k l).getD 0
def nmE (k:Int) (l:List UInt8):Int:=if wd k=[] then 1 else if (JO k l).isSome then 0 else 7
theorem ZA {k:Int} (h:wd k=[]) (l:List UInt8):nmN k l=0∧nmE k l=1:=by
 refine⟨?_,by rw [nmE,if_pos h]⟩;unfold nmN
 cases e:JO k l with
 | none=>rfl
 | some n=>exact absurd h (Oq ((FO k l n).mp e).1).1
theorem dK {k n:Int} {l:List UInt8} (h1:mkE k n=0) (h2:mkS k n=l):nmN k l=n∧nmE k l=0:=by
 have e:=(FO k l n).mpr ⟨h1,h2⟩;exact⟨by rw [nmN,e];rfl,by rw [nmE,if_neg (Oq h1).1,e];rfl⟩
theorem gL {k:Int} {l:List UInt8} (hw:wd k≠[]) (h:∀ n,mkE k n=0→mkS k n≠l):nmN k l=0∧nmE k l=7:=by
 have e:JO k l=none:=by
  cases e:JO k l with
  | none=>rfl
  | some n=>exact absurd ((FO k l n).mp e).2 (h n ((FO k l n).mp e).1)
 exact⟨by rw [nmN,e];rfl,by rw [nmE,if_neg hw,e];rfl⟩
theorem Ot {k n:Int} {l:List UInt8} (h1:mkE k n=0) (h2:mkS k n=l):l=wd k++dcm n.toNat∧0≤n∧n≤1099511627776:=by
 obtain⟨_,h0,hn⟩:=Oq h1;exact⟨by rw [←h2,mkS,if_pos h1],h0,hn⟩
def ltr (c:UInt8):Bool :=
 decide (97≤c.toNat∧c.toNat≤122)||decide (65≤c.toNat∧c.toNat≤90)||decide (48≤c.toNat∧c.toNat≤57)||decide (c.toNat=46)||decide (c.toNat=95)||decide (c.toNat=45)
def plain (l:List UInt8):Bool:=l.all ltr&&decide (1≤l.length)&&decide (l.length≤64)
def ck (k:Int) (l:List UInt8):Int :=
 if k<0∨6<k then 1 else if wd k=[] then (if plain l then 0 else 7) else nmE k l
end Go.Proofs.YtkejaepmoabikaaGreatDoor.W
namespace Go.Proofs.YtkejaepmoabikaaGreatDoor.W
open Lib (compareBytes)
theorem Ou:∀ a b:List UInt8,compareBytes a b=-1∨compareBytes a b=0∨compareBytes a b=1
 | [],[]=>by simp [compareBytes]
 | [],_::_=>by simp [compareBytes]
 | _::_,[]=>by simp [compareBytes]
 | a::ar,b::bs=>by
   unfold compareBytes
   split
   ·simp
   ·split
    ·simp
    ·exact Ou ar bs
theorem Ov {a b:UInt8} (h:a<b):¬b<a:=fun h2=>by
 rw [UInt8.lt_iff_toNat_lt] at h h2;omega
theorem Ow {a b:UInt8} (h:¬a<b) (h2:¬b<a):a=b:=by
 rw [UInt8.lt_iff_toNat_lt] at h h2;exact UInt8.toNat_inj.1 (by omega)
theorem SP:∀ a b:List UInt8,compareBytes b a=- compareBytes a b
 | [],[]=>by simp [compareBytes]
 | [],_::_=>by simp [compareBytes]
 | _::_,[]=>by simp [compareBytes]
 | a::ar,b::bs=>by
   unfold compareBytes;by_cases h:a<b
   ·simp [h,Ov h]
   ·by_cases h2:b<a
    ·simp [h2,Ov h2]
    ·simp [h,h2,SP ar bs]
theorem SQ:∀ a:List UInt8,compareBytes a a=0
 | []=>by simp [compareBytes]
 | a::ar=>by unfold compareBytes;simp [UInt8.lt_irrefl,SQ ar]
theorem SR:∀ {a b:List UInt8},compareBytes a b=0→a=b
 | [],[],_=>rfl
 | [],_::_,h=>by simp [compareBytes] at h
 | _::_,[],h=>by simp [compareBytes] at h
 | a::ar,b::bs,h=>by
   unfold compareBytes at h;by_cases h1:a<b
   ·simp [h1] at h
   ·by_cases h2:b<a
    ·simp [h1,h2] at h
    ·simp only [h1,h2,if_false] at h
     rw [Ow h1 h2,SR h]
theorem Ox:∀ {a b c:List UInt8},compareBytes a b=-1→compareBytes b c=-1→compareBytes a c=-1
 | [],_::_,_::_,_,_=>by simp [compareBytes]
 | [],[],_,h,_=>by simp [compareBytes] at h
 | _,_::_,[],_,h=>by simp [compareBytes] at h
 | _::_,[],_,h,_=>by simp [compareBytes] at h
 | a::ar,b::bs,c::cs,h,k=>by
   unfold compareBytes at h k ⊢;by_cases h1:a<b
   ·by_cases k1:b<c
    ·have:a<c:=by rw [UInt8.lt_iff_toNat_lt] at *;omega
     simp [this]
    ·by_cases k2:c<b
     ·simp [k1,k2] at k
     ·have e:=Ow k1 k2
      subst e;simp [h1]
   ·by_cases h2:b<a
    ·simp [h1,h2] at h
    ·have e:=Ow h1 h2
     subst e;simp only [h1,if_false] at h;by_cases k1:a<c
     ·simp [k1]
     ·by_cases k2:c<a
      ·simp [k1,k2] at k
      ·simp only [k1,k2,if_false] at k ⊢
       exact Ox h k
theorem Mn:∀ {p a:List UInt8},p.isPrefixOf a=true→compareBytes a p≠-1
 | [],[],_=>by simp [compareBytes]
 | [],_::_,_=>by simp [compareBytes]
 | _::_,[],h=>by simp at h
 | p::ps,a::ar,h=>by
   simp only [List.isPrefixOf_cons_cons,Bool.and_eq_true,beq_iff_eq] at h;obtain⟨rfl,h⟩:=h;unfold compareBytes;simp only [UInt8.lt_irrefl,if_false];exact Mn h
theorem KL:∀ {p a b:List UInt8},compareBytes a p≠-1→compareBytes a b=-1→p.isPrefixOf b=true→p.isPrefixOf a=true
 | [],_,_,_,_,_=>by simp
 | _::_,_,[],_,_,h=>by simp at h
 | _::_,[],_,h,_,_=>by simp [compareBytes] at h
 | p::ps,a::ar,b::bs,h,k,hb=>by
   simp only [List.isPrefixOf_cons_cons,Bool.and_eq_true,beq_iff_eq] at hb ⊢;obtain⟨rfl,hb⟩:=hb;unfold compareBytes at h k;by_cases h1:a<p
   ·simp [h1] at h
   ·by_cases h2:p<a
    ·simp [h1,h2] at k
    ·have e:=Ow h1 h2
     subst e;simp only [h1,if_false] at h k;exact⟨rfl,KL h k hb⟩
def kc (a b:ByteArray):Int:=compareBytes a.data.toList b.data.toList
theorem De (a b:ByteArray):kc a b=-1∨kc a b=0∨kc a b=1:=Ou _ _
theorem SU (a b:ByteArray):kc b a=- kc a b:=SP _ _
theorem DU (a:ByteArray):kc a a=0:=SQ _
theorem DV {a b:ByteArray} (h:kc a b=0):a=b:=by
 rw [←Ch a,←Ch b,SR h]
theorem Df {a b c:ByteArray} (h:kc a b=-1) (k:kc b c=-1):kc a c=-1:=Ox h k
theorem Ek {a b:ByteArray} (h:kc a b=-1):a≠b:=fun e=>by rw [e,DU] at h;cases h
theorem SX {a b:ByteArray} (h:kc a b=-1):kc b a=1:=by rw [SU,h];rfl
theorem JP {a b:ByteArray} (h:kc a b=1):kc b a=-1:=by rw [SU,h]
def pfx (p k:ByteArray):Bool:=p.data.toList.isPrefixOf k.data.toList
abbrev KV:=ByteArray×ByteArray
def Up (l:List KV):Prop:=l.Pairwise fun x y=>kc x.1 y.1=-1
def AD (l:List KV) (k:ByteArray):Option ByteArray:=(l.find? fun x=>decide (x.1=k)).map Prod.snd
def Jo (l:List KV) (k:ByteArray):List KV:=l.filter fun x=>decide (x.1≠k)
def Az:List KV→ByteArray→ByteArray→List KV
 | [],k,v=>[(k,v)]
 | x::r,k,v=>if kc k x.1=-1 then (k,v)::x::r else if kc k x.1=0 then (k,v)::r else x::Az r k v
def Oy (l:List KV) (p:ByteArray):List KV:=l.filter fun x=>pfx p x.1
def CV (l:List KV) (low:ByteArray):List KV:=l.filter fun x=>decide (kc x.1 low≠-1)
section
variable {A B:List KV} {x:KV} {k v:ByteArray}
theorem Fh (h:Up (A++x::B)):Up A∧Up B∧(∀ a ∈ A,kc a.1 x.1=-1)∧(∀ b ∈ B,kc x.1 b.1=-1)∧∀ a ∈ A,∀ b ∈ B,kc a.1 b.1=-1:=by
 unfold Up at *;rw [List.pairwise_append,List.pairwise_cons] at h;obtain⟨h1,⟨h2,h3⟩,h4⟩:=h;exact⟨h1,h3,fun a ha=>h4 a ha x (by simp),h2,fun a ha b hb=>h4 a ha b (by simp [hb])⟩
theorem Uw (h:kc k x.1=-1):Az (A++x::B) k v=Az A k v++x::B:=by
 induction A with
 | nil=>simp [Az,h]
 | cons a A ih =>
   simp only [List.cons_append,Az]
   split
   ·rfl
   ·split
    ·rfl
    ·rw [ih];rfl
theorem Mo (h:∀ a ∈ A,kc k a.1=1) (l:List KV):Az (A++l) k v=A++Az l k v:=by
 induction A with
 | nil=>rfl
 | cons a A ih =>
   have h1:=h a (by simp);simp only [List.cons_append,Az];rw [if_neg (by rw [h1];decide),if_neg (by rw [h1];decide),ih (fun b hb=>h b (by simp [hb]))]
theorem QN (hu:Up (A++x::B)) (h:kc k x.1=1):Az (A++x::B) k v=A++x::Az B k v:=by
 obtain⟨_,_,h1,_,_⟩:=Fh hu;rw [Mo (fun a ha=>SX (Df (h1 a ha) (JP h)))];simp only [Az];rw [if_neg (by rw [h];decide),if_neg (by rw [h];decide)]
theorem Mp (hu:Up (A++x::B)) (h:kc k x.1=0):Az (A++x::B) k v=A++(k,v)::B:=by
 obtain⟨_,_,h1,_,_⟩:=Fh hu;have e:=DV h;rw [Mo (fun a ha=>by rw [e];exact SX (h1 a ha))];simp only [Az];rw [if_neg (by rw [h];decide),if_pos h]
theorem Oz {l:List KV} {y:KV} (h:y ∈ Az l k v):y=(k,v)∨y ∈ l:=by
 induction l with
 | nil=>simpa [Az] using h
 | cons a r ih =>
   simp only [Az] at h
   split at h
   ·simpa using h
   ·split at h
    ·simp at h
     rcases h with h|h
     ·exact .inl h
     ·exact .inr (by simp [h])
    ·simp at h
     rcases h with h|h
     ·exact .inr (by simp [h])
     ·rcases ih h with h|h
      ·exact .inl h
      ·exact .inr (by simp [h])
theorem FP {l:List KV} (hu:Up l):Up (Az l k v):=by
 unfold Up at *
 induction l with
 | nil=>simp [Az]
 | cons a r ih =>
   rw [List.pairwise_cons] at hu;simp only [Az]
   split
   ·rename_i h
    rw [List.pairwise_cons,List.pairwise_cons];refine⟨fun y hy=>?_,hu⟩;simp at hy
    rcases hy with rfl|hy
    ·exact h
    ·exact Df h (hu.1 y hy)
   ·rename_i h1
    split
    ·rename_i h
     rw [List.pairwise_cons];have e:=DV h;exact⟨fun y hy=>by rw [e];exact hu.1 y hy,hu.2⟩
    ·rename_i h2
     rw [List.pairwise_cons];refine⟨fun y hy=>?_,ih hu.2⟩
     have h3:kc k a.1=1:=by rcases De k a.1 with h|h|h<;>simp_all
     rcases Oz hy with rfl|hy
     ·exact JP h3
     ·exact hu.1 y hy
theorem CJ (l:List KV):(Az l k v).length≤l.length+1:=by
 induction l with
 | nil=>simp [Az]
 | cons a r ih =>
   simp only [Az]
   split
   ·simp
   ·split
    ·simp
    ·simp only [List.length_cons];omega
theorem GA (l m:List KV):AD (l++m) k=(AD l k).or (AD m k):=by
 unfold AD;rw [List.find?_append]
 cases l.find? (fun x=>decide (x.1=k))<;>simp
theorem Et {l:List KV} (h:∀ y ∈ l,y.1≠k):AD l k=none:=by
 unfold AD;rw [List.find?_eq_none.2 (fun y hy=>by simpa using h y hy)]
 rfl
theorem Dx (h:x.1≠k) (B:List KV):AD (x::B) k=AD B k:=by
 unfold AD;rw [List.find?_cons_of_neg (by simpa using h)]
theorem Dy (h:x.1=k) (B:List KV):AD (x::B) k=some x.2:=by
 unfold AD;rw [List.find?_cons_of_pos (by simpa using h)]
 rfl
theorem Ux (hu:Up (A++x::B)) (h:kc k x.1=-1):AD (A++x::B) k=AD A k:=by
 obtain⟨_,_,_,h2,_⟩:=Fh hu;rw [GA,Et (l:=x::B)]
 ·cases AD A k<;>rfl
 ·intro y hy
  simp at hy
  rcases hy with rfl|hy
  ·exact(Ek h).symm
  ·exact(Ek (Df h (h2 y hy))).symm
theorem QO (hu:Up (A++x::B)) (h:kc k x.1=1):AD (A++x::B) k=AD B k:=by
 obtain⟨_,_,h1,_,_⟩:=Fh hu;rw [GA,Et (l:=A) (fun y hy=>Ek (Df (h1 y hy) (JP h))),Dx (Ek (JP h))]
 rfl
theorem Uy (hu:Up (A++x::B)) (h:kc k x.1=0):AD (A++x::B) k=some x.2:=by
 obtain⟨_,_,h1,_,_⟩:=Fh hu;have e:=DV h;rw [GA,Et (l:=A) (fun y hy=>by rw [e];exact Ek (h1 y hy)),Dy e.symm]
 rfl
theorem Mq {l:List KV} (h:∀ y ∈ l,y.1≠k):Jo l k=l:=by
 unfold Jo;rw [List.filter_eq_self];intro y hy
 simpa using h y hy
theorem ID (h:x.1≠k) (B:List KV):Jo (x::B) k=x::Jo B k:=List.filter_cons_of_pos (by simpa using h)
theorem IE (h:x.1=k) (B:List KV):Jo (x::B) k=Jo B k:=List.filter_cons_of_neg (by simpa using h)
end
theorem Uz {l:List KV} (hu:Up l) (k v:ByteArray):(Az l k v).length=if (AD l k).isSome then l.length else l.length+1:=by
 induction l with
 | nil=>simp [Az,AD]
 | cons a r ih =>
   have hu':=hu;unfold Up at hu;rw [List.pairwise_cons] at hu;simp only [Az]
   rcases De k a.1 with h|h|h
   ·rw [if_pos h,Et]
    ·simp
    ·intro y hy
     simp at hy
     rcases hy with rfl|hy
     ·exact(Ek h).symm
     ·exact(Ek (Df h (hu.1 y hy))).symm
   ·rw [if_neg (by rw [h];decide),if_pos h,Dy (DV h).symm]
    simp
   ·rw [if_neg (by rw [h];decide),if_neg (by rw [h];decide),Dx (Ek (JP h))]
    simp only [List.length_cons,ih hu.2]
    split<;>simp
theorem OC {l:List KV} {k:ByteArray} (h:AD l k=none):Jo l k=l:=by
 refine Mq fun y hy e=>?_;unfold AD at h;rw [Option.map_eq_none_iff,List.find?_eq_none] at h;exact h y hy (by simpa using e)
theorem UA {A B:List KV} {x:KV} {low:ByteArray} (hu:Up (A++x::B)) (h:kc x.1 low=-1):CV (A++x::B) low=CV B low:=by
 obtain⟨_,_,h1,_,_⟩:=Fh hu;unfold CV;rw [List.filter_append,List.filter_cons_of_neg (by simp [h]),List.filter_eq_nil_iff.2 (fun a ha=>by simp [Df (h1 a ha) h])]
 rfl
theorem QP {A B:List KV} {x:KV} {low:ByteArray} (h:kc x.1 low≠-1):CV (A++x::B) low=CV A low++x::CV B low:=by
 unfold CV;rw [List.filter_append,List.filter_cons_of_pos (by simp [h])]
theorem Wi {p k:ByteArray} (h:pfx p k=true):kc k p≠-1:=Mn h
theorem OD {p a b:ByteArray} (h:kc a p≠-1) (k:kc a b=-1) (hb:pfx p b=true):pfx p a=true:=KL h k hb
theorem Wj {l:List KV} {p:ByteArray} (hu:Up l) (h:∀ x ∈ l,kc x.1 p≠-1):l.takeWhile (fun x=>pfx p x.1)=l.filter (fun x=>pfx p x.1):=by
 induction l with
 | nil=>rfl
 | cons a r ih =>
   unfold Up at hu;rw [List.pairwise_cons] at hu;rw [List.takeWhile_cons,List.filter_cons]
   split
   ·rw [ih hu.2 (fun x hx=>h x (by simp [hx]))]
   ·rename_i ha
    symm
    rw [List.filter_eq_nil_iff];intro x hx hp;exact ha (OD (h a (by simp)) (hu.1 x hx) hp)
theorem Nc {l:List KV} {p:ByteArray} (hu:Up l):(CV l p).takeWhile (fun x=>pfx p x.1)=Oy l p:=by
 have hu2:Up (CV l p):=List.Pairwise.filter _ hu;rw [Wj hu2 (fun x hx=>by simpa using (List.mem_filter.1 hx).2)];unfold CV Oy;rw [List.filter_filter]
 congr 1
 funext x
 cases h:pfx p x.1
 ·simp
 ·simp [Wi h]
end Go.Proofs.YtkejaepmoabikaaGreatDoor.W
