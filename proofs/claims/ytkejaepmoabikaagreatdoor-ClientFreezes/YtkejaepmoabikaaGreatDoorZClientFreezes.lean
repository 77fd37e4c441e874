/-
  footbridgelaw14.ClientFreezes returns true for any pairs, any time and any key, and changes nothing: two headers of one height, of unlike times, freeze a client; then it accepts no proofs and no headers. Condition: the tables, errors and the type of errors that the row lists start as the program's text lays them (tied by the card).
-/
import Derived.Test.YtkejaepmoabikaaGreatDoorCards
import Derived.Test.YtkejaepmoabikaaGreatDoorTie
import Derived.Deep.DeepHandedRow
import Derived.Test.YtkejaepmoabikaaGreatDoorZ2c
import Derived.Test.YtkejaepmoabikaaGreatDoorZ2a
import Derived.Test.YtkejaepmoabikaaGreatDoorZ1d
import Derived.Test.YtkejaepmoabikaaGreatDoorZ0f
namespace Go.Proofs.YtkejaepmoabikaaGreatDoor.clientFreezes
open Go.ChangeShapes Go.WideShapes Go.ChangeAt Go.RowKit
open Go.ChangeMaps (open_string shut_string)
open W
def wR : ByteArray := ⟨#[114]⟩
theorem signed {n t : Int} (h1 : 0 ≤ n) (h2 : n ≤ 9007199254740992) (h3 : 0 ≤ t) (h4 : t ≤ 9007199254740992) (W : World) :
  Calls Tryz.prog 14 #[.string cK, .agg #[.string cOther, .int .i64 n, .int .i64 t, .string wR, .string ⟨#[]⟩]] W fun en w' => en = .returned (.tuple #[hdV (signOf cK (hdAt n t wR)).1, .int .i64 0]) ∧ Since W w' := by
 obtain ⟨g1, _⟩ := sign_good cK _ (body_at h1 h2 h3 h4 (show wR.size ≤ 65536 by decide))
 have k := rSign cK (hdAt n t wR) W (by decide)
 unfold retHE at k
 rw [g1] at k
 exact k
theorem laid {n t : Int} (h1 : 0 ≤ n) (h2 : n ≤ 9007199254740992) (h3 : 0 ≤ t) (h4 : t ≤ 9007199254740992) (W : World) :
  Calls Tryz.prog 15 #[hdV (signOf cK (hdAt n t wR)).1] W fun en w' => en = .returned (.tuple #[.string (rawOf cK (hdAt n t wR)), .int .i64 0]) ∧ Since W w' := by
 obtain ⟨_, _, g3, _⟩ := sign_good cK _ (body_at h1 h2 h3 h4 (show wR.size ≤ 65536 by decide))
 have k := rHPut (signOf cK (hdAt n t wR)).1 W
 unfold retSE at k
 rw [g3] at k
 exact k
theorem nTx_some (n : Int) : nTx n ≠ ⟨#[]⟩ := fun e => by
 have h : (nTx n).size = 14 := by unfold nTx; rw [bs_size, lowd_len]
 rw [e] at h
 exact absurd h (by decide)
set_option maxRecDepth 100000 in
theorem walk (w : World) (E : Fit w) (v : Value) (l : List KV) (hP : Prs w v l) (time : Int) (ht0 : 0 ≤ time) (ht1 : time ≤ 65535) (key : ByteArray) (_hk : key.size ≤ maxLen) :
  Calls Tryz.prog 4 #[v, .int .u16 time, .string key] w fun e w' => e = .returned (.bool true) ∧ Below w.heap.size w w' := by
 have FW := Lib.hid (fun W (hW : Since w W) => (few14C v l 10 W (hP.below hW.below) (by omega)).mono fun e w' (h : e = .returned (.bool (decide (l.length ≤ 10 ∧ Small14 l))) ∧ Below W.heap.size W w') => And.intro h.1 (since_of h.2))
 have AW := Lib.hid (fun W (hW : Since w W) => awake14 W (E.since hW))
 have hP0 := hP
 obtain ⟨A, cap, rfl, _, _⟩ := hP0
 by_cases hc : (l.length ≤ 10 ∧ Small14 l) ∧ key.size ≤ 100
 ·obtain ⟨⟨hl, hs⟩, hkey⟩ := hc
  rw [decide_eq_true (And.intro hl hs)] at FW
  have hF := far14 (by omega) hs
  obtain ⟨x2, hx2⟩ : ∃ x2, x2 = bs (rootOf (farOf l)) := ⟨_, rfl⟩
  have hsz : x2.size = 32 := by rw [hx2, bs_size]; exact shaOf_len _
  have hg := get_2 3 x2
  have hsee := see_2 (t := 3) (r := x2) (by decide) (by decide) (by omega)
  have hz1 := store1_sized (t := 3) (r := x2) (by omega)
  have hz2 : Sized (store2 3 x2) := Sized.set hz1 (by decide +kernel) (by decide +kernel)
  have hu1 := upd_1 (t := 3) (u := time + 4) (r := x2) (q := wR) (by decide) (by decide) (by omega) (by omega) (by omega) (by decide) (by omega)
  have hcc : wR.size ≤ 1000 := by decide
  refine (frz_this A l.length cap time ht0 ht1 key hkey w (store1 3 x2) (store2 3 x2) (farOf l) _ _ _ _ _ _ _ _ _ _ (rawOf cK (hdAt 1 (time + 4) wR)) (rawOf cK (hdAt 2 (time + 4) wR)) ((lget (farOf l) key).getD ⟨#[]⟩) (prOf (farOf l) key) (nTx 1) x2 (lget (farOf l) key).isSome (nTx_some 1) FW (Lib.hid fun W hW => beginC14 W (E.since hW))
   (Lib.hid fun W S j B q r hW hJ hPs hn => ?_) (Lib.hid fun W _ => signed (by decide) (by decide) (by omega) (by omega) W) (Lib.hid fun W _ => laid (by decide) (by decide) (by omega) (by omega) W) (Lib.hid fun W _ => signed (by decide) (by decide) (by omega) (by omega) W) (Lib.hid fun W _ => laid (by decide) (by decide) (by omega) (by omega) W)
   (Lib.hid fun W S j hW hJ => ?_) (Lib.hid fun W S j hW hJ => ?_) (Lib.hid fun W A q r _ hp => rGet _ (farOf l) key W hp hF.up (by have := hF.len; omega)) (Lib.hid fun W j A q r A2 q2 r2 _ hp => at14 _ A A2 q r q2 r2 1 (farOf l) key ⟨#[]⟩ W hF hp)
   (Lib.hid fun W S j hW hJ => ?_) (Lib.hid fun W S j hW hJ => ?_) (Lib.hid fun W S j hW hJ => ?_) (Lib.hid fun W _ => rNumber14 1 W) AW).mono fun _ _ ⟨he, hb⟩ => ⟨he, hb.below⟩
  ·have k := tellC14 j 14 S B A q r cap 3 l W (E.since hW) (by omega) (by decide) hJ (by decide) (by decide) hPs hn (hP.below hW.below)
   rw [← hx2] at k
   exact k
  ·have k := clUpd hJ hz1 (E.since hW) cId (rawOf cK (hdAt 1 (time + 4) wR)) (by decide) (by have := raw_size (key := cK) (h := hdAt 1 (time + 4) wR) (by show cOther.size ≤ 1000; decide) hcc; omega) (fun _ => by rw [get_1]; exact ⟨by show cOther.size ≤ 1000; decide, by show cK.size ≤ 60000; decide, by decide, by decide⟩) (by omega)
   rw [hu1] at k
   exact k
  ·have A := Lib.hid (fun V (hV : Since W V) => activeC (hJ.below hV.below) hz2 (E.since (since_two hW hV)).play cId (by decide))
   unfold cAct at A
   rw [hg] at A
   exact cup_e1 j cId _ ⟨#[]⟩ ⟨#[]⟩ 0 false 12 (by decide) W A
  ·have k := hasP14 hJ hz2 (E.since hW).play (E.since hW).roots cId (by decide) 1 (prOf (farOf l) key) (prOf_size hF _) (key, (lget (farOf l) key).getD ⟨#[]⟩)
   rw [has_frozen hg rfl] at k
   exact k
  ·have k := lacksP14 hJ hz2 (E.since hW).play (E.since hW).roots cId (by decide) 1 (prOf (farOf l) key) (prOf_size hF _) key
   rw [lacks_frozen hg rfl] at k
   exact k
  ·have k := seeC hJ hz2 (E.since hW).play cId (by decide) 1
   rw [hsee] at k
   exact k
 ·refine (frz_no A l.length cap time key _ ?_ w FW AW).mono fun _ _ ⟨he, hb⟩ => ⟨he, hb.below⟩
  by_cases h1 : l.length ≤ 10 ∧ Small14 l
  ·exact .inr (by have : ¬ key.size ≤ 100 := fun h => hc ⟨h1, h⟩; omega)
  ·exact .inl (decide_eq_false h1)
noncomputable def low : Nat := (World.holding Tryz.prog default ⟨#[], #[], []⟩).heap.size
noncomputable def laidWorld (os : Os) : World :=
 { World.holding Tryz.prog os ⟨#[.cells #[.string ⟨#[118, 97, 108, 117, 101, 32, 111, 117, 116, 32, 111, 102, 32, 114, 97, 110, 103, 101]⟩] 316, .cells #[.string ⟨#[105, 110, 118, 97, 108, 105, 100, 32, 115, 121, 110, 116, 97, 120]⟩] 316], #[], []⟩ with heap := ((((((((((World.holding Tryz.prog os ⟨#[.cells #[.string ⟨#[118, 97, 108, 117, 101, 32, 111, 117, 116, 32, 111, 102, 32, 114, 97, 110, 103, 101]⟩] 316, .cells #[.string ⟨#[105, 110, 118, 97, 108, 105, 100, 32, 115, 121, 110, 116, 97, 120]⟩] 316], #[], []⟩).heap.modify 8 (fun | .cells _ t frozen => .cells #[.int .u8 0, .int .u8 1, .int .u8 28, .int .u8 2, .int .u8 29, .int .u8 14, .int .u8 24, .int .u8 3, .int .u8 30, .int .u8 22, .int .u8 20, .int .u8 15, .int .u8 25, .int .u8 17, .int .u8 4, .int .u8 8, .int .u8 31, .int .u8 27, .int .u8 13, .int .u8 23, .int .u8 21, .int .u8 19, .int .u8 16, .int .u8 7, .int .u8 26, .int .u8 12, .int .u8 18, .int .u8 6, .int .u8 11, .int .u8 5, .int .u8 10, .int .u8 9] t frozen | o => o)).modify 9 (fun | .cells _ t frozen => .cells #[.int .u8 0, .int .u8 1, .int .u8 56, .int .u8 2, .int .u8 57, .int .u8 49, .int .u8 28, .int .u8 3, .int .u8 61, .int .u8 58, .int .u8 42, .int .u8 50, .int .u8 38, .int .u8 29, .int .u8 17, .int .u8 4, .int .u8 62, .int .u8 47, .int .u8 59, .int .u8 36, .int .u8 45, .int .u8 43, .int .u8 51, .int .u8 22, .int .u8 53, .int .u8 39, .int .u8 33, .int .u8 30, .int .u8 24, .int .u8 18, .int .u8 12, .int .u8 5, .int .u8 63, .int .u8 55, .int .u8 48, .int .u8 27, .int .u8 60, .int .u8 41, .int .u8 37, .int .u8 16, .int .u8 46, .int .u8 35, .int .u8 44, .int .u8 21, .int .u8 52, .int .u8 32, .int .u8 23, .int .u8 11, .int .u8 54, .int .u8 26, .int .u8 40, .int .u8 15, .int .u8 34, .int .u8 20, .int .u8 31, .int .u8 10, .int .u8 25, .int .u8 14, .int .u8 19, .int .u8 9, .int .u8 13, .int .u8 8, .int .u8 7, .int .u8 6] t frozen | o => o)).modify 2 (fun | .cells _ t frozen => .cells #[.int .u32 1116352408, .int .u32 1899447441, .int .u32 3049323471, .int .u32 3921009573, .int .u32 961987163, .int .u32 1508970993, .int .u32 2453635748, .int .u32 2870763221, .int .u32 3624381080, .int .u32 310598401, .int .u32 607225278, .int .u32 1426881987, .int .u32 1925078388, .int .u32 2162078206, .int .u32 2614888103, .int .u32 3248222580, .int .u32 3835390401, .int .u32 4022224774, .int .u32 264347078, .int .u32 604807628, .int .u32 770255983, .int .u32 1249150122, .int .u32 1555081692, .int .u32 1996064986, .int .u32 2554220882, .int .u32 2821834349, .int .u32 2952996808, .int .u32 3210313671, .int .u32 3336571891, .int .u32 3584528711, .int .u32 113926993, .int .u32 338241895, .int .u32 666307205, .int .u32 773529912, .int .u32 1294757372, .int .u32 1396182291, .int .u32 1695183700, .int .u32 1986661051, .int .u32 2177026350, .int .u32 2456956037, .int .u32 2730485921, .int .u32 2820302411, .int .u32 3259730800, .int .u32 3345764771, .int .u32 3516065817, .int .u32 3600352804, .int .u32 4094571909, .int .u32 275423344, .int .u32 430227734, .int .u32 506948616, .int .u32 659060556, .int .u32 883997877, .int .u32 958139571, .int .u32 1322822218, .int .u32 1537002063, .int .u32 1747873779, .int .u32 1955562222, .int .u32 2024104815, .int .u32 2227730452, .int .u32 2361852424, .int .u32 2428436474, .int .u32 2756734187, .int .u32 3204031479, .int .u32 3329325298] t frozen | o => o)).modify 5 (fun | .cells _ t frozen => .cells #[.int .u64 1, .int .u64 10, .int .u64 100, .int .u64 1000, .int .u64 10000, .int .u64 100000, .int .u64 1000000, .int .u64 10000000, .int .u64 100000000, .int .u64 1000000000, .int .u64 10000000000, .int .u64 100000000000, .int .u64 1000000000000, .int .u64 10000000000000, .int .u64 100000000000000, .int .u64 1000000000000000, .int .u64 10000000000000000, .int .u64 100000000000000000, .int .u64 1000000000000000000, .int .u64 10000000000000000000] t frozen | o => o)).modify 7 (fun | .cells _ t frozen => .cells #[.int .u8 128, .int .u8 191, .int .u8 160, .int .u8 191, .int .u8 128, .int .u8 159, .int .u8 144, .int .u8 191, .int .u8 128, .int .u8 143, .int .u8 0, .int .u8 0, .int .u8 0, .int .u8 0, .int .u8 0, .int .u8 0, .int .u8 0, .int .u8 0, .int .u8 0, .int .u8 0, .int .u8 0, .int .u8 0, .int .u8 0, .int .u8 0, .int .u8 0, .int .u8 0, .int .u8 0, .int .u8 0, .int .u8 0, .int .u8 0, .int .u8 0, .int .u8 0] t frozen | o => o)).modify 0 (fun | .cells _ t frozen => .cells #[.iface 246 (.agg #[.pointer (some ⟨10, 103, none⟩)])] t frozen | o => o)).modify 4 (fun | .cells _ t frozen => .cells #[.iface 314 (.pointer (some ⟨low + 0, 0, none⟩))] t frozen | o => o)).modify 3 (fun | .cells _ t frozen => .cells #[.iface 314 (.pointer (some ⟨low + 1, 0, none⟩))] t frozen | o => o)).modify 6 (fun | .cells _ t frozen => .cells (Go.Pinned.utf8FirstZ.map fun (n : Nat) => Value.int .u8 (n : Int)).toArray t frozen | o => o)) }
theorem laid_met (os : Os) : laidMetH Tryz.prog Rows.clientFreezesRow.laid ((laidWorld os).forCall (fun _ _ => 0) ⟨#[], #[.slice none 0 0, .int .u16 0, .string ByteArray.empty], []⟩).memory :=
 laidMetH_of_parts (laidMet_of_run' 8 (by kernel_rfl) (by kernel_rfl)) (by kernel_rfl)
theorem reads (os : Os) {H : Type} (enc : TypeId × Value → H) : ∃ ds places, DataW.whole enc Tryz.prog ((laidWorld os).forCall (fun _ _ => 0) ⟨#[], #[.slice none 0 0, .int .u16 0, .string ByteArray.empty], []⟩).memory Tryz.f4.params.toList Rows.clientFreezesSpec.vars false (#[.slice none 0 0, .int .u16 0, .string ByteArray.empty] : Array Value).toList 8 = some (ds, [], places) :=
 ⟨[.nil, .lit (.int .u16 0), .lit (.string [])], [], by kernel_rfl⟩
set_option maxRecDepth 100000 in
theorem contract (H : Type) (enc : TypeId × Value → H) (W : World) (base : Nat) (args : Array Value) (ds gs : List (DataW H)) (before : List MemPlace)
  (hval0 : ∀ (j : Nat) t v, Tryz.f4.params[j]? = some t → args[j]? = some v → Value.okWide Tryz.prog W .any base t v)
  (hW : DataW.Whole enc Tryz.prog Tryz.f4.params.toList Rows.clientFreezesSpec.vars false W args.toList ds gs before) (hL : laidMetH Tryz.prog Rows.clientFreezesRow.laid W) (hS : W.ShapedOpen Tryz.prog) :
  Calls Tryz.prog 4 args W fun e W' => ∃ v, e = .returned v ∧ Rows.clientFreezesSpec.post enc Tryz.prog Tryz.f4 false true false false W args v W' := by
 have hval : ∀ (j : Nat) t v, Tryz.f4.params[j]? = some t → args[j]? = some v → Value.okWide Tryz.prog W .any base t v := hval0
 have hW' := hW
 obtain ⟨p, q, hA0, hV, rfl, hfz, hnd⟩ := hW
 have hA : DataW.TrodAll enc Tryz.prog W 0 (fun _ => true) true Tryz.f4.params.toList args.toList ds p := hA0
 rw [Tryz.params4] at hA hval
 have hK := hA
 obtain ⟨v0, vs0, d0, ds0, p0, q0, hargs, rfl, rfl, h0, r0⟩ := trodAll_cons hA
 obtain ⟨v1, vs1, d1, ds1, p1, q1, rfl, rfl, rfl, h1, r1⟩ := trodAll_cons r0
 obtain ⟨v2, vs2, d2, ds2, p2, q2, rfl, rfl, rfl, h2, r2⟩ := trodAll_cons r1
 obtain ⟨rfl, rfl, rfl⟩ := trodAll_nil r2
 obtain rfl : args = #[v0, v1, v2] := by cases args; simp_all
 obtain ⟨rfl, rfl⟩ := trodVars_none hV
 obtain ⟨A0, len0, cap0, rfl⟩ := okWide_slice Tryz.underlying22 (hval 0 22 v0 rfl rfl)
 obtain ⟨a0, w0, l0⟩ := open_prs h0
 obtain ⟨a1, rfl, rfl, rfl, w1⟩ := open_int Tryz.underlying48 (hval 1 48 v1 rfl rfl) h1
 have b1 := bounds_u16 w1
 obtain ⟨a2, rfl, rfl, rfl, w2⟩ := open_string Tryz.underlying9 (hval 2 9 v2 rfl rfl) h2
 clear hA0 hval0
 refine (walk W (fit_of hL hS) _ a0 w0 a1 b1.1 b1.2 a2 w2).mono fun e W' ⟨he, bel⟩ => ?_
 subst he
 exact ⟨_, rfl, _, _, _, [], _, [], hW', trodAll_mk1 (shut_bool Tryz.underlying4 _), trodAll_under laidOut bel _ _ _ _ (by kernel_rfl) hK, rfl, bel.frame _, fun h => by cases h⟩
set_option maxRecDepth 100000 in
theorem lifted (os : Os) (started : os.Started) (H : Type) (enc : TypeId × Value → H) (F : Stop.Interp) :
  ReturnsInHanded {} Tryz.checked os 4 .any ((OpenSpec.ofChange Rows.clientFreezesSpec).preRow enc Tryz.prog Tryz.f4 Rows.clientFreezesRow.domain false Rows.clientFreezesRow.laid) (((OpenSpec.ofChange Rows.clientFreezesSpec).at F).post enc Tryz.prog Tryz.f4 false true false false) := by
 obtain ⟨ds, places, hx⟩ := reads os enc
 refine returnsInHanded_of_row (C := Tryz.checked) (s := OpenSpec.ofChange Rows.clientFreezesSpec) own started (by kernel_rfl) Tryz.func4
  (witness_row_at (enc := enc) (C := Tryz.checked) false (laidWorld os) #[.slice none 0 0, .int .u16 0, .string ByteArray.empty] rfl (by kernel_rfl) (by kernel_rfl) (by kernel_rfl)
    (OpenSpec.preRow_of_cond 8 hx (by kernel_rfl) (fun k hk => by cases hk) (by kernel_rfl) (laid_met os))) ?_
 intro W base args ds gs before hval hW _ _ _ hL hS _
 exact contract H enc W base args ds gs before hval hW hL hS
theorem said : Rows.ClientFreezesSaid :=
 OpenClaim.holds_of_cond 4 Tryz.f4 rfl rfl rfl rfl rfl rfl rfl ⟨rfl, rfl, rfl, rfl, rfl⟩ rfl rfl rfl rfl rfl (by kernel_rfl) Tryz.func4 (by kernel_rfl)
  (of_decide_eq_true (by kernel_rfl)) (by unfold Func.isWrapper; first | (rw [if_pos (by decide +kernel)]; kernel_rfl) | (rw [if_neg (by decide +kernel)]; exact ⟨rfl, rfl⟩))
  (fun os started H enc _ F => by rw [OpenClaim.pre_eq_preRow]; exact lifted os started H enc F)
theorem plain (f : FuncId) (fn : Func) (hf : Tryz.pinned.checked.prog.funcNamed "footbridge/footbridgelaw14.ClientFreezes" = some f) (hfn : Tryz.pinned.checked.prog.funcs[f]? = some fn) :
  true = Tryz.pinned.checked.prog.looks [] ∧ ∀ (j : Nat) t, fn.params[j]? = some t → Tryz.pinned.checked.prog.wantsStandIn t = false := by
 obtain rfl : f = 4 := Option.some.inj ((show Tryz.prog.funcNamed "footbridge/footbridgelaw14.ClientFreezes" = some 4 by kernel_rfl).symm.trans hf) |>.symm
 obtain rfl : fn = Tryz.f4 := (Option.some.inj (Tryz.func4.symm.trans hfn)).symm
 refine ⟨by kernel_rfl, fun j t ht => ?_⟩
 rw [Tryz.params4] at ht
 have hd : t = 22 ∨ t = 48 ∨ t = 9 := by simpa using Array.mem_of_getElem? ht
 rcases hd with rfl | rfl | rfl
 ·exact (show Tryz.prog.wantsStandIn 22 = false by kernel_rfl)
 ·exact (show Tryz.prog.wantsStandIn 48 = false by kernel_rfl)
 ·exact (show Tryz.prog.wantsStandIn 9 = false by kernel_rfl)
theorem clientFreezes_holds : Rows.ClientFreezesCardSaid :=
 Claim7.holds_tied_plain_at .later [] _ _ _ _ said (fun _ h => by cases h) (by kernel_rfl) (fun _ h => by cases h) clientFreezes_row_tie rfl ⟨rfl, rfl⟩ (by kernel_rfl) rfl plain (by kernel_rfl)
#print axioms clientFreezes_holds
end Go.Proofs.YtkejaepmoabikaaGreatDoor.clientFreezes
