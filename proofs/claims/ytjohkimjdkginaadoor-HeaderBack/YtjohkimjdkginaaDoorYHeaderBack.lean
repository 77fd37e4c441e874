/-
  footbridgelaw13.HeaderBack returns true for any key and any header, and changes nothing: a header that was signed is good, comes back from its bytes, and is good then. Condition: the table sha.roots starts as the program's text lays it (tied by the card).
-/
import Derived.Test.YtjohkimjdkginaaDoorCards
import Derived.Test.YtjohkimjdkginaaDoorTie
import Derived.Deep.DeepHandedRow
import Derived.Test.YtjohkimjdkginaaDoorYEBack
import Derived.Test.YtjohkimjdkginaaDoorZ0e
import Derived.Test.YtjohkimjdkginaaDoorZ1a
namespace Go.Proofs.YtjohkimjdkginaaDoor.headerBack
open Go.ChangeShapes Go.WideShapes Go.ChangeAt Go.RowKit
open Go.ChangeMaps (open_string shut_string)
open W

theorem walk (w : World) (hd : Roots w) (key : ByteArray) (_hk : key.size ≤ maxLen) (h : Hdr) :
    Calls Tryd.prog 5 #[.string key, hdV h] w fun e w' => e = .returned (.bool true) ∧ Below w.heap.size w w' := by
  have A : Hid (∀ W, Since w W → Calls Tryd.prog 6 #[] W fun e w' => e = .returned (.bool true) ∧ Since W w') := Lib.hid fun W hW => awake13 W (hd.since hW)
  by_cases hs : key.size ≤ 300 ∧ h.chain.size ≤ 500 ∧ h.root.size ≤ 500
  · have hk : key.size ≤ 1099511627776 := by omega
    by_cases hb : (bodyOf h).2 = 0
    · obtain ⟨g1, g2, g3, g4⟩ := sign_good key h hb
      obtain ⟨M, hM⟩ : ∃ M, M = bs (macOf key.data.toList (bodyOf h).1) := ⟨_, rfl⟩
      have hsg : signOf key h = (⟨h.chain, h.height, h.time, h.root, M⟩, 0) := by unfold signOf; rw [if_neg (by simp [hb]), hM]
      rw [hsg] at g2 g3
      have hbk := rd_hd ⟨h.chain, h.height, h.time, h.root, M⟩ g3 []
      rw [List.append_nil, if_pos rfl] at hbk
      have hl := hd_len ⟨h.chain, h.height, h.time, h.root, M⟩
      have hbl := body_len h
      refine (hback_this key h.chain h.height h.time h.root h.mac M (bs (encHd ⟨h.chain, h.height, h.time, h.root, M⟩).1) (bs (bodyOf h).1) (bodyOf h).2 w hs.1 hs.2.1 hs.2.2 (Lib.hid fun W hW => ?_) (Lib.hid fun W _ => ?_) (Lib.hid fun W _ => ?_) (Lib.hid fun W _ => rBody h W) (Lib.hid fun W hW => ?_) (Lib.hid fun W _ => ?_) A).mono fun e w' ⟨he, hb⟩ => ⟨he, hb.below⟩
      · have k := hSignC key h W (hd.since hW) hk
        rw [hsg] at k
        exact k
      · have k := hPutC ⟨h.chain, h.height, h.time, h.root, M⟩ W
        unfold retSE at k
        rw [g3] at k
        exact k
      · have k := hReadC (bs (encHd ⟨h.chain, h.height, h.time, h.root, M⟩).1) W (by rw [bs_size]; omega)
        rw [hbk] at k
        exact k
      · have k := hGoodC key ⟨h.chain, h.height, h.time, h.root, M⟩ W (hd.since hW) hk
        rw [g2] at k
        exact k
      · have k := rmac key (bs (bodyOf h).1) W hk (by rw [bs_size]; omega)
        rw [bs_data, ← hM] at k
        exact k.mono fun _ _ ⟨he, hb⟩ => ⟨he, since_of hb⟩
    · refine (hback_err key h.chain h.height h.time h.root h.mac (bodyOf h).2 w hs.1 hs.2.1 hs.2.2 hb (Lib.hid fun W hW => ?_) A).mono fun e w' ⟨he, hb⟩ => ⟨he, hb.below⟩
      have k := hSignC key h W (hd.since hW) hk
      unfold signOf at k
      rw [if_pos hb] at k
      exact k
  · exact (hback_no key h.chain h.height h.time h.root h.mac w hs A).mono fun e w' ⟨he, hb⟩ => ⟨he, hb.below⟩
noncomputable def laidWorld (os : Os) : World :=
  { World.holding Tryd.prog os ⟨#[], #[], []⟩ with heap := ((World.holding Tryd.prog os ⟨#[], #[], []⟩).heap.modify 0 (fun | .cells _ t frozen => .cells #[.int .u32 1116352408, .int .u32 1899447441, .int .u32 3049323471, .int .u32 3921009573, .int .u32 961987163, .int .u32 1508970993, .int .u32 2453635748, .int .u32 2870763221, .int .u32 3624381080, .int .u32 310598401, .int .u32 607225278, .int .u32 1426881987, .int .u32 1925078388, .int .u32 2162078206, .int .u32 2614888103, .int .u32 3248222580, .int .u32 3835390401, .int .u32 4022224774, .int .u32 264347078, .int .u32 604807628, .int .u32 770255983, .int .u32 1249150122, .int .u32 1555081692, .int .u32 1996064986, .int .u32 2554220882, .int .u32 2821834349, .int .u32 2952996808, .int .u32 3210313671, .int .u32 3336571891, .int .u32 3584528711, .int .u32 113926993, .int .u32 338241895, .int .u32 666307205, .int .u32 773529912, .int .u32 1294757372, .int .u32 1396182291, .int .u32 1695183700, .int .u32 1986661051, .int .u32 2177026350, .int .u32 2456956037, .int .u32 2730485921, .int .u32 2820302411, .int .u32 3259730800, .int .u32 3345764771, .int .u32 3516065817, .int .u32 3600352804, .int .u32 4094571909, .int .u32 275423344, .int .u32 430227734, .int .u32 506948616, .int .u32 659060556, .int .u32 883997877, .int .u32 958139571, .int .u32 1322822218, .int .u32 1537002063, .int .u32 1747873779, .int .u32 1955562222, .int .u32 2024104815, .int .u32 2227730452, .int .u32 2361852424, .int .u32 2428436474, .int .u32 2756734187, .int .u32 3204031479, .int .u32 3329325298] t frozen | o => o)) }
theorem laid_met (os : Os) : laidMet Tryd.prog Rows.headerBackRow.laid ((laidWorld os).forCall (fun _ _ => 0) ⟨#[], #[.string ByteArray.empty, .agg #[.string ByteArray.empty, .int .i64 0, .int .i64 0, .string ByteArray.empty, .string ByteArray.empty]], []⟩).memory :=
  laidMet_of_run' 8 (by kernel_rfl) (by kernel_rfl)
theorem reads (os : Os) {H : Type} (enc : TypeId × Value → H) : ∃ ds places, DataW.whole enc Tryd.prog ((laidWorld os).forCall (fun _ _ => 0) ⟨#[], #[.string ByteArray.empty, .agg #[.string ByteArray.empty, .int .i64 0, .int .i64 0, .string ByteArray.empty, .string ByteArray.empty]], []⟩).memory Tryd.f5.params.toList Rows.headerBackSpec.vars false (#[.string ByteArray.empty, .agg #[.string ByteArray.empty, .int .i64 0, .int .i64 0, .string ByteArray.empty, .string ByteArray.empty]] : Array Value).toList 8 = some (ds, [], places) :=
  ⟨[.lit (.string []), .agg [.lit (.string []), .lit (.int .i64 0), .lit (.int .i64 0), .lit (.string []), .lit (.string [])]], [], by kernel_rfl⟩
set_option maxRecDepth 100000 in
theorem contract (H : Type) (enc : TypeId × Value → H) (W : World) (base : Nat) (args : Array Value) (ds gs : List (DataW H)) (before : List MemPlace)
    (hval0 : ∀ (j : Nat) t v, Tryd.f5.params[j]? = some t → args[j]? = some v → Value.okWide Tryd.prog W .any base t v)
    (hW : DataW.Whole enc Tryd.prog Tryd.f5.params.toList Rows.headerBackSpec.vars false W args.toList ds gs before) (hL : laidMetH Tryd.prog Rows.headerBackRow.laid W) (_hS : W.ShapedOpen Tryd.prog) :
    Calls Tryd.prog 5 args W fun e W' => ∃ v, e = .returned v ∧ Rows.headerBackSpec.post enc Tryd.prog Tryd.f5 false true false false W args v W' := by
  have hval : ∀ (j : Nat) t v, Tryd.f5.params[j]? = some t → args[j]? = some v → Value.okWide Tryd.prog W .any base t v := hval0
  have hW' := hW
  obtain ⟨p, q, hA0, hV, rfl, hfz, hnd⟩ := hW
  have hA : DataW.TrodAll enc Tryd.prog W 0 (fun _ => true) true Tryd.f5.params.toList args.toList ds p := hA0
  rw [Tryd.params5] at hA hval
  have hK := hA
  obtain ⟨v0, vs0, d0, ds0, p0, q0, hargs, rfl, rfl, h0, r0⟩ := trodAll_cons hA
  obtain ⟨v1, vs1, d1, ds1, p1, q1, rfl, rfl, rfl, h1, r1⟩ := trodAll_cons r0
  obtain ⟨rfl, rfl, rfl⟩ := trodAll_nil r1
  obtain rfl : args = #[v0, v1] := by cases args; simp_all
  obtain ⟨rfl, rfl⟩ := trodVars_none hV
  obtain ⟨a0, rfl, rfl, rfl, w0⟩ := open_string Tryd.underlying9 (hval 0 9 v0 rfl rfl) h0
  obtain ⟨a1, rfl⟩ := open_hd (hval 1 23 v1 rfl rfl) h1
  clear hA0 hval0
  refine (walk W (roots_of hL) a0 w0 a1).mono fun e W' ⟨he, bel⟩ => ?_
  subst he
  exact ⟨_, rfl, _, _, _, [], _, [], hW', trodAll_mk1 (shut_bool Tryd.underlying4 _), trodAll_under laidOut bel _ _ _ _ (by kernel_rfl) hK, rfl, bel.frame _, fun h => by cases h⟩
set_option maxRecDepth 100000 in
theorem lifted (os : Os) (started : os.Started) (H : Type) (enc : TypeId × Value → H) (F : Stop.Interp) :
    ReturnsInHanded {} Tryd.checked os 5 .any ((OpenSpec.ofChange Rows.headerBackSpec).preRow enc Tryd.prog Tryd.f5 Rows.headerBackRow.domain false Rows.headerBackRow.laid) (((OpenSpec.ofChange Rows.headerBackSpec).at F).post enc Tryd.prog Tryd.f5 false true false false) := by
  obtain ⟨ds, places, hx⟩ := reads os enc
  refine returnsInHanded_of_row (C := Tryd.checked) (s := OpenSpec.ofChange Rows.headerBackSpec) own started (by kernel_rfl) Tryd.func5
    (witness_row_at (enc := enc) (C := Tryd.checked) false (laidWorld os) #[.string ByteArray.empty, .agg #[.string ByteArray.empty, .int .i64 0, .int .i64 0, .string ByteArray.empty, .string ByteArray.empty]] rfl (by kernel_rfl) (by kernel_rfl) (by kernel_rfl)
      (OpenSpec.preRow_of_cond 8 hx (by kernel_rfl) (fun k hk => by cases hk) (by kernel_rfl) (laid_met os))) ?_
  intro W base args ds gs before hval hW _ _ _ hL hS _
  exact contract H enc W base args ds gs before hval hW hL hS
theorem said : Rows.HeaderBackSaid :=
  OpenClaim.holds_of_cond 5 Tryd.f5 rfl rfl rfl rfl rfl rfl rfl ⟨rfl, rfl, rfl, rfl, rfl⟩ rfl rfl rfl rfl rfl (by kernel_rfl) Tryd.func5 (by kernel_rfl)
    (of_decide_eq_true (by kernel_rfl)) (by unfold Func.isWrapper; first | (rw [if_pos (by decide +kernel)]; kernel_rfl) | (rw [if_neg (by decide +kernel)]; exact ⟨rfl, rfl⟩))
    (fun os started H enc _ F => by rw [OpenClaim.pre_eq_preRow]; exact lifted os started H enc F)
theorem plain (f : FuncId) (fn : Func) (hf : Tryd.pinned.checked.prog.funcNamed "footbridge/footbridgelaw13.HeaderBack" = some f) (hfn : Tryd.pinned.checked.prog.funcs[f]? = some fn) :
    false = Tryd.pinned.checked.prog.looks [] ∧ ∀ (j : Nat) t, fn.params[j]? = some t → Tryd.pinned.checked.prog.wantsStandIn t = false := by
  obtain rfl : f = 5 := Option.some.inj ((show Tryd.prog.funcNamed "footbridge/footbridgelaw13.HeaderBack" = some 5 by kernel_rfl).symm.trans hf) |>.symm
  obtain rfl : fn = Tryd.f5 := (Option.some.inj (Tryd.func5.symm.trans hfn)).symm
  refine ⟨by kernel_rfl, fun j t ht => ?_⟩
  rw [Tryd.params5] at ht
  have hd : t = 9 ∨ t = 23 := by simpa using Array.mem_of_getElem? ht
  rcases hd with rfl | rfl
  · exact (show Tryd.prog.wantsStandIn 9 = false by kernel_rfl)
  · exact (show Tryd.prog.wantsStandIn 23 = false by kernel_rfl)
theorem headerBack_holds : Rows.HeaderBackCardSaid :=
  Claim7.holds_tied_plain_at .later [] _ _ _ _ said (fun _ h => by cases h) (by kernel_rfl) (fun _ h => by cases h) headerBack_row_tie rfl ⟨rfl, rfl⟩ (by kernel_rfl) rfl plain (by kernel_rfl)
#print axioms headerBack_holds
end Go.Proofs.YtjohkimjdkginaaDoor.headerBack
