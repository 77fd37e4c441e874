/-
  footbridgelaw05.MacKeys returns true for any key, any string and any number, and changes nothing: a key filled up with zero bytes, up to 64, makes the same sum. Condition: the table sha.roots starts as the program's text lays it (tied by the card).
-/
import Derived.Test.YtlcepgcflchmhaaDoorCards
import Derived.Test.YtlcepgcflchmhaaDoorTie
import Derived.Test.YtlcepgcflchmhaaDoorMAwake
import Derived.Deep.DeepHandedRow
namespace Go.Proofs.YtlcepgcflchmhaaDoor.macKeys
open Go.ChangeShapes Go.WideShapes Go.ChangeAt Go.RowKit
open Go.ChangeMaps (open_string shut_string)
open W

def sizeIn : Value → Nat
  | .string m => m.size
  | _ => 0
/-- what the loop keeps: the key has grown by zero bytes -/
def More (k s : ByteArray) (m : ByteArray) : Prop := m.size ≤ 64 ∧ macOf m.data.toList s.data.toList = macOf k.data.toList s.data.toList
theorem More.step {k s m : ByteArray} (h : More k s m) (hl : m.size < 64) : More k s (bs (m.data.toList ++ [0])) := by
  refine ⟨by rw [bs_size, List.length_append, size_list]; simp; omega, ?_⟩
  rw [bs_data, macOf_more _ _ (by rw [size_list]; exact hl)]
  exact h.2

set_option maxHeartbeats 2000000 in
set_option maxRecDepth 100000 in
theorem walk (w : World) (hd : Roots w) (k : ByteArray) (_hk : k.size ≤ maxLen) (s : ByteArray) (_hs : s.size ≤ maxLen) (n : Int) (n0 : 0 ≤ n) (n1 : n ≤ 255) :
    Calls Tryd.prog 4 #[.string k, .string s, .int .u8 n] w fun e w' => e = .returned (.bool true) ∧ Below w.heap.size w w' := by
  by_cases h1 : k.size ≤ 64 ∧ s.size ≤ 1000
  · obtain ⟨h1, h2⟩ := h1
    have HD := Lib.hid hd
    have wn : IntKind.i64.wrap n = n := IntWalk.i64_in _ (by omega)
    have tk : ¬ (64 : Int) < (k.size : Int) := by omega
    have ts : ¬ (1000 : Int) < (s.size : Int) := by omega
    clear hd
    go_enter Tryd.func4, Tryd.ntmps4
    go_wp2
    go_loopw [7] (fun v wr => ∃ m : ByteArray, v = .string m ∧ wr = w ∧ More k s m) (fun v _ => 64 - sizeIn v)
    case atStart => exact ⟨k, rfl, rfl, h1, rfl⟩
    case round =>
      obtain ⟨m, rfl, rfl, hm⟩ := hrel
      have HM := Lib.hid hm
      by_cases hlt : m.size < 64 ∧ (m.size : Int) < n
      · obtain ⟨hl, hn⟩ := hlt
        have t1 : (m.size : Int) < 64 := by omega
        have ha : ∀ W : World, (Op.stringOp .add m ⟨#[0]⟩).run Tryd.prog W = .ok (.string (bs (m.data.toList ++ [0]))) W := fun W => by
          have h := run_add W m.data.toList [0] (by rw [size_list]; simp; omega)
          rwa [bs_of] at h
        clear hm
        go_wp2
        go_roundw
        case rel => exact ⟨_, rfl, trivial, HM.out.step hl⟩
        case measure =>
          show 64 - (bs (m.data.toList ++ [0])).size < 64 - m.size
          rw [bs_size, List.length_append, size_list]
          simp
          omega
      · have R1 := Lib.hid (macSum m s wr HD.out (by have := HM.out.1; omega) (by omega))
        rw [HM.out.2] at R1
        have R2 := Lib.hid (fun (W : World) (hW : Roots W) => macSum k s W hW (by omega) (by omega))
        generalize bs (macOf k.data.toList s.data.toList) = q at *
        clear hm
        rcases (show ¬ (m.size : Int) < 64 ∨ ((m.size : Int) < 64 ∧ ¬ (m.size : Int) < n) by omega) with t1 | ⟨t1, t2⟩
        all_goals
          clear hlt HM
          go_wp2_with fail
          refine R1.out.mono ?_
          rintro e w1 ⟨rfl, b1⟩
          go_wp2_with fail
          refine (R2.out w1 (HD.out.next b1)).mono ?_
          rintro e w2 ⟨rfl, b2⟩
          replace b2 := step_below b1 b2
          clear b1 R1 R2
          go_wp2_with fail
          refine (awake05 w2 (HD.out.next b2)).mono ?_
          rintro e w3 ⟨rfl, b3⟩
          replace b3 := step_below b2 b3
          clear b2
          go_wp2
          go_ret
          exact ⟨rfl, b3⟩
  · have h2 : (64 : Int) < (k.size : Int) ∨ (1000 : Int) < (s.size : Int) := by omega
    have R := Lib.hid (awake05 w hd)
    clear h1
    rcases h2 with h2 | h2
    all_goals
      go_enter Tryd.func4, Tryd.ntmps4
      go_wp2_with (go_at_call 5; refine R.out.mono ?_; rintro e w3 ⟨rfl, b3⟩)
    all_goals
      go_ret
      exact ⟨rfl, by assumption⟩
noncomputable def laidWorld (os : Os) : World :=
  { World.holding Tryd.prog os ⟨#[], #[], []⟩ with heap := ((World.holding Tryd.prog os ⟨#[], #[], []⟩).heap.modify 0 (fun | .cells _ t frozen => .cells #[.int .u32 1116352408, .int .u32 1899447441, .int .u32 3049323471, .int .u32 3921009573, .int .u32 961987163, .int .u32 1508970993, .int .u32 2453635748, .int .u32 2870763221, .int .u32 3624381080, .int .u32 310598401, .int .u32 607225278, .int .u32 1426881987, .int .u32 1925078388, .int .u32 2162078206, .int .u32 2614888103, .int .u32 3248222580, .int .u32 3835390401, .int .u32 4022224774, .int .u32 264347078, .int .u32 604807628, .int .u32 770255983, .int .u32 1249150122, .int .u32 1555081692, .int .u32 1996064986, .int .u32 2554220882, .int .u32 2821834349, .int .u32 2952996808, .int .u32 3210313671, .int .u32 3336571891, .int .u32 3584528711, .int .u32 113926993, .int .u32 338241895, .int .u32 666307205, .int .u32 773529912, .int .u32 1294757372, .int .u32 1396182291, .int .u32 1695183700, .int .u32 1986661051, .int .u32 2177026350, .int .u32 2456956037, .int .u32 2730485921, .int .u32 2820302411, .int .u32 3259730800, .int .u32 3345764771, .int .u32 3516065817, .int .u32 3600352804, .int .u32 4094571909, .int .u32 275423344, .int .u32 430227734, .int .u32 506948616, .int .u32 659060556, .int .u32 883997877, .int .u32 958139571, .int .u32 1322822218, .int .u32 1537002063, .int .u32 1747873779, .int .u32 1955562222, .int .u32 2024104815, .int .u32 2227730452, .int .u32 2361852424, .int .u32 2428436474, .int .u32 2756734187, .int .u32 3204031479, .int .u32 3329325298] t frozen | o => o)) }
theorem laid_met (os : Os) : laidMet Tryd.prog Rows.macKeysRow.laid ((laidWorld os).forCall (fun _ _ => 0) ⟨#[], #[.string ByteArray.empty, .string ByteArray.empty, .int .u8 0], []⟩).memory :=
  laidMet_of_run' 8 (by kernel_rfl) (by kernel_rfl)
theorem reads (os : Os) {H : Type} (enc : TypeId × Value → H) : ∃ ds places, DataW.whole enc Tryd.prog ((laidWorld os).forCall (fun _ _ => 0) ⟨#[], #[.string ByteArray.empty, .string ByteArray.empty, .int .u8 0], []⟩).memory Tryd.f4.params.toList Rows.macKeysSpec.vars false (#[.string ByteArray.empty, .string ByteArray.empty, .int .u8 0] : Array Value).toList 8 = some (ds, [], places) :=
  ⟨[.lit (.string []), .lit (.string []), .lit (.int .u8 0)], [], by kernel_rfl⟩
set_option maxRecDepth 100000 in
theorem contract (H : Type) (enc : TypeId × Value → H) (W : World) (base : Nat) (args : Array Value) (ds gs : List (DataW H)) (before : List MemPlace)
    (hval0 : ∀ (j : Nat) t v, Tryd.f4.params[j]? = some t → args[j]? = some v → Value.okWide Tryd.prog W .any base t v)
    (hW : DataW.Whole enc Tryd.prog Tryd.f4.params.toList Rows.macKeysSpec.vars false W args.toList ds gs before) (hL : laidMetH Tryd.prog Rows.macKeysRow.laid W) :
    Calls Tryd.prog 4 args W fun e W' => ∃ v, e = .returned v ∧ Rows.macKeysSpec.post enc Tryd.prog Tryd.f4 false true false false W args v W' := by
  have hval : ∀ (j : Nat) t v, Tryd.f4.params[j]? = some t → args[j]? = some v → Value.okWide Tryd.prog W .any base t v := hval0
  have hW' := hW
  obtain ⟨p, q, hA0, hV, rfl, hfz, hnd⟩ := hW
  have hA : DataW.TrodAll enc Tryd.prog W 0 (fun _ => true) true Tryd.f4.params.toList args.toList ds p := hA0
  rw [Tryd.params4] at hA hval
  have hK := hA
  obtain ⟨v0, vs0, d0, ds0, p0, q0, hargs, rfl, rfl, h0, r0⟩ := trodAll_cons hA
  obtain ⟨v1, vs1, d1, ds1, p1, q1, rfl, rfl, rfl, h1, r1⟩ := trodAll_cons r0
  obtain ⟨v2, vs2, d2, ds2, p2, q2, rfl, rfl, rfl, h2, r2⟩ := trodAll_cons r1
  obtain ⟨rfl, rfl, rfl⟩ := trodAll_nil r2
  obtain rfl : args = #[v0, v1, v2] := by cases args; simp_all
  obtain ⟨rfl, rfl⟩ := trodVars_none hV
  obtain ⟨a0, rfl, rfl, rfl, w0⟩ := open_string Tryd.underlying9 (hval 0 9 v0 rfl rfl) h0
  obtain ⟨a1, rfl, rfl, rfl, w1⟩ := open_string Tryd.underlying9 (hval 1 9 v1 rfl rfl) h1
  obtain ⟨a2, rfl, rfl, rfl, w2⟩ := open_int Tryd.underlying5 (hval 2 5 v2 rfl rfl) h2
  have b2 := bounds_u8 w2
  clear hA0 hval0
  refine (walk W (roots_of hL) a0 w0 a1 w1 a2 b2.1 b2.2).mono fun e W' ⟨he, bel⟩ => ?_
  subst he
  exact ⟨_, rfl, _, _, _, [], _, [], hW', trodAll_mk1 (shut_bool Tryd.underlying4 _), trodAll_under laidOut bel _ _ _ _ (by kernel_rfl) hK, rfl, bel.frame _, fun h => by cases h⟩
set_option maxRecDepth 100000 in
theorem lifted (os : Os) (started : os.Started) (H : Type) (enc : TypeId × Value → H) (F : Stop.Interp) :
    ReturnsInHanded {} Tryd.checked os 4 .any ((OpenSpec.ofChange Rows.macKeysSpec).preRow enc Tryd.prog Tryd.f4 Rows.macKeysRow.domain false Rows.macKeysRow.laid) (((OpenSpec.ofChange Rows.macKeysSpec).at F).post enc Tryd.prog Tryd.f4 false true false false) := by
  obtain ⟨ds, places, hx⟩ := reads os enc
  refine returnsInHanded_of_row (C := Tryd.checked) (s := OpenSpec.ofChange Rows.macKeysSpec) own started (by kernel_rfl) Tryd.func4
    (witness_row_at (enc := enc) (C := Tryd.checked) false (laidWorld os) #[.string ByteArray.empty, .string ByteArray.empty, .int .u8 0] rfl (by kernel_rfl) (by kernel_rfl) (by kernel_rfl)
      (OpenSpec.preRow_of_cond 8 hx (by kernel_rfl) (fun k hk => by cases hk) (by kernel_rfl) (laid_met os))) ?_
  intro W base args ds gs before hval hW _ _ _ hL _ _
  exact contract H enc W base args ds gs before hval hW hL
theorem said : Rows.MacKeysSaid :=
  OpenClaim.holds_of_cond 4 Tryd.f4 rfl rfl rfl rfl rfl rfl rfl ⟨rfl, rfl, rfl, rfl, rfl⟩ rfl rfl rfl rfl rfl (by kernel_rfl) Tryd.func4 (by kernel_rfl)
    (of_decide_eq_true (by kernel_rfl)) (by unfold Func.isWrapper; first | (rw [if_pos (by decide +kernel)]; kernel_rfl) | (rw [if_neg (by decide +kernel)]; exact ⟨rfl, rfl⟩))
    (fun os started H enc _ F => by rw [OpenClaim.pre_eq_preRow]; exact lifted os started H enc F)
theorem plain (f : FuncId) (fn : Func) (hf : Tryd.pinned.checked.prog.funcNamed "footbridge/footbridgelaw05.MacKeys" = some f) (hfn : Tryd.pinned.checked.prog.funcs[f]? = some fn) :
    false = Tryd.pinned.checked.prog.looks [] ∧ ∀ (j : Nat) t, fn.params[j]? = some t → Tryd.pinned.checked.prog.wantsStandIn t = false := by
  obtain rfl : f = 4 := Option.some.inj ((show Tryd.prog.funcNamed "footbridge/footbridgelaw05.MacKeys" = some 4 by kernel_rfl).symm.trans hf) |>.symm
  obtain rfl : fn = Tryd.f4 := (Option.some.inj (Tryd.func4.symm.trans hfn)).symm
  refine ⟨by kernel_rfl, fun j t ht => ?_⟩
  rw [Tryd.params4] at ht
  have hd : t = 9 ∨ t = 5 := by simpa using Array.mem_of_getElem? ht
  rcases hd with rfl | rfl
  · exact (show Tryd.prog.wantsStandIn 9 = false by kernel_rfl)
  · exact (show Tryd.prog.wantsStandIn 5 = false by kernel_rfl)
theorem macKeys_holds : Rows.MacKeysCardSaid :=
  Claim7.holds_tied_plain_at .later [] _ _ _ _ said (fun _ h => by cases h) (by kernel_rfl) (fun _ h => by cases h) macKeys_row_tie rfl ⟨rfl, rfl⟩ (by kernel_rfl) rfl plain (by kernel_rfl)
#print axioms macKeys_holds
end Go.Proofs.YtlcepgcflchmhaaDoor.macKeys
