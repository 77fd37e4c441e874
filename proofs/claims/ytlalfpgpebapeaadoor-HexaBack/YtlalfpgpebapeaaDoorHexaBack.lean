/-
  footbridgelaw02.HexaBack returns true for any two strings, and changes nothing: hexa's Read gives back what Put was given, and Put what Read was given. Condition: the table hexa.digits starts as the program's text lays it (tied by the card).
-/
import Derived.Test.YtlalfpgpebapeaaDoorCards
import Derived.Test.YtlalfpgpebapeaaDoorTie
import Derived.Test.YtlalfpgpebapeaaDoorHAwake
import Derived.Deep.DeepHandedRow
namespace Go.Proofs.YtlalfpgpebapeaaDoor.hexaBack
open Go.ChangeShapes Go.WideShapes Go.ChangeAt Go.RowKit
open Go.ChangeMaps (open_string shut_string)
open W

theorem rd_put (s : ByteArray) : rdHex (hput s.data.toList) = (s.data.toList, 0) := by simp [rdHex, hread_put]
theorem readPut (s : ByteArray) (w : World) (hd : Digs w) (hs : s.size ≤ 3000) :
    Calls Tryd.prog 6 #[.string (bs (hput s.data.toList))] w fun e w' => e = .returned (.tuple #[.string s, .int .i64 0]) ∧ Below w.heap.size w w' := by
  have h := hRead (bs (hput s.data.toList)) w hd (by rw [bs_size, hput_len, size_list]; omega)
  rw [bs_data, rd_put] at h
  unfold retHex at h
  rw [bs_of] at h
  exact h
/-- what Read may answer -/
theorem rd_cases (t : ByteArray) : (∃ b : ByteArray, rdHex t.data.toList = (b.data.toList, 0) ∧ bs (hput b.data.toList) = t ∧ b.size ≤ t.size) ∨ rdHex t.data.toList = ([], 6) := by
  unfold rdHex
  cases h : hread t.data.toList with
  | none => exact .inr rfl
  | some b =>
    refine .inl ⟨bs b, rfl, ?_, ?_⟩
    · rw [bs_data, hput_read _ _ h, bs_of]
    · have := hread_len _ _ h
      rw [bs_size]
      rw [size_list] at this
      omega

set_option maxHeartbeats 2000000 in
set_option maxRecDepth 100000 in
theorem walk (w : World) (hd : Digs w) (s : ByteArray) (_hs : s.size ≤ maxLen) (t : ByteArray) (_ht : t.size ≤ maxLen) :
    Calls Tryd.prog 4 #[.string s, .string t] w fun e w' => e = .returned (.bool true) ∧ Below w.heap.size w w' := by
  by_cases h1 : s.size ≤ 3000
  · by_cases h2 : t.size ≤ 3000
    · rcases rd_cases t with ⟨b, hb, hp, hl⟩ | hn
      · have HR := Lib.hid (fun W hW => hRead t W hW (by omega))
        have HP := Lib.hid (fun W hW => hPut b W hW (by omega))
        rw [hb] at HR
        rw [hp] at HP
        unfold retHex at HR
        rw [bs_of] at HR
        clear hb hp
        go_enter Tryd.func4, Tryd.ntmps4
        go_wp2_with fail
        refine (hPut s w hd (by omega)).mono ?_
        rintro e w1 ⟨rfl, b1⟩
        go_wp2_with fail
        refine (readPut s w1 (hd.next b1) h1).mono ?_
        rintro e w2 ⟨rfl, b2⟩
        replace b2 := step_below b1 b2
        clear b1
        go_wp2_with fail
        refine (HR.out w2 (hd.next b2)).mono ?_
        rintro e w3 ⟨rfl, b3⟩
        replace b3 := step_below b2 b3
        clear b2
        go_wp2_with fail
        refine (HP.out w3 (hd.next b3)).mono ?_
        rintro e w4 ⟨rfl, b4⟩
        replace b4 := step_below b3 b4
        clear b3
        go_wp2_with fail
        refine (awake02 w4 (hd.next b4)).mono ?_
        rintro e w5 ⟨rfl, b5⟩
        replace b5 := step_below b4 b5
        go_wp2
        go_ret
        exact ⟨rfl, b5⟩
      · have HR := Lib.hid (fun W hW => hRead t W hW (by omega))
        rw [hn] at HR
        unfold retHex at HR
        clear hn
        go_enter Tryd.func4, Tryd.ntmps4
        go_wp2_with fail
        refine (hPut s w hd (by omega)).mono ?_
        rintro e w1 ⟨rfl, b1⟩
        go_wp2_with fail
        refine (readPut s w1 (hd.next b1) h1).mono ?_
        rintro e w2 ⟨rfl, b2⟩
        replace b2 := step_below b1 b2
        clear b1
        go_wp2_with fail
        refine (HR.out w2 (hd.next b2)).mono ?_
        rintro e w3 ⟨rfl, b3⟩
        replace b3 := step_below b2 b3
        clear b2
        go_wp2_with fail
        refine (awake02 w3 (hd.next b3)).mono ?_
        rintro e w5 ⟨rfl, b5⟩
        replace b5 := step_below b3 b5
        go_wp2
        go_ret
        exact ⟨rfl, b5⟩
    · go_enter Tryd.func4, Tryd.ntmps4
      go_wp2_with fail
      refine (awake02 w hd).mono ?_
      rintro e w5 ⟨rfl, b5⟩
      go_wp2
      go_ret
      exact ⟨rfl, b5⟩
  · go_enter Tryd.func4, Tryd.ntmps4
    go_wp2_with fail
    refine (awake02 w hd).mono ?_
    rintro e w5 ⟨rfl, b5⟩
    go_wp2
    go_ret
    exact ⟨rfl, b5⟩
noncomputable def laidWorld (os : Os) : World :=
  { World.holding Tryd.prog os ⟨#[], #[], []⟩ with heap := (World.holding Tryd.prog os ⟨#[], #[], []⟩).heap.modify 0 (fun | .cells _ t frozen => .cells #[.int .u8 48, .int .u8 49, .int .u8 50, .int .u8 51, .int .u8 52, .int .u8 53, .int .u8 54, .int .u8 55, .int .u8 56, .int .u8 57, .int .u8 97, .int .u8 98, .int .u8 99, .int .u8 100, .int .u8 101, .int .u8 102] t frozen | o => o) }
theorem laid_met (os : Os) : laidMet Tryd.prog Rows.hexaBackRow.laid ((laidWorld os).forCall (fun _ _ => 0) ⟨#[], #[.string ByteArray.empty, .string ByteArray.empty], []⟩).memory :=
  laidMet_of_run' 8 (by kernel_rfl) (by kernel_rfl)
theorem reads (os : Os) {H : Type} (enc : TypeId × Value → H) : ∃ ds places, DataW.whole enc Tryd.prog ((laidWorld os).forCall (fun _ _ => 0) ⟨#[], #[.string ByteArray.empty, .string ByteArray.empty], []⟩).memory Tryd.f4.params.toList Rows.hexaBackSpec.vars false (#[.string ByteArray.empty, .string ByteArray.empty] : Array Value).toList 8 = some (ds, [], places) :=
  ⟨[.lit (.string []), .lit (.string [])], [], by kernel_rfl⟩
set_option maxRecDepth 100000 in
theorem contract (H : Type) (enc : TypeId × Value → H) (W : World) (base : Nat) (args : Array Value) (ds gs : List (DataW H)) (before : List MemPlace)
    (hval0 : ∀ (j : Nat) t v, Tryd.f4.params[j]? = some t → args[j]? = some v → Value.okWide Tryd.prog W .any base t v)
    (hW : DataW.Whole enc Tryd.prog Tryd.f4.params.toList Rows.hexaBackSpec.vars false W args.toList ds gs before) (hL : laidMetH Tryd.prog Rows.hexaBackRow.laid W) :
    Calls Tryd.prog 4 args W fun e W' => ∃ v, e = .returned v ∧ Rows.hexaBackSpec.post enc Tryd.prog Tryd.f4 false true false false W args v W' := by
  have hval : ∀ (j : Nat) t v, Tryd.f4.params[j]? = some t → args[j]? = some v → Value.okWide Tryd.prog W .any base t v := hval0
  have hW' := hW
  obtain ⟨p, q, hA0, hV, rfl, hfz, hnd⟩ := hW
  have hA : DataW.TrodAll enc Tryd.prog W 0 (fun _ => true) true Tryd.f4.params.toList args.toList ds p := hA0
  rw [Tryd.params4] at hA hval
  have hK := hA
  obtain ⟨v0, vs0, d0, ds0, p0, q0, hargs, rfl, rfl, h0, r0⟩ := trodAll_cons hA
  obtain ⟨v1, vs1, d1, ds1, p1, q1, rfl, rfl, rfl, h1, r1⟩ := trodAll_cons r0
  obtain ⟨rfl, rfl, rfl⟩ := trodAll_nil r1
  obtain rfl : args = #[v0, v1] := by cases args; simp_all
  obtain ⟨rfl, rfl⟩ := trodVars_none hV
  obtain ⟨a0, rfl, rfl, rfl, w0⟩ := open_string Tryd.underlying9 (hval 0 9 v0 rfl rfl) h0
  obtain ⟨a1, rfl, rfl, rfl, w1⟩ := open_string Tryd.underlying9 (hval 1 9 v1 rfl rfl) h1
  clear hA0 hval0
  refine (walk W (digs_of hL) a0 w0 a1 w1).mono fun e W' ⟨he, bel⟩ => ?_
  subst he
  exact ⟨_, rfl, _, _, _, [], _, [], hW', trodAll_mk1 (shut_bool Tryd.underlying4 _), trodAll_under laidOut bel _ _ _ _ (by kernel_rfl) hK, rfl, bel.frame _, fun h => by cases h⟩
set_option maxRecDepth 100000 in
theorem lifted (os : Os) (started : os.Started) (H : Type) (enc : TypeId × Value → H) (F : Stop.Interp) :
    ReturnsInHanded {} Tryd.checked os 4 .any ((OpenSpec.ofChange Rows.hexaBackSpec).preRow enc Tryd.prog Tryd.f4 Rows.hexaBackRow.domain false Rows.hexaBackRow.laid) (((OpenSpec.ofChange Rows.hexaBackSpec).at F).post enc Tryd.prog Tryd.f4 false true false false) := by
  obtain ⟨ds, places, hx⟩ := reads os enc
  refine returnsInHanded_of_row (C := Tryd.checked) (s := OpenSpec.ofChange Rows.hexaBackSpec) own started (by kernel_rfl) Tryd.func4
    (witness_row_at (enc := enc) (C := Tryd.checked) false (laidWorld os) #[.string ByteArray.empty, .string ByteArray.empty] rfl (by kernel_rfl) (by kernel_rfl) (by kernel_rfl)
      (OpenSpec.preRow_of_cond 8 hx (by kernel_rfl) (fun k hk => by cases hk) (by kernel_rfl) (laid_met os))) ?_
  intro W base args ds gs before hval hW _ _ _ hL _ _
  exact contract H enc W base args ds gs before hval hW hL
theorem said : Rows.HexaBackSaid :=
  OpenClaim.holds_of_cond 4 Tryd.f4 rfl rfl rfl rfl rfl rfl rfl ⟨rfl, rfl, rfl, rfl, rfl⟩ rfl rfl rfl rfl rfl (by kernel_rfl) Tryd.func4 (by kernel_rfl)
    (of_decide_eq_true (by kernel_rfl)) (by unfold Func.isWrapper; first | (rw [if_pos (by decide +kernel)]; kernel_rfl) | (rw [if_neg (by decide +kernel)]; exact ⟨rfl, rfl⟩))
    (fun os started H enc _ F => by rw [OpenClaim.pre_eq_preRow]; exact lifted os started H enc F)
theorem plain (f : FuncId) (fn : Func) (hf : Tryd.pinned.checked.prog.funcNamed "footbridge/footbridgelaw02.HexaBack" = some f) (hfn : Tryd.pinned.checked.prog.funcs[f]? = some fn) :
    false = Tryd.pinned.checked.prog.looks [] ∧ ∀ (j : Nat) t, fn.params[j]? = some t → Tryd.pinned.checked.prog.wantsStandIn t = false := by
  obtain rfl : f = 4 := Option.some.inj ((show Tryd.prog.funcNamed "footbridge/footbridgelaw02.HexaBack" = some 4 by kernel_rfl).symm.trans hf) |>.symm
  obtain rfl : fn = Tryd.f4 := (Option.some.inj (Tryd.func4.symm.trans hfn)).symm
  refine ⟨by kernel_rfl, fun j t ht => ?_⟩
  rw [Tryd.params4] at ht
  have hd : t = 9 := by simpa using Array.mem_of_getElem? ht
  rcases hd with rfl
  · exact (show Tryd.prog.wantsStandIn 9 = false by kernel_rfl)
theorem hexaBack_holds : Rows.HexaBackCardSaid :=
  Claim7.holds_tied_plain_at .later [] _ _ _ _ said (fun _ h => by cases h) (by kernel_rfl) (fun _ h => by cases h) hexaBack_row_tie rfl ⟨rfl, rfl⟩ (by kernel_rfl) rfl plain (by kernel_rfl)
#print axioms hexaBack_holds
end Go.Proofs.YtlalfpgpebapeaaDoor.hexaBack
