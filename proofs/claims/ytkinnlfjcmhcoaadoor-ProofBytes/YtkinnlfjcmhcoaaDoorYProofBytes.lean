/-
  footbridgelaw12.ProofBytes returns true for any proof and any string, and changes nothing: Put and Read answer what the reference's do. Condition: the table sha.roots starts as the program's text lays it (tied by the card).
-/
import Derived.Test.YtkinnlfjcmhcoaaDoorCards
import Derived.Test.YtkinnlfjcmhcoaaDoorTie
import Derived.Deep.DeepHandedRow
import Derived.Test.YtkinnlfjcmhcoaaDoorYXBytes
import Derived.Test.YtkinnlfjcmhcoaaDoorZ0e
import Derived.Test.YtkinnlfjcmhcoaaDoorYXRPut
import Derived.Test.YtkinnlfjcmhcoaaDoorYXRRead
import Derived.Test.YtkinnlfjcmhcoaaDoorZ2a
import Derived.Test.YtkinnlfjcmhcoaaDoorZXRead
import Derived.Test.YtkinnlfjcmhcoaaDoorZ0f
namespace Go.Proofs.YtkinnlfjcmhcoaaDoor.proofBytes
open Go.ChangeShapes Go.WideShapes Go.ChangeAt Go.RowKit
open Go.ChangeMaps (open_string shut_string)
open W

theorem list_from : ∀ (k : Nat) (s : ByteArray) (acc : List ByteArray), (listFrom k s acc).2.length ≤ acc.length + k
  | 0, s, acc => by simp [listFrom]
  | k + 1, s, acc => by
    rw [listFrom]
    split
    · simp
    · have := list_from k (stText s 0).1.1 (acc ++ [(stText s 0).2])
      simp at this
      omega
theorem list_len (s : ByteArray) (e : Int) : (stList s e).2.length ≤ 256 := by
  have h := (stLen_facts s e 256).1
  unfold stList
  simp only
  split
  · simp
  · have := list_from (stLen s e 256).2 (stLen s e 256).1.1 []
    simp at this
    omega
theorem near_len : ∀ (k : Nat) (a : ByteArray × Int) (acc : List KV), (nearFrom k a acc).2.length = acc.length + k
  | 0, a, acc => rfl
  | k + 1, a, acc => by
    simp only [nearFrom]
    rw [near_len k]
    simp
    omega
theorem pths_len : ∀ (k : Nat) (a : ByteArray × Int) (acc : List (List (List UInt8))), (∀ q ∈ acc, q.length ≤ 256) → (pathsFrom k a acc).2.length = acc.length + k ∧ ∀ q ∈ (pathsFrom k a acc).2, q.length ≤ 256
  | 0, a, acc, h => ⟨rfl, h⟩
  | k + 1, a, acc, h => by
    simp only [pathsFrom]
    have := pths_len k (stList a.1 a.2).1 (acc ++ [unb (stList a.1 a.2).2]) (fun q hq => by
      rw [List.mem_append, List.mem_singleton] at hq
      rcases hq with hq | rfl
      · exact h q hq
      · have := list_len a.1 a.2
        unfold unb
        rw [List.length_map]
        exact this)
    exact ⟨by rw [this.1]; simp; omega, this.2⟩
/-- what is read is not great -/
theorem rd_small (s : ByteArray) : (rdPf s).1.near.length ≤ 1000000000 ∧ (rdPf s).1.paths.length ≤ 1000000000 ∧ ∀ q ∈ (rdPf s).1.paths, q.length ≤ 1000000000 := by
  have hz : (Pf.zero.near.length ≤ 1000000000) ∧ Pf.zero.paths.length ≤ 1000000000 ∧ ∀ q ∈ Pf.zero.paths, q.length ≤ 1000000000 := ⟨Nat.zero_le _, Nat.zero_le _, fun q hq => by cases hq⟩
  unfold rdPf
  simp only
  split
  · exact hz
  · rename_i he
    split
    · exact hz
    · rename_i hb
      unfold rdTail
      split
      · exact hz
      · rename_i hp
        simp only
        split
        · exact hz
        · rename_i hd
          generalize (stNum (stNum (stNum (stNum s 0).1.1 (stNum s 0).1.2).1.1 (stNum (stNum s 0).1.1 (stNum s 0).1.2).1.2).1.1 (stNum (stNum (stNum s 0).1.1 (stNum s 0).1.2).1.1 (stNum (stNum s 0).1.1 (stNum s 0).1.2).1.2).1.2) = D at *
          generalize (nearFrom D.2 D.1 []).1 = E at *
          have h1 := near_len D.2 D.1 []
          have h2 := pths_len (stNum E.1 E.2).2 (stNum E.1 E.2).1 [] (fun q hq => by cases hq)
          have h3 := stNum_facts E.1 E.2
          have h4 : (stNum E.1 E.2).2 ≤ 2 := by
            by_cases h : (stNum E.1 E.2).1.2 = 0
            · have : ¬ 2 < (stNum E.1 E.2).2 := fun h5 => hp ⟨h, h5⟩
              omega
            · have := h3.2.2 h; omega
          simp at h1 h2
          refine ⟨by simp only; omega, by simp only; omega, fun q hq => by have := h2.2 q hq; omega⟩
theorem walk (w : World) (hd : Roots w) (v : Value) (x : Pf) (hP : Prf w v x) (hI : PfIn x) (s : ByteArray) (_hk : s.size ≤ maxLen) :
    Calls Tryd.prog 5 #[v, .string s] w fun e w' => e = .returned (.bool true) ∧ Below w.heap.size w w' := by
  have hA : Hid (∀ W, Since w W → Calls Tryd.prog 9 #[] W fun e w' => e = .returned (.bool true) ∧ Since W w') := Lib.hid fun W hW => awake12 W (roots_since hd hW) readC
  have hS : Hid (∀ W, Since w W → Calls Tryd.prog 13 #[v] W fun e w' => e = .returned (.bool (decide (Slim x))) ∧ Since W w') := Lib.hid fun W hW => smallC v x W (hP.below hW.below) hI.ln hI.lp
  obtain ⟨nv, pv, e, ⟨B1, e1, r1, q1, q2⟩, ⟨B2, e2, r2, q3, q4⟩⟩ := hP
  have hP : Prf w v x := ⟨nv, pv, e, ⟨B1, e1, r1, q1, q2⟩, ⟨B2, e2, r2, q3, q4⟩⟩
  clear q1 q2 q3 q4
  subst r1 r2 e
  by_cases hT : Slim x ∧ s.size ≤ 5000
  · obtain ⟨hs, h5⟩ := hT
    have hs2 := hs
    obtain ⟨⟨l1, l2⟩, l3, l4⟩ := hs2
    have hq : ∀ q ∈ x.paths, q.length ≤ 1000000 := fun q hq => by have := (l4 q hq).1; omega
    have hform : ∀ W u, Prf W u (rdPf s).1 → ∃ A1 c1 A2 c2, u = pvv (rdPf s).1.n (rdPf s).1.pos (rdPf s).1.there A1 (rdPf s).1.near.length c1 A2 (rdPf s).1.paths.length c2 := fun W u h => by
      obtain ⟨nv, pv, rfl, ⟨A1, c1, rfl, _, _⟩, ⟨A2, c2, rfl, _, _⟩⟩ := h
      exact ⟨A1, c1, A2, c2, rfl⟩
    have hb := rd_small s
    refine (bytes_this x.n x.pos x.there B1 x.near.length e1 B2 x.paths.length e2 s (bs (encPf x).1) (encPf x).2 (rdPf s).2 (rdPf s).1 (rdPf s).1.n (rdPf s).1.pos (rdPf s).1.there (rdPf s).1.near.length (rdPf s).1.paths.length w _ (decide_eq_true hs) h5 hS ?_ ?_ ?_ ?_ ?_ hA).mono fun e w' ⟨he, hb⟩ => ⟨he, hb.below⟩
    · exact Lib.hid fun W hW => putC x _ W (hP.below hW.below) l1 l2 hq
    · exact Lib.hid fun W hW => rPutC x _ W (hP.below hW.below) l1 l2 hq
    · exact Lib.hid fun W _ => (readC s W (by omega)).mono fun e w' ⟨u, he, hp, hs⟩ => by
        obtain ⟨A1, c1, A2, c2, rfl⟩ := hform _ _ hp
        exact ⟨A1, c1, A2, c2, he, hp, hs⟩
    · exact Lib.hid fun W _ => (rReadC s W (by omega)).mono fun e w' ⟨u, he, hp, hs⟩ => by
        obtain ⟨A1, c1, A2, c2, rfl⟩ := hform _ _ hp
        exact ⟨A1, c1, A2, c2, he, hp, hs⟩
    · exact Lib.hid fun W u v _ hp hq => samePf u v _ W hp hq hb.1 hb.2.1 hb.2.2
  · refine (bytes_no x.n x.pos x.there B1 x.near.length e1 B2 x.paths.length e2 s w _ ?_ hS hA).mono fun e w' ⟨he, hb⟩ => ⟨he, hb.below⟩
    exact fun h => hT ⟨of_decide_eq_true h.1, h.2⟩
noncomputable def laidWorld (os : Os) : World :=
  { World.holding Tryd.prog os ⟨#[], #[], []⟩ with heap := ((World.holding Tryd.prog os ⟨#[], #[], []⟩).heap.modify 0 (fun | .cells _ t frozen => .cells #[.int .u32 1116352408, .int .u32 1899447441, .int .u32 3049323471, .int .u32 3921009573, .int .u32 961987163, .int .u32 1508970993, .int .u32 2453635748, .int .u32 2870763221, .int .u32 3624381080, .int .u32 310598401, .int .u32 607225278, .int .u32 1426881987, .int .u32 1925078388, .int .u32 2162078206, .int .u32 2614888103, .int .u32 3248222580, .int .u32 3835390401, .int .u32 4022224774, .int .u32 264347078, .int .u32 604807628, .int .u32 770255983, .int .u32 1249150122, .int .u32 1555081692, .int .u32 1996064986, .int .u32 2554220882, .int .u32 2821834349, .int .u32 2952996808, .int .u32 3210313671, .int .u32 3336571891, .int .u32 3584528711, .int .u32 113926993, .int .u32 338241895, .int .u32 666307205, .int .u32 773529912, .int .u32 1294757372, .int .u32 1396182291, .int .u32 1695183700, .int .u32 1986661051, .int .u32 2177026350, .int .u32 2456956037, .int .u32 2730485921, .int .u32 2820302411, .int .u32 3259730800, .int .u32 3345764771, .int .u32 3516065817, .int .u32 3600352804, .int .u32 4094571909, .int .u32 275423344, .int .u32 430227734, .int .u32 506948616, .int .u32 659060556, .int .u32 883997877, .int .u32 958139571, .int .u32 1322822218, .int .u32 1537002063, .int .u32 1747873779, .int .u32 1955562222, .int .u32 2024104815, .int .u32 2227730452, .int .u32 2361852424, .int .u32 2428436474, .int .u32 2756734187, .int .u32 3204031479, .int .u32 3329325298] t frozen | o => o)) }
theorem laid_met (os : Os) : laidMet Tryd.prog Rows.proofBytesRow.laid ((laidWorld os).forCall (fun _ _ => 0) ⟨#[], #[.agg #[.int .i64 0, .int .i64 0, .bool false, .slice none 0 0, .slice none 0 0], .string ByteArray.empty], []⟩).memory :=
  laidMet_of_run' 8 (by kernel_rfl) (by kernel_rfl)
theorem reads (os : Os) {H : Type} (enc : TypeId × Value → H) : ∃ ds places, DataW.whole enc Tryd.prog ((laidWorld os).forCall (fun _ _ => 0) ⟨#[], #[.agg #[.int .i64 0, .int .i64 0, .bool false, .slice none 0 0, .slice none 0 0], .string ByteArray.empty], []⟩).memory Tryd.f5.params.toList Rows.proofBytesSpec.vars false (#[.agg #[.int .i64 0, .int .i64 0, .bool false, .slice none 0 0, .slice none 0 0], .string ByteArray.empty] : Array Value).toList 8 = some (ds, [], places) :=
  ⟨[.agg [.lit (.int .i64 0), .lit (.int .i64 0), .lit (.bool false), .nil, .nil], .lit (.string [])], [], by kernel_rfl⟩
set_option maxRecDepth 100000 in
theorem contract (H : Type) (enc : TypeId × Value → H) (W : World) (base : Nat) (args : Array Value) (ds gs : List (DataW H)) (before : List MemPlace)
    (hval0 : ∀ (j : Nat) t v, Tryd.f5.params[j]? = some t → args[j]? = some v → Value.okWide Tryd.prog W .any base t v)
    (hW : DataW.Whole enc Tryd.prog Tryd.f5.params.toList Rows.proofBytesSpec.vars false W args.toList ds gs before) (hL : laidMetH Tryd.prog Rows.proofBytesRow.laid W) (_hS : W.ShapedOpen Tryd.prog) :
    Calls Tryd.prog 5 args W fun e W' => ∃ v, e = .returned v ∧ Rows.proofBytesSpec.post enc Tryd.prog Tryd.f5 false true false false W args v W' := by
  have hval : ∀ (j : Nat) t v, Tryd.f5.params[j]? = some t → args[j]? = some v → Value.okWide Tryd.prog W .any base t v := hval0
  have hW' := hW
  obtain ⟨p, q, hA0, hV, rfl, hfz, hnd⟩ := hW
  have hA : DataW.TrodAll enc Tryd.prog W 0 (fun _ => true) true Tryd.f5.params.toList args.toList ds p := hA0
  rw [Tryd.params5] at hA hval
  have hK := hA
  obtain ⟨v0, vs0, d0, ds0, p0, q0, hargs, rfl, rfl, h0, r0⟩ := trodAll_cons hA
  obtain ⟨v1, vs1, d1, ds1, p1, q1, rfl, rfl, rfl, h1, r1⟩ := trodAll_cons r0
  obtain ⟨rfl, rfl, rfl⟩ := trodAll_nil r1
  obtain rfl : args = #[v0, v1] := by cases args; simp_all
  obtain ⟨rfl, rfl⟩ := trodVars_none hV
  obtain ⟨a0, w0, b0⟩ := open_prf (hval 0 28 v0 rfl rfl) h0
  obtain ⟨a1, rfl, rfl, rfl, w1⟩ := open_string Tryd.underlying9 (hval 1 9 v1 rfl rfl) h1
  clear hA0 hval0
  refine (walk W (roots_of hL) _ a0 w0 b0 a1 w1).mono fun e W' ⟨he, bel⟩ => ?_
  subst he
  exact ⟨_, rfl, _, _, _, [], _, [], hW', trodAll_mk1 (shut_bool Tryd.underlying4 _), trodAll_under laidOut bel _ _ _ _ (by kernel_rfl) hK, rfl, bel.frame _, fun h => by cases h⟩
set_option maxRecDepth 100000 in
theorem lifted (os : Os) (started : os.Started) (H : Type) (enc : TypeId × Value → H) (F : Stop.Interp) :
    ReturnsInHanded {} Tryd.checked os 5 .any ((OpenSpec.ofChange Rows.proofBytesSpec).preRow enc Tryd.prog Tryd.f5 Rows.proofBytesRow.domain false Rows.proofBytesRow.laid) (((OpenSpec.ofChange Rows.proofBytesSpec).at F).post enc Tryd.prog Tryd.f5 false true false false) := by
  obtain ⟨ds, places, hx⟩ := reads os enc
  refine returnsInHanded_of_row (C := Tryd.checked) (s := OpenSpec.ofChange Rows.proofBytesSpec) own started (by kernel_rfl) Tryd.func5
    (witness_row_at (enc := enc) (C := Tryd.checked) false (laidWorld os) #[.agg #[.int .i64 0, .int .i64 0, .bool false, .slice none 0 0, .slice none 0 0], .string ByteArray.empty] rfl (by kernel_rfl) (by kernel_rfl) (by kernel_rfl)
      (OpenSpec.preRow_of_cond 8 hx (by kernel_rfl) (fun k hk => by cases hk) (by kernel_rfl) (laid_met os))) ?_
  intro W base args ds gs before hval hW _ _ _ hL hS _
  exact contract H enc W base args ds gs before hval hW hL hS
theorem said : Rows.ProofBytesSaid :=
  OpenClaim.holds_of_cond 5 Tryd.f5 rfl rfl rfl rfl rfl rfl rfl ⟨rfl, rfl, rfl, rfl, rfl⟩ rfl rfl rfl rfl rfl (by kernel_rfl) Tryd.func5 (by kernel_rfl)
    (of_decide_eq_true (by kernel_rfl)) (by unfold Func.isWrapper; first | (rw [if_pos (by decide +kernel)]; kernel_rfl) | (rw [if_neg (by decide +kernel)]; exact ⟨rfl, rfl⟩))
    (fun os started H enc _ F => by rw [OpenClaim.pre_eq_preRow]; exact lifted os started H enc F)
theorem plain (f : FuncId) (fn : Func) (hf : Tryd.pinned.checked.prog.funcNamed "footbridge/footbridgelaw12.ProofBytes" = some f) (hfn : Tryd.pinned.checked.prog.funcs[f]? = some fn) :
    false = Tryd.pinned.checked.prog.looks [] ∧ ∀ (j : Nat) t, fn.params[j]? = some t → Tryd.pinned.checked.prog.wantsStandIn t = false := by
  obtain rfl : f = 5 := Option.some.inj ((show Tryd.prog.funcNamed "footbridge/footbridgelaw12.ProofBytes" = some 5 by kernel_rfl).symm.trans hf) |>.symm
  obtain rfl : fn = Tryd.f5 := (Option.some.inj (Tryd.func5.symm.trans hfn)).symm
  refine ⟨by kernel_rfl, fun j t ht => ?_⟩
  rw [Tryd.params5] at ht
  have hd : t = 28 ∨ t = 9 := by simpa using Array.mem_of_getElem? ht
  rcases hd with rfl | rfl
  · exact (show Tryd.prog.wantsStandIn 28 = false by kernel_rfl)
  · exact (show Tryd.prog.wantsStandIn 9 = false by kernel_rfl)
theorem proofBytes_holds : Rows.ProofBytesCardSaid :=
  Claim7.holds_tied_plain_at .later [] _ _ _ _ said (fun _ h => by cases h) (by kernel_rfl) (fun _ h => by cases h) proofBytes_row_tie rfl ⟨rfl, rfl⟩ (by kernel_rfl) rfl plain (by kernel_rfl)
#print axioms proofBytes_holds
end Go.Proofs.YtkinnlfjcmhcoaaDoor.proofBytes
