/-
  footbridgelaw11.MerkleParts returns true for any list of pairs, and changes nothing: the root of a list is made of the trees of its two parts, the first of which has as many pairs as Split tells. Condition: the table sha.roots starts as the program's text lays it (tied by the card).
-/
import Derived.Test.YtbfpepiglcikbaaDoorCards
import Derived.Test.YtbfpepiglcikbaaDoorTie
import Derived.Test.YtbfpepiglcikbaaDoorKAwk
import Derived.Test.YtbfpepiglcikbaaDoorKFew
import Derived.Test.YtbfpepiglcikbaaDoorCPrs
import Derived.Deep.DeepHandedRow
namespace Go.Proofs.YtbfpepiglcikbaaDoor.merkleParts
open Go.ChangeShapes Go.WideShapes Go.ChangeAt Go.RowKit
open Go.ChangeMaps (open_string shut_string)
open W

theorem root_parts (l : List KV) (h : 2 ≤ l.length) (h64 : l.length < 2 ^ 64) : shaOf (topOf l.length (shaOf (nodeOf (tree (l.take (spl l.length))) (tree (l.drop (spl l.length)))))) = rootOf l := by
  unfold rootOf
  rw [tree_two l h h64]
set_option maxHeartbeats 2000000 in
set_option maxRecDepth 100000 in
theorem walk2 (A : Option Addr) (n cap s : Nat) (w : World) (hd : Roots w) (A' : Option Addr) (n' c' : Nat) (x y z r : List UInt8) (hn : 2 ≤ n) (hn2 : n ≤ 20) (h1 : 1 ≤ s) (h2 : s < n) (h3 : n - s ≤ s)
    (hs1 : ∀ W, (Instr.slice 22 (.slice A n cap) (some (.int .i64 s)) none none).run Tryd.prog W = .ok (.slice A' n' c') W)
    (hs2 : ∀ W, (Instr.slice 22 (.slice A n cap) none (some (.int .i64 s)) none).run Tryd.prog W = .ok (.slice A s cap) W)
    (H0 : Hid (Calls Tryd.prog 6 #[.slice A n cap, .int .i64 20] w fun e w' => e = .returned (.bool true) ∧ Below w.heap.size w w'))
    (H1 : Hid (∀ W, Calls Tryd.prog 17 #[.int .i64 n] W fun e w' => e = .returned (.int .i64 s) ∧ W = w'))
    (H2 : Hid (∀ W, Since w W → Calls Tryd.prog 21 #[.slice A s cap] W fun e w' => ∃ u, e = .returned (.tuple #[.string (bs x), u]) ∧ Since w w'))
    (H3 : Hid (∀ W, Since w W → Calls Tryd.prog 21 #[.slice A' n' c'] W fun e w' => ∃ u, e = .returned (.tuple #[.string (bs y), u]) ∧ Since w w'))
    (H4 : Hid (∀ W, Since w W → Calls Tryd.prog 14 #[.slice A n cap] W fun e w' => e = .returned (.string (bs r)) ∧ Since w w'))
    (H5 : Hid (∀ W, Since w W → Calls Tryd.prog 12 #[.string (bs x), .string (bs y)] W fun e w' => e = .returned (.string (bs z)) ∧ Since w w'))
    (H6 : Hid (∀ W, Since w W → Calls Tryd.prog 15 #[.int .i64 n, .string (bs z)] W fun e w' => e = .returned (.string (bs r)) ∧ Since w w')) :
    Calls Tryd.prog 5 #[.slice A n cap] w fun e w' => e = .returned (.bool true) ∧ Below w.heap.size w w' := by
  have HD := Lib.hid hd
  clear hd
  go_enter Tryd.func5, Tryd.ntmps5
  go_wp2_with fail
  refine H0.out.mono ?_
  rintro e w1 ⟨rfl, b1⟩
  go_wp2_with fail
  refine (H1.out w1).mono ?_
  rintro e w2 ⟨rfl, rfl⟩
  go_wp2_with fail
  refine (H2.out w1 (since_of b1)).mono ?_
  rintro e w2 ⟨u2, rfl, s2⟩
  clear H0 H1 H2 b1
  go_wp2_with fail
  refine (H3.out w2 s2).mono ?_
  rintro e w3 ⟨u3, rfl, s3⟩
  clear H3 s2
  go_wp2_with fail
  refine (H4.out w3 s3).mono ?_
  rintro e w4 ⟨rfl, s4⟩
  clear H4 s3
  go_wp2_with fail
  refine (H5.out w4 s4).mono ?_
  rintro e w5 ⟨rfl, s5⟩
  clear H5 s4
  go_wp2_with fail
  refine (H6.out w5 s5).mono ?_
  rintro e w6 ⟨rfl, s6⟩
  clear H6 s5
  go_wp2_with fail
  refine (awake11 w6 (roots_since HD.out s6)).mono ?_
  rintro e w7 ⟨rfl, b7⟩
  go_wp2
  go_ret
  exact ⟨rfl, step_below s6.below b7⟩
set_option maxHeartbeats 2000000 in
set_option maxRecDepth 100000 in
theorem walk (w : World) (hd : Roots w) (v : Value) (l : List KV) (hP : Prs w v l) :
    Calls Tryd.prog 5 #[v] w fun e w' => e = .returned (.bool true) ∧ Below w.heap.size w w' := by
  have hf := fewC v l 20 w hP (by decide)
  by_cases hF : l.length ≤ 20 ∧ Short l
  · rw [decide_eq_true hF] at hf
    by_cases h2 : 2 ≤ l.length
    · obtain ⟨s1, s2, s3⟩ := spl_pos h2 (by omega)
      have hP' := hP
      obtain ⟨A, cap, rfl, hcap, hc⟩ := hP'
      obtain ⟨A1, c1, hs1, P1⟩ := prs_cut 22 Tryd.underlying22 (by kernel_rfl) hP (spl l.length) (by omega)
      obtain ⟨hs2, P2⟩ := prs_upto 22 Tryd.underlying22 (by kernel_rfl) hP (spl l.length) (by omega)
      have l1 := tree_le (l.take (spl l.length)) (by rw [List.length_take]; omega)
      have l2 := tree_le (l.drop (spl l.length)) (by rw [List.length_drop]; omega)
      refine walk2 A l.length cap (spl l.length) w hd A1 _ c1 (tree (l.take (spl l.length))) (tree (l.drop (spl l.length))) (shaOf (nodeOf (tree (l.take (spl l.length))) (tree (l.drop (spl l.length))))) (rootOf l) h2 hF.1 s1 s2 s3 hs1 hs2 (Lib.hid hf) ?_ ?_ ?_ ?_ ?_ ?_
      · exact Lib.hid fun W => by have h := splitC l.length W (by omega); rwa [Int.toNat_natCast] at h
      · exact Lib.hid fun W hW => (rTreeC _ (l.take (spl l.length)) _ W rfl (P2.below hW.below) (by rw [List.length_take]; omega)).mono fun e w' ⟨u, he, ho⟩ => ⟨u, he, since_of (step_below hW.below ho.below)⟩
      · exact Lib.hid fun W hW => (rTreeC _ (l.drop (spl l.length)) _ W rfl (P1.below hW.below) (by rw [List.length_drop]; omega)).mono fun e w' ⟨u, he, ho⟩ => ⟨u, he, since_of (step_below hW.below ho.below)⟩
      · exact Lib.hid fun W hW => (rootC l _ W (hP.below hW.below) (roots_since hd hW) (by omega)).mono fun e w' ⟨he, hb⟩ => ⟨he, since_of (step_below hW.below hb)⟩
      · exact Lib.hid fun W hW => (nodeC _ _ W (roots_since hd hW) (by omega) (by omega)).mono fun e w' ⟨he, hb⟩ => ⟨he, since_of (step_below hW.below hb)⟩
      · exact Lib.hid fun W hW => (topC l.length _ W (roots_since hd hW) (by rw [shaOf_len]; omega)).mono fun e w' ⟨he, hb⟩ => ⟨by rw [he, root_parts l h2 (by omega)], since_of (step_below hW.below hb)⟩
    · obtain ⟨A, cap, rfl, hcap, hc⟩ := hP
      have H0 := Lib.hid hf
      have hlt : (l.length : Int) < 2 := by omega
      clear hf hc
      go_enter Tryd.func5, Tryd.ntmps5
      go_wp2_with fail
      refine H0.out.mono ?_
      rintro e w1 ⟨rfl, b1⟩
      go_wp2_with fail
      refine (awake11 w1 (hd.next b1)).mono ?_
      rintro e w7 ⟨rfl, b7⟩
      go_wp2
      go_ret
      exact ⟨rfl, step_below b1 b7⟩
  · rw [decide_eq_false hF] at hf
    obtain ⟨A, cap, rfl, hcap, hc⟩ := hP
    have H0 := Lib.hid hf
    clear hf hc
    go_enter Tryd.func5, Tryd.ntmps5
    go_wp2_with fail
    refine H0.out.mono ?_
    rintro e w1 ⟨rfl, b1⟩
    go_wp2_with fail
    refine (awake11 w1 (hd.next b1)).mono ?_
    rintro e w7 ⟨rfl, b7⟩
    go_wp2
    go_ret
    exact ⟨rfl, step_below b1 b7⟩
noncomputable def laidWorld (os : Os) : World :=
  { World.holding Tryd.prog os ⟨#[], #[], []⟩ with heap := ((World.holding Tryd.prog os ⟨#[], #[], []⟩).heap.modify 0 (fun | .cells _ t frozen => .cells #[.int .u32 1116352408, .int .u32 1899447441, .int .u32 3049323471, .int .u32 3921009573, .int .u32 961987163, .int .u32 1508970993, .int .u32 2453635748, .int .u32 2870763221, .int .u32 3624381080, .int .u32 310598401, .int .u32 607225278, .int .u32 1426881987, .int .u32 1925078388, .int .u32 2162078206, .int .u32 2614888103, .int .u32 3248222580, .int .u32 3835390401, .int .u32 4022224774, .int .u32 264347078, .int .u32 604807628, .int .u32 770255983, .int .u32 1249150122, .int .u32 1555081692, .int .u32 1996064986, .int .u32 2554220882, .int .u32 2821834349, .int .u32 2952996808, .int .u32 3210313671, .int .u32 3336571891, .int .u32 3584528711, .int .u32 113926993, .int .u32 338241895, .int .u32 666307205, .int .u32 773529912, .int .u32 1294757372, .int .u32 1396182291, .int .u32 1695183700, .int .u32 1986661051, .int .u32 2177026350, .int .u32 2456956037, .int .u32 2730485921, .int .u32 2820302411, .int .u32 3259730800, .int .u32 3345764771, .int .u32 3516065817, .int .u32 3600352804, .int .u32 4094571909, .int .u32 275423344, .int .u32 430227734, .int .u32 506948616, .int .u32 659060556, .int .u32 883997877, .int .u32 958139571, .int .u32 1322822218, .int .u32 1537002063, .int .u32 1747873779, .int .u32 1955562222, .int .u32 2024104815, .int .u32 2227730452, .int .u32 2361852424, .int .u32 2428436474, .int .u32 2756734187, .int .u32 3204031479, .int .u32 3329325298] t frozen | o => o)) }
theorem laid_met (os : Os) : laidMet Tryd.prog Rows.merklePartsRow.laid ((laidWorld os).forCall (fun _ _ => 0) ⟨#[], #[.slice none 0 0], []⟩).memory :=
  laidMet_of_run' 8 (by kernel_rfl) (by kernel_rfl)
theorem reads (os : Os) {H : Type} (enc : TypeId × Value → H) : ∃ ds places, DataW.whole enc Tryd.prog ((laidWorld os).forCall (fun _ _ => 0) ⟨#[], #[.slice none 0 0], []⟩).memory Tryd.f5.params.toList Rows.merklePartsSpec.vars false (#[.slice none 0 0] : Array Value).toList 8 = some (ds, [], places) :=
  ⟨[.nil], [], by kernel_rfl⟩
set_option maxRecDepth 100000 in
theorem contract (H : Type) (enc : TypeId × Value → H) (W : World) (base : Nat) (args : Array Value) (ds gs : List (DataW H)) (before : List MemPlace)
    (hval0 : ∀ (j : Nat) t v, Tryd.f5.params[j]? = some t → args[j]? = some v → Value.okWide Tryd.prog W .any base t v)
    (hW : DataW.Whole enc Tryd.prog Tryd.f5.params.toList Rows.merklePartsSpec.vars false W args.toList ds gs before) (hL : laidMetH Tryd.prog Rows.merklePartsRow.laid W) (_hS : W.ShapedOpen Tryd.prog) :
    Calls Tryd.prog 5 args W fun e W' => ∃ v, e = .returned v ∧ Rows.merklePartsSpec.post enc Tryd.prog Tryd.f5 false true false false W args v W' := by
  have hval : ∀ (j : Nat) t v, Tryd.f5.params[j]? = some t → args[j]? = some v → Value.okWide Tryd.prog W .any base t v := hval0
  have hW' := hW
  obtain ⟨p, q, hA0, hV, rfl, hfz, hnd⟩ := hW
  have hA : DataW.TrodAll enc Tryd.prog W 0 (fun _ => true) true Tryd.f5.params.toList args.toList ds p := hA0
  rw [Tryd.params5] at hA hval
  have hK := hA
  obtain ⟨v0, vs0, d0, ds0, p0, q0, hargs, rfl, rfl, h0, r0⟩ := trodAll_cons hA
  obtain ⟨rfl, rfl, rfl⟩ := trodAll_nil r0
  obtain rfl : args = #[v0] := by cases args; simp_all
  obtain ⟨rfl, rfl⟩ := trodVars_none hV
  obtain ⟨A0, len0, cap0, rfl⟩ := okWide_slice Tryd.underlying22 (hval 0 22 v0 rfl rfl)
  obtain ⟨a0, w0, l0⟩ := open_prs h0
  clear hA0 hval0
  refine (walk W (roots_of hL) _ a0 w0).mono fun e W' ⟨he, bel⟩ => ?_
  subst he
  exact ⟨_, rfl, _, _, _, [], _, [], hW', trodAll_mk1 (shut_bool Tryd.underlying4 _), trodAll_under laidOut bel _ _ _ _ (by kernel_rfl) hK, rfl, bel.frame _, fun h => by cases h⟩
set_option maxRecDepth 100000 in
theorem lifted (os : Os) (started : os.Started) (H : Type) (enc : TypeId × Value → H) (F : Stop.Interp) :
    ReturnsInHanded {} Tryd.checked os 5 .any ((OpenSpec.ofChange Rows.merklePartsSpec).preRow enc Tryd.prog Tryd.f5 Rows.merklePartsRow.domain false Rows.merklePartsRow.laid) (((OpenSpec.ofChange Rows.merklePartsSpec).at F).post enc Tryd.prog Tryd.f5 false true false false) := by
  obtain ⟨ds, places, hx⟩ := reads os enc
  refine returnsInHanded_of_row (C := Tryd.checked) (s := OpenSpec.ofChange Rows.merklePartsSpec) own started (by kernel_rfl) Tryd.func5
    (witness_row_at (enc := enc) (C := Tryd.checked) false (laidWorld os) #[.slice none 0 0] rfl (by kernel_rfl) (by kernel_rfl) (by kernel_rfl)
      (OpenSpec.preRow_of_cond 8 hx (by kernel_rfl) (fun k hk => by cases hk) (by kernel_rfl) (laid_met os))) ?_
  intro W base args ds gs before hval hW _ _ _ hL hS _
  exact contract H enc W base args ds gs before hval hW hL hS
theorem said : Rows.MerklePartsSaid :=
  OpenClaim.holds_of_cond 5 Tryd.f5 rfl rfl rfl rfl rfl rfl rfl ⟨rfl, rfl, rfl, rfl, rfl⟩ rfl rfl rfl rfl rfl (by kernel_rfl) Tryd.func5 (by kernel_rfl)
    (of_decide_eq_true (by kernel_rfl)) (by unfold Func.isWrapper; first | (rw [if_pos (by decide +kernel)]; kernel_rfl) | (rw [if_neg (by decide +kernel)]; exact ⟨rfl, rfl⟩))
    (fun os started H enc _ F => by rw [OpenClaim.pre_eq_preRow]; exact lifted os started H enc F)
theorem plain (f : FuncId) (fn : Func) (hf : Tryd.pinned.checked.prog.funcNamed "footbridge/footbridgelaw11.MerkleParts" = some f) (hfn : Tryd.pinned.checked.prog.funcs[f]? = some fn) :
    false = Tryd.pinned.checked.prog.looks [] ∧ ∀ (j : Nat) t, fn.params[j]? = some t → Tryd.pinned.checked.prog.wantsStandIn t = false := by
  obtain rfl : f = 5 := Option.some.inj ((show Tryd.prog.funcNamed "footbridge/footbridgelaw11.MerkleParts" = some 5 by kernel_rfl).symm.trans hf) |>.symm
  obtain rfl : fn = Tryd.f5 := (Option.some.inj (Tryd.func5.symm.trans hfn)).symm
  refine ⟨by kernel_rfl, fun j t ht => ?_⟩
  rw [Tryd.params5] at ht
  have hd : t = 22 := by simpa using Array.mem_of_getElem? ht
  rcases hd with rfl
  · exact (show Tryd.prog.wantsStandIn 22 = false by kernel_rfl)
theorem merkleParts_holds : Rows.MerklePartsCardSaid :=
  Claim7.holds_tied_plain_at .later [] _ _ _ _ said (fun _ h => by cases h) (by kernel_rfl) (fun _ h => by cases h) merkleParts_row_tie rfl ⟨rfl, rfl⟩ (by kernel_rfl) rfl plain (by kernel_rfl)
#print axioms merkleParts_holds
end Go.Proofs.YtbfpepiglcikbaaDoor.merkleParts
