/-
  footbridgelaw11.MerkleRoots returns true for any list of pairs and any number, and changes nothing: Leaf, Node, Split, Top and Root answer what the reference's do. Condition: the table sha.roots starts as the program's text lays it (tied by the card).
-/
import Derived.Test.YtbfpepiglcikbaaDoorCards
import Derived.Test.YtbfpepiglcikbaaDoorTie
import Derived.Test.YtbfpepiglcikbaaDoorKAwk
import Derived.Test.YtbfpepiglcikbaaDoorKFew
import Derived.Test.YtbfpepiglcikbaaDoorCPrs
import Derived.Deep.DeepHandedRow
namespace Go.Proofs.YtbfpepiglcikbaaDoor.merkleRoots
open Go.ChangeShapes Go.WideShapes Go.ChangeAt Go.RowKit
open Go.ChangeMaps (open_string shut_string)
open W

theorem fst_some (x : ByteArray) : Value.string x = Value.string (bs x.data.toList) := by rw [bs_of]
set_option maxHeartbeats 2000000 in
set_option maxRecDepth 100000 in
theorem walk2 (A : Option Addr) (cap : Nat) (l : List KV) (n : Int) (w : World) (hd : Roots w) (r q : List UInt8) (b1 : n ≤ 9223372036854775807) (hl : l.length ≤ 20) (hs : Short l)
    (hc : ∀ i (h : i < l.length), ∃ b off, A = some ⟨b, off, none⟩ ∧ w.cell? ⟨b, off + i * 2, none⟩ = some (.string l[i].1) ∧ w.cell? ⟨b, off + i * 2 + 1, none⟩ = some (.string l[i].2))
    (H0 : Hid (Calls Tryd.prog 6 #[.slice A l.length cap, .int .i64 20] w fun e w' => e = .returned (.bool true) ∧ Below w.heap.size w w'))
    (H1 : Hid (∀ W, Since w W → Calls Tryd.prog 8 #[.slice A l.length cap] W fun e w' => ∃ t, e = .returned (.tuple #[.string (bs r), t]) ∧ Since w w'))
    (H2 : Hid (∀ W, Since w W → Calls Tryd.prog 14 #[.slice A l.length cap] W fun e w' => e = .returned (.string (bs r)) ∧ Since w w'))
    (H3 : Hid (∀ W, Since w W → Calls Tryd.prog 15 #[.int .i64 n, .string (bs r)] W fun e w' => e = .returned (.string (bs (shaOf q))) ∧ Since w w'))
    (H4 : Hid (∀ W, Since w W → Calls Tryd.prog 16 #[.int .i64 n, .string (bs r)] W fun e w' => e = .returned (.string (bs q)) ∧ Since w w'))
    (H5 : Hid (∀ W, Since w W → Calls Tryd.prog 10 #[.string (bs q)] W fun e w' => e = .returned (.string (bs (shaOf q))) ∧ Since w w')) :
    Calls Tryd.prog 3 #[.slice A l.length cap, .int .i64 n] w fun e w' => e = .returned (.bool true) ∧ Below w.heap.size w w' := by
  have HD := Lib.hid hd
  have HC := Lib.hid hc
  have HS := Lib.hid hs
  generalize hz : shaOf q = z at *
  clear hd hc hs hz
  go_enter Tryd.func3, Tryd.ntmps3
  go_wp2_with fail
  refine H0.out.mono ?_
  rintro e w1 ⟨rfl, bw⟩
  clear H0
  go_wp2_with fail
  refine (H1.out w1 (since_of bw)).mono ?_
  rintro e w2 ⟨t2, rfl, s2⟩
  have S2 := Lib.hid s2
  clear H1 bw s2
  go_wp2
  go_loopw [7] (fun i wr => ∃ k : Nat, k ≤ l.length ∧ i = .int .i64 k ∧ Hid (Since w wr)) (fun i _ => l.length - (intOf i).toNat)
  case atStart => exact ⟨0, Nat.zero_le _, rfl, S2⟩
  case round =>
    clear S2
    obtain ⟨k, hk, rfl, HB⟩ := hrel
    by_cases hlt : k < l.length
    · obtain ⟨b, off, rfl, d0, d1⟩ := HC.out k hlt
      have c0 := HB.out.cell d0
      have c1 := HB.out.cell d1
      have hsh := HS.out l[k] (List.getElem_mem hlt)
      have L1 := Lib.hid (leafOf_len l[k])
      have K1 := Lib.hid (show ∀ W, Since wr W → Calls Tryd.prog 9 #[.agg #[.string l[k].1, .string l[k].2]] W fun e w' => e = .returned (.string (bs (shaOf (leafOf l[k])))) ∧ Since wr w' from fun W hW => (leafC l[k] W (roots_since (roots_since HD.out HB.out) hW)).mono fun _ _ ⟨he, hb⟩ => ⟨he, since_of (step_below hW.below hb)⟩)
      have K2 := Lib.hid (show ∀ W, Since wr W → Calls Tryd.prog 11 #[.agg #[.string l[k].1, .string l[k].2]] W fun e w' => e = .returned (.string (bs (leafOf l[k]))) ∧ Since wr w' from fun W hW => (rLeafC l[k] W).mono fun _ _ ⟨he, hb⟩ => ⟨he, since_of (step_below hW.below hb)⟩)
      have K3 := Lib.hid (show ∀ W, Since wr W → Calls Tryd.prog 10 #[.string (bs (leafOf l[k]))] W fun e w' => e = .returned (.string (bs (shaOf (leafOf l[k])))) ∧ Since wr w' from fun W hW => (rShaC (leafOf l[k]) _ (Lib.hid rfl) W (by have := L1.out; omega)).mono fun _ _ ⟨he, hb⟩ => ⟨he, since_of (step_below hW.below hb)⟩)
      have M1 := Lib.hid (show ∀ W, Since wr W → Calls Tryd.prog 12 #[.string l[k].1, .string l[k].2] W fun e w' => e = .returned (.string (bs (shaOf (nodeOf l[k].1.data.toList l[k].2.data.toList)))) ∧ Since wr w' from fun W hW => by
        rw [fst_some l[k].1, fst_some l[k].2]
        exact (nodeC _ _ W (roots_since (roots_since HD.out HB.out) hW) (by rw [size_list]; omega) (by rw [size_list]; omega)).mono fun _ _ ⟨he, hb⟩ => ⟨he, since_of (step_below hW.below hb)⟩)
      have M2 := Lib.hid (show ∀ W, Since wr W → Calls Tryd.prog 13 #[.string l[k].1, .string l[k].2] W fun e w' => e = .returned (.string (bs (nodeOf l[k].1.data.toList l[k].2.data.toList))) ∧ Since wr w' from fun W hW => by
        rw [fst_some l[k].1, fst_some l[k].2]
        exact (rNodeC _ _ W (by rw [size_list]; omega) (by rw [size_list]; omega)).mono fun _ _ ⟨he, hb⟩ => ⟨he, since_of (step_below hW.below hb)⟩)
      have M3 := Lib.hid (show ∀ W, Since wr W → Calls Tryd.prog 10 #[.string (bs (nodeOf l[k].1.data.toList l[k].2.data.toList))] W fun e w' => e = .returned (.string (bs (shaOf (nodeOf l[k].1.data.toList l[k].2.data.toList)))) ∧ Since wr w' from fun W hW => (rShaC _ _ (Lib.hid rfl) W (by rw [nodeOf_len, size_list, size_list]; omega)).mono fun _ _ ⟨he, hb⟩ => ⟨he, since_of (step_below hW.below hb)⟩)
      generalize shaOf (leafOf l[k]) = y1 at *
      generalize leafOf l[k] = x1 at *
      generalize shaOf (nodeOf l[k].1.data.toList l[k].2.data.toList) = y2 at *
      generalize nodeOf l[k].1.data.toList l[k].2.data.toList = x2 at *
      generalize l[k].1 = p1 at *
      generalize l[k].2 = p2 at *
      have i0 : (0 : Int) ≤ (k : Int) := by omega
      have i1 : (k : Int) < (l.length : Int) := by omega
      have r0 := Since.refl wr
      clear d0 d1 hsh L1
      go_wp2
      go_region_held3 (fun W => W.cell? ⟨b, off + k * 2, none⟩ = some (.string p1) ∧ W.cell? ⟨b, off + k * 2 + 1, none⟩ = some (.string p2))
        (first | exact ⟨s3.cell c0, s3.cell c1⟩ | exact ⟨s4.cell c0, s4.cell c1⟩ | exact ⟨s5.cell c0, s5.cell c1⟩ | exact ⟨s6.cell c0, s6.cell c1⟩ | exact ⟨s7.cell c0, s7.cell c1⟩ | exact ⟨s8.cell c0, s8.cell c1⟩ | go_keep)
        (first
          | (go_at_call 9; refine (K1.out _ (by exact r0)).mono ?_; clear K1; rintro en w3 ⟨rfl, s3⟩)
          | (go_at_call 11; refine (K2.out _ (by exact s3)).mono ?_; clear K2; rintro en w4 ⟨rfl, s4⟩)
          | (go_at_call 10; refine (K3.out _ (by exact s4)).mono ?_; clear K3; rintro en w5 ⟨rfl, s5⟩)
          | (go_at_call 12; refine (M1.out _ (by exact s5)).mono ?_; clear M1; rintro en w6 ⟨rfl, s6⟩)
          | (go_at_call 13; refine (M2.out _ (by exact s6)).mono ?_; clear M2; rintro en w7 ⟨rfl, s7⟩)
          | (go_at_call 10; refine (M3.out _ (by exact s7)).mono ?_; clear M3; rintro en w8 ⟨rfl, s8⟩))
      all_goals go_wp2
      all_goals go_roundw
      all_goals first
        | exact ⟨k + 1, by omega, by go_num, Lib.hid (since_of (step_below HB.out.below s8.below))⟩
        | (simp [intOf]; omega)
    · obtain rfl : k = l.length := by omega
      have ni : ¬ (l.length : Int) < (l.length : Int) := by omega
      rename World => w3
      go_wp2_with fail
      refine (H2.out w3 HB.out).mono ?_
      rintro e w4 ⟨rfl, s4⟩
      clear H2 HB
      go_wp2_with fail
      refine (H3.out w4 s4).mono ?_
      rintro e w5 ⟨rfl, s5⟩
      clear H3 s4
      go_wp2_with fail
      refine (H4.out w5 s5).mono ?_
      rintro e w6 ⟨rfl, s6⟩
      clear H4 s5
      go_wp2_with fail
      refine (H5.out w6 s6).mono ?_
      rintro e w7 ⟨rfl, s7⟩
      have S7 := Lib.hid s7
      clear H5 s6 s7
      by_cases hn : n ≤ 1099511627776
      · have T1 := Lib.hid (fun W => splitC n W b1)
        have T2 := Lib.hid (fun W => rSplitC n W hn)
        generalize (spl n.toNat : Int) = j at *
        go_wp2_with fail
        refine (T1.out w7).mono ?_
        rintro e w8 ⟨rfl, rfl⟩
        go_wp2_with fail
        refine (T2.out w7).mono ?_
        rintro e w8 ⟨rfl, b8⟩
        have S8 := Lib.hid (step_below S7.out.below b8)
        clear b8
        go_wp2_with fail
        refine (awake11 w8 (HD.out.next S8.out)).mono ?_
        rintro e w9 ⟨rfl, b9⟩
        go_wp2
        go_ret
        exact ⟨rfl, step_below S8.out b9⟩
      · go_wp2_with fail
        refine (awake11 w7 (roots_since HD.out S7.out)).mono ?_
        rintro e w9 ⟨rfl, b9⟩
        go_wp2
        go_ret
        exact ⟨rfl, step_below S7.out.below b9⟩
set_option maxHeartbeats 2000000 in
set_option maxRecDepth 100000 in
theorem walk (w : World) (hd : Roots w) (v : Value) (l : List KV) (hP : Prs w v l) (n : Int) (_b0 : -9223372036854775808 ≤ n) (b1 : n ≤ 9223372036854775807) :
    Calls Tryd.prog 3 #[v, .int .i64 n] w fun e w' => e = .returned (.bool true) ∧ Below w.heap.size w w' := by
  have hf := fewC v l 20 w hP (by decide)
  by_cases hF : l.length ≤ 20 ∧ Short l
  · rw [decide_eq_true hF] at hf
    have hP' := hP
    obtain ⟨A, cap, rfl, hcap, hc⟩ := hP'
    have lr : (rootOf l).length = 32 := shaOf_len _
    have lt := topOf_len n (rootOf l)
    refine walk2 A cap l n w hd (rootOf l) (topOf n (rootOf l)) b1 hF.1 hF.2 hc (Lib.hid hf) ?_ ?_ ?_ ?_ ?_
    · exact Lib.hid fun W hW => (rRootC l _ W (hP.below hW.below) (by omega)).mono fun e w' ⟨t, he, ho⟩ => ⟨t, he, since_of (step_below hW.below ho.below)⟩
    · exact Lib.hid fun W hW => (rootC l _ W (hP.below hW.below) (roots_since hd hW) (by omega)).mono fun e w' ⟨he, hb⟩ => ⟨he, since_of (step_below hW.below hb)⟩
    · exact Lib.hid fun W hW => (topC n _ W (roots_since hd hW) (by omega)).mono fun e w' ⟨he, hb⟩ => ⟨he, since_of (step_below hW.below hb)⟩
    · exact Lib.hid fun W hW => (rTopC n _ W (by omega)).mono fun e w' ⟨he, hb⟩ => ⟨he, since_of (step_below hW.below hb)⟩
    · exact Lib.hid fun W hW => (rShaC _ _ (Lib.hid rfl) W (by omega)).mono fun e w' ⟨he, hb⟩ => ⟨he, since_of (step_below hW.below hb)⟩
  · rw [decide_eq_false hF] at hf
    obtain ⟨A, cap, rfl, hcap, hc⟩ := hP
    have H0 := Lib.hid hf
    clear hf hc
    go_enter Tryd.func3, Tryd.ntmps3
    go_wp2_with fail
    refine H0.out.mono ?_
    rintro e w1 ⟨rfl, bw⟩
    go_wp2_with fail
    refine (awake11 w1 (hd.next bw)).mono ?_
    rintro e w7 ⟨rfl, b7⟩
    go_wp2
    go_ret
    exact ⟨rfl, step_below bw b7⟩
noncomputable def laidWorld (os : Os) : World :=
  { World.holding Tryd.prog os ⟨#[], #[], []⟩ with heap := ((World.holding Tryd.prog os ⟨#[], #[], []⟩).heap.modify 0 (fun | .cells _ t frozen => .cells #[.int .u32 1116352408, .int .u32 1899447441, .int .u32 3049323471, .int .u32 3921009573, .int .u32 961987163, .int .u32 1508970993, .int .u32 2453635748, .int .u32 2870763221, .int .u32 3624381080, .int .u32 310598401, .int .u32 607225278, .int .u32 1426881987, .int .u32 1925078388, .int .u32 2162078206, .int .u32 2614888103, .int .u32 3248222580, .int .u32 3835390401, .int .u32 4022224774, .int .u32 264347078, .int .u32 604807628, .int .u32 770255983, .int .u32 1249150122, .int .u32 1555081692, .int .u32 1996064986, .int .u32 2554220882, .int .u32 2821834349, .int .u32 2952996808, .int .u32 3210313671, .int .u32 3336571891, .int .u32 3584528711, .int .u32 113926993, .int .u32 338241895, .int .u32 666307205, .int .u32 773529912, .int .u32 1294757372, .int .u32 1396182291, .int .u32 1695183700, .int .u32 1986661051, .int .u32 2177026350, .int .u32 2456956037, .int .u32 2730485921, .int .u32 2820302411, .int .u32 3259730800, .int .u32 3345764771, .int .u32 3516065817, .int .u32 3600352804, .int .u32 4094571909, .int .u32 275423344, .int .u32 430227734, .int .u32 506948616, .int .u32 659060556, .int .u32 883997877, .int .u32 958139571, .int .u32 1322822218, .int .u32 1537002063, .int .u32 1747873779, .int .u32 1955562222, .int .u32 2024104815, .int .u32 2227730452, .int .u32 2361852424, .int .u32 2428436474, .int .u32 2756734187, .int .u32 3204031479, .int .u32 3329325298] t frozen | o => o)) }
theorem laid_met (os : Os) : laidMet Tryd.prog Rows.merkleRootsRow.laid ((laidWorld os).forCall (fun _ _ => 0) ⟨#[], #[.slice none 0 0, .int .i64 0], []⟩).memory :=
  laidMet_of_run' 8 (by kernel_rfl) (by kernel_rfl)
theorem reads (os : Os) {H : Type} (enc : TypeId × Value → H) : ∃ ds places, DataW.whole enc Tryd.prog ((laidWorld os).forCall (fun _ _ => 0) ⟨#[], #[.slice none 0 0, .int .i64 0], []⟩).memory Tryd.f3.params.toList Rows.merkleRootsSpec.vars false (#[.slice none 0 0, .int .i64 0] : Array Value).toList 8 = some (ds, [], places) :=
  ⟨[.nil, .lit (.int .i64 0)], [], by kernel_rfl⟩
set_option maxRecDepth 100000 in
theorem contract (H : Type) (enc : TypeId × Value → H) (W : World) (base : Nat) (args : Array Value) (ds gs : List (DataW H)) (before : List MemPlace)
    (hval0 : ∀ (j : Nat) t v, Tryd.f3.params[j]? = some t → args[j]? = some v → Value.okWide Tryd.prog W .any base t v)
    (hW : DataW.Whole enc Tryd.prog Tryd.f3.params.toList Rows.merkleRootsSpec.vars false W args.toList ds gs before) (hL : laidMetH Tryd.prog Rows.merkleRootsRow.laid W) (_hS : W.ShapedOpen Tryd.prog) :
    Calls Tryd.prog 3 args W fun e W' => ∃ v, e = .returned v ∧ Rows.merkleRootsSpec.post enc Tryd.prog Tryd.f3 false true false false W args v W' := by
  have hval : ∀ (j : Nat) t v, Tryd.f3.params[j]? = some t → args[j]? = some v → Value.okWide Tryd.prog W .any base t v := hval0
  have hW' := hW
  obtain ⟨p, q, hA0, hV, rfl, hfz, hnd⟩ := hW
  have hA : DataW.TrodAll enc Tryd.prog W 0 (fun _ => true) true Tryd.f3.params.toList args.toList ds p := hA0
  rw [Tryd.params3] at hA hval
  have hK := hA
  obtain ⟨v0, vs0, d0, ds0, p0, q0, hargs, rfl, rfl, h0, r0⟩ := trodAll_cons hA
  obtain ⟨v1, vs1, d1, ds1, p1, q1, rfl, rfl, rfl, h1, r1⟩ := trodAll_cons r0
  obtain ⟨rfl, rfl, rfl⟩ := trodAll_nil r1
  obtain rfl : args = #[v0, v1] := by cases args; simp_all
  obtain ⟨rfl, rfl⟩ := trodVars_none hV
  obtain ⟨A0, len0, cap0, rfl⟩ := okWide_slice Tryd.underlying22 (hval 0 22 v0 rfl rfl)
  obtain ⟨a0, w0, l0⟩ := open_prs h0
  obtain ⟨a1, rfl, rfl, rfl, w1⟩ := open_int Tryd.underlying3 (hval 1 3 v1 rfl rfl) h1
  have b1 := bounds_i64 w1
  clear hA0 hval0
  refine (walk W (roots_of hL) _ a0 w0 a1 b1.1 b1.2).mono fun e W' ⟨he, bel⟩ => ?_
  subst he
  exact ⟨_, rfl, _, _, _, [], _, [], hW', trodAll_mk1 (shut_bool Tryd.underlying4 _), trodAll_under laidOut bel _ _ _ _ (by kernel_rfl) hK, rfl, bel.frame _, fun h => by cases h⟩
set_option maxRecDepth 100000 in
theorem lifted (os : Os) (started : os.Started) (H : Type) (enc : TypeId × Value → H) (F : Stop.Interp) :
    ReturnsInHanded {} Tryd.checked os 3 .any ((OpenSpec.ofChange Rows.merkleRootsSpec).preRow enc Tryd.prog Tryd.f3 Rows.merkleRootsRow.domain false Rows.merkleRootsRow.laid) (((OpenSpec.ofChange Rows.merkleRootsSpec).at F).post enc Tryd.prog Tryd.f3 false true false false) := by
  obtain ⟨ds, places, hx⟩ := reads os enc
  refine returnsInHanded_of_row (C := Tryd.checked) (s := OpenSpec.ofChange Rows.merkleRootsSpec) own started (by kernel_rfl) Tryd.func3
    (witness_row_at (enc := enc) (C := Tryd.checked) false (laidWorld os) #[.slice none 0 0, .int .i64 0] rfl (by kernel_rfl) (by kernel_rfl) (by kernel_rfl)
      (OpenSpec.preRow_of_cond 8 hx (by kernel_rfl) (fun k hk => by cases hk) (by kernel_rfl) (laid_met os))) ?_
  intro W base args ds gs before hval hW _ _ _ hL hS _
  exact contract H enc W base args ds gs before hval hW hL hS
theorem said : Rows.MerkleRootsSaid :=
  OpenClaim.holds_of_cond 3 Tryd.f3 rfl rfl rfl rfl rfl rfl rfl ⟨rfl, rfl, rfl, rfl, rfl⟩ rfl rfl rfl rfl rfl (by kernel_rfl) Tryd.func3 (by kernel_rfl)
    (of_decide_eq_true (by kernel_rfl)) (by unfold Func.isWrapper; first | (rw [if_pos (by decide +kernel)]; kernel_rfl) | (rw [if_neg (by decide +kernel)]; exact ⟨rfl, rfl⟩))
    (fun os started H enc _ F => by rw [OpenClaim.pre_eq_preRow]; exact lifted os started H enc F)
theorem plain (f : FuncId) (fn : Func) (hf : Tryd.pinned.checked.prog.funcNamed "footbridge/footbridgelaw11.MerkleRoots" = some f) (hfn : Tryd.pinned.checked.prog.funcs[f]? = some fn) :
    false = Tryd.pinned.checked.prog.looks [] ∧ ∀ (j : Nat) t, fn.params[j]? = some t → Tryd.pinned.checked.prog.wantsStandIn t = false := by
  obtain rfl : f = 3 := Option.some.inj ((show Tryd.prog.funcNamed "footbridge/footbridgelaw11.MerkleRoots" = some 3 by kernel_rfl).symm.trans hf) |>.symm
  obtain rfl : fn = Tryd.f3 := (Option.some.inj (Tryd.func3.symm.trans hfn)).symm
  refine ⟨by kernel_rfl, fun j t ht => ?_⟩
  rw [Tryd.params3] at ht
  have hd : t = 22 ∨ t = 3 := by simpa using Array.mem_of_getElem? ht
  rcases hd with rfl | rfl
  · exact (show Tryd.prog.wantsStandIn 22 = false by kernel_rfl)
  · exact (show Tryd.prog.wantsStandIn 3 = false by kernel_rfl)
theorem merkleRoots_holds : Rows.MerkleRootsCardSaid :=
  Claim7.holds_tied_plain_at .later [] _ _ _ _ said (fun _ h => by cases h) (by kernel_rfl) (fun _ h => by cases h) merkleRoots_row_tie rfl ⟨rfl, rfl⟩ (by kernel_rfl) rfl plain (by kernel_rfl)
#print axioms merkleRoots_holds
end Go.Proofs.YtbfpepiglcikbaaDoor.merkleRoots
