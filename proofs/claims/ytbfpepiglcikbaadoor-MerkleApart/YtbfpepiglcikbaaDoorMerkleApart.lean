/-
  footbridgelaw11.MerkleApart returns true for any two lists of pairs, and changes nothing: unlike lists have unlike roots, or two unlike texts that were hashed have one hash. Condition: the table sha.roots starts as the program's text lays it (tied by the card).
-/
import Derived.Test.YtbfpepiglcikbaaDoorCards
import Derived.Test.YtbfpepiglcikbaaDoorTie
import Derived.Test.YtbfpepiglcikbaaDoorKAwk
import Derived.Test.YtbfpepiglcikbaaDoorKFew
import Derived.Test.YtbfpepiglcikbaaDoorKTwice
import Derived.Test.YtbfpepiglcikbaaDoorCPrs
import Derived.Test.YtbfpepiglcikbaaDoorCSame
import Derived.Deep.DeepHandedRow
namespace Go.Proofs.YtbfpepiglcikbaaDoor.merkleApart
open Go.ChangeShapes Go.WideShapes Go.ChangeAt Go.RowKit
open Go.ChangeMaps (open_string shut_string)
open W

theorem texts_short : ∀ (n : Nat) (l : List KV), l.length = n → n < 2 ^ 64 → ∀ x ∈ texts l, x.length ≤ 131089 := by
  intro n
  induction n using Nat.strongRecOn with
  | _ n ih =>
    intro l hl h64 x hx
    by_cases h2 : 2 ≤ n
    · obtain ⟨s1, s2, s3⟩ := spl_pos h2 h64
      rw [texts_two l (by omega) (by omega), hl] at hx
      simp only [List.mem_append, List.mem_singleton] at hx
      have e1 : (l.take (spl n)).length = spl n := by rw [List.length_take]; omega
      have e2 : (l.drop (spl n)).length = n - spl n := by rw [List.length_drop, hl]
      rcases hx with (hx | hx) | rfl
      · exact ih _ s2 _ e1 (by omega) x hx
      · exact ih _ (by omega) _ e2 (by omega) x hx
      · have l1 := tree_le (l.take (spl n)) (by omega)
        have l2 := tree_le (l.drop (spl n)) (by omega)
        rw [nodeOf_len]
        omega
    · match l with
      | [] => rw [texts_nil] at hx; cases hx
      | [p] => rw [texts_one, List.mem_singleton] at hx; rw [hx]; exact leafOf_len p
      | p :: q :: r => simp at hl; omega
theorem allOf_short (l : List KV) (h : l.length ≤ 10) : ∀ x ∈ allOf l, x.length ≤ 1000000 := by
  intro x hx
  unfold allOf at hx
  rw [List.mem_append, List.mem_singleton] at hx
  rcases hx with hx | rfl
  · have := texts_short _ l rfl (by omega) x hx
    omega
  · have h1 := topOf_len l.length (tree l)
    have h2 := tree_le l (by omega)
    omega
theorem allOf_len (l : List KV) (h : l.length ≤ 10) : (allOf l).length ≤ 21 := by
  have := texts_len l (by omega)
  unfold allOf
  rw [List.length_append, List.length_singleton]
  omega
set_option maxHeartbeats 2000000 in
set_option maxRecDepth 100000 in
theorem walk2 (v u : Value) (w : World) (hd : Roots w) (x y : List UInt8) (X Y : List ByteArray) (same : Bool) (hl : X.length ≤ 21) (hm : Y.length ≤ 21) (hxy : same = true → x = y)
    (H0 : Hid (Calls Tryd.prog 6 #[v, .int .i64 10] w fun e w' => e = .returned (.bool true) ∧ Below w.heap.size w w'))
    (H1 : Hid (∀ W, Since w W → Calls Tryd.prog 6 #[u, .int .i64 10] W fun e w' => e = .returned (.bool true) ∧ Since w w'))
    (H2 : Hid (∀ W, Since w W → Calls Tryd.prog 8 #[v] W fun e w' => ∃ t, e = .returned (.tuple #[.string (bs x), t]) ∧ OwnStrs w.heap.size t X w w'))
    (H3 : Hid (∀ W, Since w W → Calls Tryd.prog 8 #[u] W fun e w' => ∃ t, e = .returned (.tuple #[.string (bs y), t]) ∧ OwnStrs W.heap.size t Y W w'))
    (H4 : Hid (∀ W, Since w W → Calls Tryd.prog 19 #[v, u] W fun e w' => e = .returned (.bool same) ∧ Below W.heap.size W w'))
    (H5 : Hid (∀ W, Since w W → Calls Tryd.prog 14 #[v] W fun e w' => e = .returned (.string (bs x)) ∧ Below W.heap.size W w'))
    (H6 : Hid (∀ W, Since w W → Calls Tryd.prog 14 #[u] W fun e w' => e = .returned (.string (bs y)) ∧ Below W.heap.size W w'))
    (H7 : Hid (x = y → same = false → ∀ W t, Since w W → Txs W W.heap.size t (X ++ Y) → Calls Tryd.prog 20 #[t] W fun e w' => e = .returned (.bool true) ∧ Since w w')) :
    Calls Tryd.prog 4 #[v, u] w fun e w' => e = .returned (.bool true) ∧ Below w.heap.size w w' := by
  have HD := Lib.hid hd
  have HL := Lib.hid (And.intro hl hm)
  have HXY := Lib.hid hxy
  clear hd hl hm hxy
  go_enter Tryd.func4, Tryd.ntmps4
  go_wp2_with fail
  refine H0.out.mono ?_
  rintro e w1 ⟨rfl, b1⟩
  clear H0
  go_wp2_with fail
  refine (H1.out w1 (since_of b1)).mono ?_
  rintro e w2 ⟨rfl, s2⟩
  clear H1 b1
  go_wp2_with fail
  refine (H2.out w2 s2).mono ?_
  rintro e w3 ⟨t3, rfl, o3⟩
  have O3 := Lib.hid o3
  clear H2 s2 o3
  go_wp2_with fail
  refine (H3.out w3 (since_of O3.out.below)).mono ?_
  rintro e w4 ⟨t4, rfl, o4⟩
  have O4 := Lib.hid (O3.out.after o4.below)
  have P4 := Lib.hid o4
  clear H3 O3 o4
  go_wp2_with fail
  refine (H4.out w4 (since_of O4.out.below)).mono ?_
  rintro e w5 ⟨rfl, b5⟩
  have O5 := Lib.hid (O4.out.after b5)
  have P5 := Lib.hid (P4.out.after b5)
  clear H4 O4 P4 b5
  go_wp2_with fail
  refine (H5.out w5 (since_of O5.out.below)).mono ?_
  rintro e w6 ⟨rfl, b6⟩
  have O6 := Lib.hid (O5.out.after b6)
  have P6 := Lib.hid (P5.out.after b6)
  clear H5 O5 P5 b6
  go_wp2_with fail
  refine (H6.out w6 (since_of O6.out.below)).mono ?_
  rintro e w7 ⟨rfl, b7⟩
  have O7 := Lib.hid (O6.out.after b7)
  have P7 := Lib.hid (P6.out.after b7)
  clear H6 O6 P6 b7
  by_cases hx : x = y
  · cases same with
    | true =>
      subst hx
      go_wp2_with fail
      refine (awake11 w7 (roots_since HD.out (since_of O7.out.below))).mono ?_
      rintro e w8 ⟨rfl, b8⟩
      go_wp2
      go_ret
      exact ⟨rfl, step_below O7.out.below b8⟩
    | false =>
      have H8 := Lib.hid (H7.out hx rfl)
      subst hx
      clear H7
      go_wp2_with (at_builtin; refine wpList_append_txsG _ (by rfl) _ _ rfl w.heap.size _ t3 t4 X Y rfl rfl w O7.out P7.out.txs (by have := HL.out; omega) ?_; intro v9 w9 o9 g9; have O9 := Lib.hid o9; clear o9 g9 O7 P7)
      refine (H8.out w9 v9 (since_of O9.out.below) O9.out.txs).mono ?_
      rintro e w10 ⟨rfl, s10⟩
      go_wp2
      go_ret
      exact ⟨rfl, s10.below⟩
  · have h : same = false := by
      cases same with
      | true => exact absurd (HXY.out rfl) hx
      | false => rfl
    subst h
    have hne := str_ne (bs_ne hx)
    go_wp2_with fail
    refine (awake11 w7 (roots_since HD.out (since_of O7.out.below))).mono ?_
    rintro e w8 ⟨rfl, b8⟩
    go_wp2
    go_ret
    exact ⟨rfl, step_below O7.out.below b8⟩
set_option maxHeartbeats 2000000 in
set_option maxRecDepth 100000 in
theorem walk (w : World) (hd : Roots w) (v : Value) (l : List KV) (hP : Prs w v l) (u : Value) (m : List KV) (hQ : Prs w u m) :
    Calls Tryd.prog 4 #[v, u] w fun e w' => e = .returned (.bool true) ∧ Below w.heap.size w w' := by
  have hf := fewC v l 10 w hP (by decide)
  by_cases hF : l.length ≤ 10 ∧ Short l
  · rw [decide_eq_true hF] at hf
    by_cases hG : m.length ≤ 10 ∧ Short m
    · refine walk2 v u w hd (rootOf l) (rootOf m) (bss (allOf l)) (bss (allOf m)) (decide (l = m)) (by rw [bss_len]; exact allOf_len l hF.1) (by rw [bss_len]; exact allOf_len m hG.1) (fun h => by rw [of_decide_eq_true h]) (Lib.hid hf) ?_ ?_ ?_ ?_ ?_ ?_ ?_
      · exact Lib.hid fun W hW => (fewC u m 10 W (hQ.below hW.below) (by decide)).mono fun e w' ⟨he, hb⟩ => ⟨by rw [he, decide_eq_true hG], since_of (step_below hW.below hb)⟩
      · exact Lib.hid fun W hW => (rRootC l v W (hP.below hW.below) (by omega)).mono fun e w' ⟨t, he, ho⟩ => ⟨t, he, OwnStrs.from hW.below ho⟩
      · exact Lib.hid fun W hW => rRootC m u W (hQ.below hW.below) (by omega)
      · exact Lib.hid fun W hW => rSame v u l m W (hP.below hW.below) (hQ.below hW.below) (by omega)
      · exact Lib.hid fun W hW => rootC l v W (hP.below hW.below) (roots_since hd hW) (by omega)
      · exact Lib.hid fun W hW => rootC m u W (hQ.below hW.below) (roots_since hd hW) (by omega)
      · refine Lib.hid fun hx hs W t hW hT => ?_
        rw [← bss_append] at hT
        have k1 := allOf_len l hF.1
        have k2 := allOf_len m hG.1
        refine (twiceC t (allOf l ++ allOf m) W hT (by rw [List.length_append]; omega) (fun x hx => ?_) (fun hA => of_decide_eq_false hs (root_apart l m (by omega) (by omega) hF.2 hG.2 hA hx))).mono fun e w' ⟨he, hb⟩ => ⟨he, since_of (step_below hW.below hb)⟩
        rcases List.mem_append.1 hx with h | h
        · exact allOf_short l hF.1 x h
        · exact allOf_short m hG.1 x h
    · have H0 := Lib.hid hf
      have H1 := Lib.hid (show ∀ W, Since w W → Calls Tryd.prog 6 #[u, .int .i64 10] W fun e w' => e = .returned (.bool false) ∧ Since w w' from fun W hW => (fewC u m 10 W (hQ.below hW.below) (by decide)).mono fun e w' ⟨he, hb⟩ => ⟨by rw [he, decide_eq_false hG], since_of (step_below hW.below hb)⟩)
      clear hf
      go_enter Tryd.func4, Tryd.ntmps4
      go_wp2_with fail
      refine H0.out.mono ?_
      rintro e w1 ⟨rfl, b1⟩
      go_wp2_with fail
      refine (H1.out w1 (since_of b1)).mono ?_
      rintro e w2 ⟨rfl, s2⟩
      go_wp2_with fail
      refine (awake11 w2 (roots_since hd s2)).mono ?_
      rintro e w7 ⟨rfl, b7⟩
      go_wp2
      go_ret
      exact ⟨rfl, step_below s2.below b7⟩
  · rw [decide_eq_false hF] at hf
    have H0 := Lib.hid hf
    clear hf
    go_enter Tryd.func4, Tryd.ntmps4
    go_wp2_with fail
    refine H0.out.mono ?_
    rintro e w1 ⟨rfl, b1⟩
    go_wp2_with fail
    refine (awake11 w1 (hd.next b1)).mono ?_
    rintro e w7 ⟨rfl, b7⟩
    go_wp2
    go_ret
    exact ⟨rfl, step_below b1 b7⟩
noncomputable def laidWorld (os : Os) : World :=
  { World.holding Tryd.prog os ⟨#[], #[], []⟩ with heap := ((World.holding Tryd.prog os ⟨#[], #[], []⟩).heap.modify 0 (fun | .cells _ t frozen => .cells #[.int .u32 1116352408, .int .u32 1899447441, .int .u32 3049323471, .int .u32 3921009573, .int .u32 961987163, .int .u32 1508970993, .int .u32 2453635748, .int .u32 2870763221, .int .u32 3624381080, .int .u32 310598401, .int .u32 607225278, .int .u32 1426881987, .int .u32 1925078388, .int .u32 2162078206, .int .u32 2614888103, .int .u32 3248222580, .int .u32 3835390401, .int .u32 4022224774, .int .u32 264347078, .int .u32 604807628, .int .u32 770255983, .int .u32 1249150122, .int .u32 1555081692, .int .u32 1996064986, .int .u32 2554220882, .int .u32 2821834349, .int .u32 2952996808, .int .u32 3210313671, .int .u32 3336571891, .int .u32 3584528711, .int .u32 113926993, .int .u32 338241895, .int .u32 666307205, .int .u32 773529912, .int .u32 1294757372, .int .u32 1396182291, .int .u32 1695183700, .int .u32 1986661051, .int .u32 2177026350, .int .u32 2456956037, .int .u32 2730485921, .int .u32 2820302411, .int .u32 3259730800, .int .u32 3345764771, .int .u32 3516065817, .int .u32 3600352804, .int .u32 4094571909, .int .u32 275423344, .int .u32 430227734, .int .u32 506948616, .int .u32 659060556, .int .u32 883997877, .int .u32 958139571, .int .u32 1322822218, .int .u32 1537002063, .int .u32 1747873779, .int .u32 1955562222, .int .u32 2024104815, .int .u32 2227730452, .int .u32 2361852424, .int .u32 2428436474, .int .u32 2756734187, .int .u32 3204031479, .int .u32 3329325298] t frozen | o => o)) }
theorem laid_met (os : Os) : laidMet Tryd.prog Rows.merkleApartRow.laid ((laidWorld os).forCall (fun _ _ => 0) ⟨#[], #[.slice none 0 0, .slice none 0 0], []⟩).memory :=
  laidMet_of_run' 8 (by kernel_rfl) (by kernel_rfl)
theorem reads (os : Os) {H : Type} (enc : TypeId × Value → H) : ∃ ds places, DataW.whole enc Tryd.prog ((laidWorld os).forCall (fun _ _ => 0) ⟨#[], #[.slice none 0 0, .slice none 0 0], []⟩).memory Tryd.f4.params.toList Rows.merkleApartSpec.vars false (#[.slice none 0 0, .slice none 0 0] : Array Value).toList 8 = some (ds, [], places) :=
  ⟨[.nil, .nil], [], by kernel_rfl⟩
set_option maxRecDepth 100000 in
theorem contract (H : Type) (enc : TypeId × Value → H) (W : World) (base : Nat) (args : Array Value) (ds gs : List (DataW H)) (before : List MemPlace)
    (hval0 : ∀ (j : Nat) t v, Tryd.f4.params[j]? = some t → args[j]? = some v → Value.okWide Tryd.prog W .any base t v)
    (hW : DataW.Whole enc Tryd.prog Tryd.f4.params.toList Rows.merkleApartSpec.vars false W args.toList ds gs before) (hL : laidMetH Tryd.prog Rows.merkleApartRow.laid W) (_hS : W.ShapedOpen Tryd.prog) :
    Calls Tryd.prog 4 args W fun e W' => ∃ v, e = .returned v ∧ Rows.merkleApartSpec.post enc Tryd.prog Tryd.f4 false true false false W args v W' := by
  have hval : ∀ (j : Nat) t v, Tryd.f4.params[j]? = some t → args[j]? = some v → Value.okWide Tryd.prog W .any base t v := hval0
  have hW' := hW
  obtain ⟨p, q, hA0, hV, rfl, hfz, hnd⟩ := hW
  have hA : DataW.TrodAll enc Tryd.prog W 0 (fun _ => true) true Tryd.f4.params.toList args.toList ds p := hA0
  rw [Tryd.params4] at hA hval
  have hK := hA
  obtain ⟨v0, vs0, d0, ds0, p0, q0, hargs, rfl, rfl, h0, r0⟩ := trodAll_cons hA
  obtain ⟨v1, vs1, d1, ds1, p1, q1, rfl, rfl, rfl, h1, r1⟩ := trodAll_cons r0
  obtain ⟨rfl, rfl, rfl⟩ := trodAll_nil r1
  obtain rfl : args = #[v0, v1] := by cases args; simp_all
  obtain ⟨rfl, rfl⟩ := trodVars_none hV
  obtain ⟨A0, len0, cap0, rfl⟩ := okWide_slice Tryd.underlying22 (hval 0 22 v0 rfl rfl)
  obtain ⟨a0, w0, l0⟩ := open_prs h0
  obtain ⟨A1, len1, cap1, rfl⟩ := okWide_slice Tryd.underlying22 (hval 1 22 v1 rfl rfl)
  obtain ⟨a1, w1, l1⟩ := open_prs h1
  clear hA0 hval0
  refine (walk W (roots_of hL) _ a0 w0 _ a1 w1).mono fun e W' ⟨he, bel⟩ => ?_
  subst he
  exact ⟨_, rfl, _, _, _, [], _, [], hW', trodAll_mk1 (shut_bool Tryd.underlying4 _), trodAll_under laidOut bel _ _ _ _ (by kernel_rfl) hK, rfl, bel.frame _, fun h => by cases h⟩
set_option maxRecDepth 100000 in
theorem lifted (os : Os) (started : os.Started) (H : Type) (enc : TypeId × Value → H) (F : Stop.Interp) :
    ReturnsInHanded {} Tryd.checked os 4 .any ((OpenSpec.ofChange Rows.merkleApartSpec).preRow enc Tryd.prog Tryd.f4 Rows.merkleApartRow.domain false Rows.merkleApartRow.laid) (((OpenSpec.ofChange Rows.merkleApartSpec).at F).post enc Tryd.prog Tryd.f4 false true false false) := by
  obtain ⟨ds, places, hx⟩ := reads os enc
  refine returnsInHanded_of_row (C := Tryd.checked) (s := OpenSpec.ofChange Rows.merkleApartSpec) own started (by kernel_rfl) Tryd.func4
    (witness_row_at (enc := enc) (C := Tryd.checked) false (laidWorld os) #[.slice none 0 0, .slice none 0 0] rfl (by kernel_rfl) (by kernel_rfl) (by kernel_rfl)
      (OpenSpec.preRow_of_cond 8 hx (by kernel_rfl) (fun k hk => by cases hk) (by kernel_rfl) (laid_met os))) ?_
  intro W base args ds gs before hval hW _ _ _ hL hS _
  exact contract H enc W base args ds gs before hval hW hL hS
theorem said : Rows.MerkleApartSaid :=
  OpenClaim.holds_of_cond 4 Tryd.f4 rfl rfl rfl rfl rfl rfl rfl ⟨rfl, rfl, rfl, rfl, rfl⟩ rfl rfl rfl rfl rfl (by kernel_rfl) Tryd.func4 (by kernel_rfl)
    (of_decide_eq_true (by kernel_rfl)) (by unfold Func.isWrapper; first | (rw [if_pos (by decide +kernel)]; kernel_rfl) | (rw [if_neg (by decide +kernel)]; exact ⟨rfl, rfl⟩))
    (fun os started H enc _ F => by rw [OpenClaim.pre_eq_preRow]; exact lifted os started H enc F)
theorem plain (f : FuncId) (fn : Func) (hf : Tryd.pinned.checked.prog.funcNamed "footbridge/footbridgelaw11.MerkleApart" = some f) (hfn : Tryd.pinned.checked.prog.funcs[f]? = some fn) :
    false = Tryd.pinned.checked.prog.looks [] ∧ ∀ (j : Nat) t, fn.params[j]? = some t → Tryd.pinned.checked.prog.wantsStandIn t = false := by
  obtain rfl : f = 4 := Option.some.inj ((show Tryd.prog.funcNamed "footbridge/footbridgelaw11.MerkleApart" = some 4 by kernel_rfl).symm.trans hf) |>.symm
  obtain rfl : fn = Tryd.f4 := (Option.some.inj (Tryd.func4.symm.trans hfn)).symm
  refine ⟨by kernel_rfl, fun j t ht => ?_⟩
  rw [Tryd.params4] at ht
  have hd : t = 22 := by simpa using Array.mem_of_getElem? ht
  rcases hd with rfl
  · exact (show Tryd.prog.wantsStandIn 22 = false by kernel_rfl)
theorem merkleApart_holds : Rows.MerkleApartCardSaid :=
  Claim7.holds_tied_plain_at .later [] _ _ _ _ said (fun _ h => by cases h) (by kernel_rfl) (fun _ h => by cases h) merkleApart_row_tie rfl ⟨rfl, rfl⟩ (by kernel_rfl) rfl plain (by kernel_rfl)
#print axioms merkleApart_holds
end Go.Proofs.YtbfpepiglcikbaaDoor.merkleApart
