/-
  footbridgelaw12.ProofSound returns true for any list of pairs, any pair and any proof, and changes nothing: what a proof that Has or Lacks takes says of the root of pairs that rise is so, or two unlike texts that were hashed have one hash. Condition: the table sha.roots starts as the program's text lays it (tied by the card).
-/
import Derived.Test.YtkinnlfjcmhcoaaDoorCards
import Derived.Test.YtkinnlfjcmhcoaaDoorTie
import Derived.Deep.DeepHandedRow
import Derived.Test.YtkinnlfjcmhcoaaDoorYXSound
import Derived.Test.YtkinnlfjcmhcoaaDoorZ0e
import Derived.Test.YtkinnlfjcmhcoaaDoorYXRLacks
import Derived.Test.YtkinnlfjcmhcoaaDoorZ2a
import Derived.Test.YtkinnlfjcmhcoaaDoorZXRead
import Derived.Test.YtkinnlfjcmhcoaaDoorYXPair
import Derived.Test.YtkinnlfjcmhcoaaDoorZ0f
import Derived.Test.YtkinnlfjcmhcoaaDoorYXTells
import Derived.Test.YtkinnlfjcmhcoaaDoorYKTwice
namespace Go.Proofs.YtkinnlfjcmhcoaaDoor.proofSound
open Go.ChangeShapes Go.WideShapes Go.ChangeAt Go.RowKit
open Go.ChangeMaps (open_string shut_string)
open W

theorem texts_short : ∀ (n : Nat) (l : List KV), l.length = n → n < 2 ^ 64 → ∀ x ∈ texts l, x.length ≤ 131089 := by
  intro n
  induction n using Nat.strongRecOn with
  | _ n ih =>
    intro l hl h64 x hx
    by_cases h2 : 2 ≤ n
    · obtain ⟨s1, s2, s3⟩ := spl_pos h2 h64
      rw [texts_two l (by omega) (by omega), hl] at hx
      simp only [List.mem_append, List.mem_singleton] at hx
      have e1 : (l.take (spl n)).length = spl n := by rw [List.length_take]; omega
      have e2 : (l.drop (spl n)).length = n - spl n := by rw [List.length_drop, hl]
      rcases hx with (hx | hx) | rfl
      · exact ih _ s2 _ e1 (by omega) x hx
      · exact ih _ (by omega) _ e2 (by omega) x hx
      · have l1 := tree_le (l.take (spl n)) (by omega)
        have l2 := tree_le (l.drop (spl n)) (by omega)
        rw [nodeOf_len]
        omega
    · match l with
      | [] => rw [texts_nil] at hx; cases hx
      | [p] => rw [texts_one, List.mem_singleton] at hx; rw [hx]; exact leafOf_len p
      | p :: q :: r => simp at hl; omega
theorem all_bounded (l : List KV) (h : l.length ≤ 10) : Bounded 21 (allOf l) := by
  refine ⟨?_, fun x hx => ?_⟩
  · have := texts_len l (by omega)
    unfold allOf
    rw [List.length_append, List.length_singleton]
    omega
  · unfold allOf at hx
    rw [List.mem_append, List.mem_singleton] at hx
    rcases hx with hx | rfl
    · have := texts_short _ l rfl (by omega) x hx
      omega
    · have h1 := topOf_len l.length (tree l)
      have h2 := tree_le l (by omega)
      omega
theorem slim_paths {x : Pf} (hs : Slim x) : ∀ q ∈ x.paths, q.length ≤ 60 ∧ ∀ y ∈ q, y.length ≤ 1000 := fun q hq => ⟨(hs.2.2 q hq).1, fun y hy => by have := (hs.2.2 q hq).2 y hy; omega⟩
theorem has_bound {p : KV} {x : Pf} (hs : Slim x) : Bounded 1000 (hasTexts p x) := by
  have hq := slim_paths hs
  unfold hasTexts
  split
  · rename_i q he
    have h1 := hq q (by rw [he]; simp)
    have := reach_bound p q h1.2 x.pos x.n
    exact ⟨by have := this.1; omega, this.2⟩
  · exact Bounded.nil _
theorem lacks_bound {x : Pf} (hs : Slim x) : Bounded 1000 (lacksTexts x) := by
  have hq := slim_paths hs
  unfold lacksTexts
  split
  · have := Bounded.one (y := topOf 0 []) (by have := topOf_len 0 []; simp at this; omega)
    exact ⟨by have := this.1; omega, this.2⟩
  · have h1 := near_bound 60 x.n x.near x.paths (loI x) hq
    have h2 : x.near.length * (60 + 2) ≤ 4 * (60 + 2) := Nat.mul_le_mul_right _ hs.1.1
    exact ⟨by have := h1.1; omega, h1.2⟩
theorem twice_of {W : World} {t : Value} {L M : List (List UInt8)} (hT : Txs W W.heap.size t (bss L ++ bss M)) (hL : Bounded 21 L) (hM : Bounded 1000 M) (hA : ¬ Apart (L ++ M)) :
    Calls Tryd.prog 26 #[t] W fun e w' => e = .returned (.bool true) ∧ Since W w' := by
  rw [← bss_append] at hT
  have h := hL.append hM
  exact (twiceC t (L ++ M) W hT (by have := h.1; omega) h.2 hA).mono fun e w' ⟨he, hb⟩ => ⟨he, since_of hb⟩
theorem walk (w : World) (hd : Roots w) (v : Value) (l : List KV) (hPl : Prs w v l) (p : KV) (xv : Value) (x : Pf) (hP : Prf w xv x) (hI : PfIn x) :
    Calls Tryd.prog 7 #[v, .agg #[.string p.1, .string p.2], xv] w fun e w' => e = .returned (.bool true) ∧ Below w.heap.size w w' := by
  have hA : Hid (∀ W, Since w W → Calls Tryd.prog 9 #[] W fun e w' => e = .returned (.bool true) ∧ Since W w') := Lib.hid fun W hW => awake12 W (roots_since hd hW) readC
  have hS : Hid (∀ W, Since w W → Calls Tryd.prog 13 #[xv] W fun e w' => e = .returned (.bool (decide (Slim x))) ∧ Since W w') := Lib.hid fun W hW => smallC xv x W (hP.below hW.below) hI.ln hI.lp
  have hF : Hid (∀ W, Since w W → Calls Tryd.prog 8 #[v, .int .i64 10] W fun e w' => e = .returned (.bool (decide (l.length ≤ 10 ∧ Brief l))) ∧ Since W w') := Lib.hid fun W hW => (few12C v l 10 W (hPl.below hW.below) (by decide)).mono fun e w' ⟨he, hb⟩ => ⟨he, since_of hb⟩
  obtain ⟨nv, pv, e, ⟨B1, e1, r1, q1, q2⟩, ⟨B2, e2, r2, q3, q4⟩⟩ := hP
  have hP : Prf w xv x := ⟨nv, pv, e, ⟨B1, e1, r1, q1, q2⟩, ⟨B2, e2, r2, q3, q4⟩⟩
  clear q1 q2 q3 q4
  subst r1 r2 e
  by_cases hl : l.length ≤ 1000000000
  · have hR : Hid (∀ W, Since w W → Calls Tryd.prog 22 #[v] W fun e w' => e = .returned (.bool (decide (Up l))) ∧ Since W w') := Lib.hid fun W hW => risesC v l W (hPl.below hW.below) hl
    by_cases hT : (l.length ≤ 10 ∧ Brief l) ∧ Up l ∧ Slim x ∧ p.1.size ≤ 200 ∧ p.2.size ≤ 200
    · obtain ⟨hf, hu, hs, h1, h2⟩ := hT
      have hq : ∀ q ∈ x.paths, q.length ≤ 1000000 ∧ ∀ y ∈ q, y.length ≤ 1000 := fun q hq => ⟨by have := (slim_paths hs q hq).1; omega, (slim_paths hs q hq).2⟩
      have hsl : Short l := prs_sizes hf.2
      have ba := all_bounded l hf.1
      have bh := has_bound (p := p) hs
      have bl := lacks_bound hs
      obtain ⟨val, ok, hg, hg2⟩ : ∃ (val : ByteArray) (ok : Bool), retGet (lget l p.1) = .tuple #[.string val, .bool ok] ∧ (ok = true → lget l p.1 = some val) := by
        cases h : lget l p.1 with
        | some y => exact ⟨y, true, rfl, fun _ => rfl⟩
        | none => exact ⟨⟨#[]⟩, false, rfl, fun e => by cases e⟩
      have hg3 : ok = false → lget l p.1 = none := by
        intro e
        subst e
        cases h : lget l p.1 with
        | some y => rw [h] at hg; simp [retGet] at hg
        | none => rfl
      refine (sound_this v p.1 p.2 x.n x.pos x.there B1 x.near.length e1 B2 x.paths.length e2 w _ _ _ (hasP (rootOf l) p x) (lacksP (rootOf l) p.1 x) ok val (rootOf l) (allOf l) (hasTexts p x) (lacksTexts x) (decide_eq_true hf) (decide_eq_true hu) (decide_eq_true hs) h1 h2
        (fun _ => by rw [bss_len, bss_len]; have := ba.1; have := bh.1; omega) (by rw [bss_len, bss_len]; have := ba.1; have := bl.1; omega) hF hR hS ?_ ?_ ?_ ?_ ?_ ?_ ?_ ?_ hA).mono fun e w' ⟨he, hb⟩ => ⟨he, hb.below⟩
      · exact Lib.hid fun W hW => (rRootC l v W (hPl.below hW.below) (by omega)).mono fun e w' ⟨u, he, ho⟩ => by
          obtain ⟨A, c, rfl⟩ := own_sl ho
          exact ⟨A, _, c, he, ho⟩
      · exact Lib.hid fun W hW => (rGet v l p.1 W (hPl.below hW.below) hu (by omega)).mono fun e w' ⟨he, hs⟩ => ⟨by rw [he, hg], by rw [hs]; exact Since.refl W⟩
      · exact Lib.hid fun W hW => hasC (rootOf l) p x _ W (hP.below hW.below) (roots_since hd hW) hI.n1 hq
      · exact Lib.hid fun hh W hW => (rHasC (rootOf l) p x _ W (hP.below hW.below) hI.n1 hq).mono fun e w' ⟨u, M, he, ho, hm⟩ => by
          obtain rfl := hm hh
          obtain ⟨A, c, rfl⟩ := own_sl ho
          exact ⟨A, _, c, by rw [he, hh], ho⟩
      · exact Lib.hid fun W hW => lacksC (rootOf l) p.1 x _ W (hP.below hW.below) (roots_since hd hW) hI.n1 hq
      · exact Lib.hid fun hh W hW => (rLacksC (rootOf l) p.1 x _ W (hP.below hW.below) hI (fun _ _ => hq)).mono fun e w' ⟨u, M, he, ho, hm⟩ => by
          obtain rfl := hm hh
          obtain ⟨A, c, rfl⟩ := own_sl ho
          exact ⟨A, _, c, by rw [he, hh], ho⟩
      · refine Lib.hid fun hh hb W t _ hT => twice_of hT ba bh fun hAp => ?_
        have := has_is _ hAp hu (by omega) hsl ⟨h1, h2⟩ (fun y hy => List.mem_append_left _ hy) (fun y hy => List.mem_append_right _ hy) hh
        rcases hb with hb | hb
        · rw [hg3 hb] at this; cases this
        · cases ok with
          | false => rw [hg3 rfl] at this; cases this
          | true => rw [hg2 rfl] at this; injection this with this; exact hb this
      · refine Lib.hid fun hh hb W t _ hT => twice_of hT ba bl fun hAp => ?_
        have := lacks_is _ hAp hu (by omega) hsl hs.2.1 (fun y hy => List.mem_append_left _ hy) (fun y hy => List.mem_append_right _ hy) hh
        rw [hg2 hb] at this
        cases this
    · refine (sound_no v p.1 p.2 x.n x.pos x.there B1 x.near.length e1 B2 x.paths.length e2 w _ _ _ ?_ hF hR hS hA).mono fun e w' ⟨he, hb⟩ => ⟨he, hb.below⟩
      exact fun h => hT ⟨of_decide_eq_true h.1, of_decide_eq_true h.2.1, of_decide_eq_true h.2.2.1, h.2.2.2⟩
  · have hfF : decide (l.length ≤ 10 ∧ Brief l) = false := decide_eq_false fun h => by omega
    rw [hfF] at hF
    exact (sound_few v p.1 p.2 x.n x.pos x.there B1 x.near.length e1 B2 x.paths.length e2 w hF hA).mono fun e w' ⟨he, hb⟩ => ⟨he, hb.below⟩
noncomputable def laidWorld (os : Os) : World :=
  { World.holding Tryd.prog os ⟨#[], #[], []⟩ with heap := ((World.holding Tryd.prog os ⟨#[], #[], []⟩).heap.modify 0 (fun | .cells _ t frozen => .cells #[.int .u32 1116352408, .int .u32 1899447441, .int .u32 3049323471, .int .u32 3921009573, .int .u32 961987163, .int .u32 1508970993, .int .u32 2453635748, .int .u32 2870763221, .int .u32 3624381080, .int .u32 310598401, .int .u32 607225278, .int .u32 1426881987, .int .u32 1925078388, .int .u32 2162078206, .int .u32 2614888103, .int .u32 3248222580, .int .u32 3835390401, .int .u32 4022224774, .int .u32 264347078, .int .u32 604807628, .int .u32 770255983, .int .u32 1249150122, .int .u32 1555081692, .int .u32 1996064986, .int .u32 2554220882, .int .u32 2821834349, .int .u32 2952996808, .int .u32 3210313671, .int .u32 3336571891, .int .u32 3584528711, .int .u32 113926993, .int .u32 338241895, .int .u32 666307205, .int .u32 773529912, .int .u32 1294757372, .int .u32 1396182291, .int .u32 1695183700, .int .u32 1986661051, .int .u32 2177026350, .int .u32 2456956037, .int .u32 2730485921, .int .u32 2820302411, .int .u32 3259730800, .int .u32 3345764771, .int .u32 3516065817, .int .u32 3600352804, .int .u32 4094571909, .int .u32 275423344, .int .u32 430227734, .int .u32 506948616, .int .u32 659060556, .int .u32 883997877, .int .u32 958139571, .int .u32 1322822218, .int .u32 1537002063, .int .u32 1747873779, .int .u32 1955562222, .int .u32 2024104815, .int .u32 2227730452, .int .u32 2361852424, .int .u32 2428436474, .int .u32 2756734187, .int .u32 3204031479, .int .u32 3329325298] t frozen | o => o)) }
theorem laid_met (os : Os) : laidMet Tryd.prog Rows.proofSoundRow.laid ((laidWorld os).forCall (fun _ _ => 0) ⟨#[], #[.slice none 0 0, .agg #[.string ByteArray.empty, .string ByteArray.empty], .agg #[.int .i64 0, .int .i64 0, .bool false, .slice none 0 0, .slice none 0 0]], []⟩).memory :=
  laidMet_of_run' 8 (by kernel_rfl) (by kernel_rfl)
theorem reads (os : Os) {H : Type} (enc : TypeId × Value → H) : ∃ ds places, DataW.whole enc Tryd.prog ((laidWorld os).forCall (fun _ _ => 0) ⟨#[], #[.slice none 0 0, .agg #[.string ByteArray.empty, .string ByteArray.empty], .agg #[.int .i64 0, .int .i64 0, .bool false, .slice none 0 0, .slice none 0 0]], []⟩).memory Tryd.f7.params.toList Rows.proofSoundSpec.vars false (#[.slice none 0 0, .agg #[.string ByteArray.empty, .string ByteArray.empty], .agg #[.int .i64 0, .int .i64 0, .bool false, .slice none 0 0, .slice none 0 0]] : Array Value).toList 8 = some (ds, [], places) :=
  ⟨[.nil, .agg [.lit (.string []), .lit (.string [])], .agg [.lit (.int .i64 0), .lit (.int .i64 0), .lit (.bool false), .nil, .nil]], [], by kernel_rfl⟩
set_option maxRecDepth 100000 in
theorem contract (H : Type) (enc : TypeId × Value → H) (W : World) (base : Nat) (args : Array Value) (ds gs : List (DataW H)) (before : List MemPlace)
    (hval0 : ∀ (j : Nat) t v, Tryd.f7.params[j]? = some t → args[j]? = some v → Value.okWide Tryd.prog W .any base t v)
    (hW : DataW.Whole enc Tryd.prog Tryd.f7.params.toList Rows.proofSoundSpec.vars false W args.toList ds gs before) (hL : laidMetH Tryd.prog Rows.proofSoundRow.laid W) (_hS : W.ShapedOpen Tryd.prog) :
    Calls Tryd.prog 7 args W fun e W' => ∃ v, e = .returned v ∧ Rows.proofSoundSpec.post enc Tryd.prog Tryd.f7 false true false false W args v W' := by
  have hval : ∀ (j : Nat) t v, Tryd.f7.params[j]? = some t → args[j]? = some v → Value.okWide Tryd.prog W .any base t v := hval0
  have hW' := hW
  obtain ⟨p, q, hA0, hV, rfl, hfz, hnd⟩ := hW
  have hA : DataW.TrodAll enc Tryd.prog W 0 (fun _ => true) true Tryd.f7.params.toList args.toList ds p := hA0
  rw [Tryd.params7] at hA hval
  have hK := hA
  obtain ⟨v0, vs0, d0, ds0, p0, q0, hargs, rfl, rfl, h0, r0⟩ := trodAll_cons hA
  obtain ⟨v1, vs1, d1, ds1, p1, q1, rfl, rfl, rfl, h1, r1⟩ := trodAll_cons r0
  obtain ⟨v2, vs2, d2, ds2, p2, q2, rfl, rfl, rfl, h2, r2⟩ := trodAll_cons r1
  obtain ⟨rfl, rfl, rfl⟩ := trodAll_nil r2
  obtain rfl : args = #[v0, v1, v2] := by cases args; simp_all
  obtain ⟨rfl, rfl⟩ := trodVars_none hV
  obtain ⟨A0, len0, cap0, rfl⟩ := okWide_slice Tryd.underlying22 (hval 0 22 v0 rfl rfl)
  obtain ⟨a0, w0, l0⟩ := open_prs h0
  obtain ⟨a1, rfl⟩ := open_pair (hval 1 32 v1 rfl rfl) h1
  obtain ⟨a2, w2, b2⟩ := open_prf (hval 2 28 v2 rfl rfl) h2
  clear hA0 hval0
  refine (walk W (roots_of hL) _ a0 w0 a1 _ a2 w2 b2).mono fun e W' ⟨he, bel⟩ => ?_
  subst he
  exact ⟨_, rfl, _, _, _, [], _, [], hW', trodAll_mk1 (shut_bool Tryd.underlying4 _), trodAll_under laidOut bel _ _ _ _ (by kernel_rfl) hK, rfl, bel.frame _, fun h => by cases h⟩
set_option maxRecDepth 100000 in
theorem lifted (os : Os) (started : os.Started) (H : Type) (enc : TypeId × Value → H) (F : Stop.Interp) :
    ReturnsInHanded {} Tryd.checked os 7 .any ((OpenSpec.ofChange Rows.proofSoundSpec).preRow enc Tryd.prog Tryd.f7 Rows.proofSoundRow.domain false Rows.proofSoundRow.laid) (((OpenSpec.ofChange Rows.proofSoundSpec).at F).post enc Tryd.prog Tryd.f7 false true false false) := by
  obtain ⟨ds, places, hx⟩ := reads os enc
  refine returnsInHanded_of_row (C := Tryd.checked) (s := OpenSpec.ofChange Rows.proofSoundSpec) own started (by kernel_rfl) Tryd.func7
    (witness_row_at (enc := enc) (C := Tryd.checked) false (laidWorld os) #[.slice none 0 0, .agg #[.string ByteArray.empty, .string ByteArray.empty], .agg #[.int .i64 0, .int .i64 0, .bool false, .slice none 0 0, .slice none 0 0]] rfl (by kernel_rfl) (by kernel_rfl) (by kernel_rfl)
      (OpenSpec.preRow_of_cond 8 hx (by kernel_rfl) (fun k hk => by cases hk) (by kernel_rfl) (laid_met os))) ?_
  intro W base args ds gs before hval hW _ _ _ hL hS _
  exact contract H enc W base args ds gs before hval hW hL hS
theorem said : Rows.ProofSoundSaid :=
  OpenClaim.holds_of_cond 7 Tryd.f7 rfl rfl rfl rfl rfl rfl rfl ⟨rfl, rfl, rfl, rfl, rfl⟩ rfl rfl rfl rfl rfl (by kernel_rfl) Tryd.func7 (by kernel_rfl)
    (of_decide_eq_true (by kernel_rfl)) (by unfold Func.isWrapper; first | (rw [if_pos (by decide +kernel)]; kernel_rfl) | (rw [if_neg (by decide +kernel)]; exact ⟨rfl, rfl⟩))
    (fun os started H enc _ F => by rw [OpenClaim.pre_eq_preRow]; exact lifted os started H enc F)
theorem plain (f : FuncId) (fn : Func) (hf : Tryd.pinned.checked.prog.funcNamed "footbridge/footbridgelaw12.ProofSound" = some f) (hfn : Tryd.pinned.checked.prog.funcs[f]? = some fn) :
    false = Tryd.pinned.checked.prog.looks [] ∧ ∀ (j : Nat) t, fn.params[j]? = some t → Tryd.pinned.checked.prog.wantsStandIn t = false := by
  obtain rfl : f = 7 := Option.some.inj ((show Tryd.prog.funcNamed "footbridge/footbridgelaw12.ProofSound" = some 7 by kernel_rfl).symm.trans hf) |>.symm
  obtain rfl : fn = Tryd.f7 := (Option.some.inj (Tryd.func7.symm.trans hfn)).symm
  refine ⟨by kernel_rfl, fun j t ht => ?_⟩
  rw [Tryd.params7] at ht
  have hd : t = 22 ∨ t = 32 ∨ t = 28 := by simpa using Array.mem_of_getElem? ht
  rcases hd with rfl | rfl | rfl
  · exact (show Tryd.prog.wantsStandIn 22 = false by kernel_rfl)
  · exact (show Tryd.prog.wantsStandIn 32 = false by kernel_rfl)
  · exact (show Tryd.prog.wantsStandIn 28 = false by kernel_rfl)
theorem proofSound_holds : Rows.ProofSoundCardSaid :=
  Claim7.holds_tied_plain_at .later [] _ _ _ _ said (fun _ h => by cases h) (by kernel_rfl) (fun _ h => by cases h) proofSound_row_tie rfl ⟨rfl, rfl⟩ (by kernel_rfl) rfl plain (by kernel_rfl)
#print axioms proofSound_holds
end Go.Proofs.YtkinnlfjcmhcoaaDoor.proofSound
