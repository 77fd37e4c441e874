/-
  proof.Build of a key that is not there: the neighbours and their paths.
-/
import Derived.Deep.RegionHeld3
import Derived.Test.YtkinnlfjcmhcoaaDoorZ0f
namespace Go.Proofs.YtkinnlfjcmhcoaaDoor.W
open Go.RowKit

/-- a row of the call's own, where nothing that lay there has turned -/
theorem own_kept {w w' : World} {B k n : Nat} {e : TypeId} {v : Value} {xs : List Value} (h : w.ownsRow B e k v n xs) (hb : Below w.heap.size w w') : w'.ownsRow B e k v n xs :=
  h.kept (row := none) ⟨hb.os, hb.tape, hb.output, hb.size, fun i hi _ => hb.block i hi⟩ (by cases hv : v.ownBlock <;> simp)
theorem own_form {w : World} {B k n : Nat} {e : TypeId} {v : Value} {xs : List Value} (h : w.ownsRow B e k v n xs) : ∃ A cap, v = .slice A n cap ∧ n ≤ cap := by
  rcases h.2 with ⟨rfl, rfl⟩ | ⟨g, cap, cur, rfl, _, _, hc, _⟩
  · exact ⟨none, 0, rfl, Nat.le_refl _⟩
  · exact ⟨_, _, rfl, hc⟩
/-- one list more, out of a call -/
theorem pths_step {B gg cap n : Nat} {v u : Value} {L : List (List (List UInt8))} {q : List (List UInt8)} {us : List Value} {wr w5 w9 : World} (hn : L.length = n) (h0 : us.length = L.length) (hrow : wr.ownsRow B 34 1 v n us)
    (h3 : ∀ (i : Nat) u q, us[i]? = some u → L[i]? = some q → Txs wr wr.heap.size u (bss q) ∧ Roomy u ∧ ∀ g, u.ownBlock = some g → B ≤ g ∧ g < wr.heap.size ∧ some g ≠ v.ownBlock) (hB : B ≤ wr.heap.size)
    (o5 : OwnStrs wr.drew.heap.size u (bss q) wr.drew w5) (hroom : Roomy u) (hown9 : w9.ownsRow B 34 1 (.slice (some ⟨gg, 0, none⟩) (n + 1) cap) (n + 1) (us ++ [u])) (hgrow9 : (w5.alloc (.cells #[u] 34)).grownBy w9 v.ownBlock) (hat9 : v.ownBlock = some gg ∨ gg = w5.heap.size + 1) :
    OwnPths B (.slice (some ⟨gg, 0, none⟩) (n + 1) cap) (L ++ [q]) w9 ∧ Below B wr w9 := by
  subst hn
  have hb5 : Below wr.heap.size wr w5 := step_below (quiet_below wr 1) o5.below
  have hlt : ∀ g, v.ownBlock = some g → B ≤ g ∧ g < wr.heap.size := hrow.lt
  have b6 : Below wr.heap.size wr (w5.alloc (.cells #[u] 34)) := hb5.alloc hb5.size _
  have k6 : OwnPths B v L (w5.alloc (.cells #[u] 34)) := OwnPths.after ⟨us, h0, hrow, hB, h3⟩ b6
  have s6 : (w5.alloc (.cells #[u] 34)).heap.size = w5.heap.size + 1 := by simp
  have hsz := hb5.size
  have hbel : Below B wr w9 := (b6.mono hB).grown hgrow9 (by omega) (fun g hg => (hlt g hg).1)
  refine ⟨?_, hbel⟩
  have h3' : ∀ (i : Nat) u' q', us[i]? = some u' → L[i]? = some q' → Txs (w5.alloc (.cells #[u] 34)) (w5.alloc (.cells #[u] 34)).heap.size u' (bss q') ∧ Roomy u' ∧ ∀ g, u'.ownBlock = some g → B ≤ g ∧ g < (w5.alloc (.cells #[u] 34)).heap.size ∧ some g ≠ v.ownBlock := by
    intro i u' q' h1 h2
    obtain ⟨j1, j2, j3⟩ := h3 i u' q' h1 h2
    exact ⟨(j1.below b6).more b6.size, j2, fun g hg => ⟨(j3 g hg).1, Nat.lt_of_lt_of_le (j3 g hg).2.1 b6.size, (j3 g hg).2.2⟩⟩
  have hlt5 := o5.1.lt
  refine OwnPths.more (w := w5.alloc (.cells #[u] 34)) (v := v) (u := u) h0 h3' ?_ hroom (fun g hg => ?_) hown9 (by have := hbel.size; omega) hgrow9 ?_
  · exact (o5.txs.below ((Below.refl _ w5).alloc (Nat.le_refl _) _)).more (by omega)
  · have h5 := hlt5 g hg
    have h6 : wr.heap.size ≤ g := h5.1
    refine ⟨by omega, by omega, fun e => ?_⟩
    have := hlt g e.symm
    omega
  · rcases hat9 with h | h
    · exact .inl (by rw [h]; rfl)
    · exact .inr ⟨gg, rfl, by omega⟩
/-- what the loop of Build keeps: b: x's block; W7: the world when it begins -/
structure LoopAt (w W7 : World) (b B n N lo : Nat) (nv : Value) (l : List KV) (k : Nat) (pv : Value) (wr : World) : Prop where
  bx : Blk wr b 28 #[.int .i64 n, .int .i64 N, .bool false, nv, pv]
  own : OwnPths B pv (pathsOf l lo k) wr
  keep : ∀ g, g < B → g ≠ b → wr.heap[g]? = W7.heap[g]?
  s : Since w wr
  lt : b < B
  ge : w.heap.size ≤ b
  size : B ≤ wr.heap.size
def BRel (w W7 : World) (b B n N lo : Nat) (nv : Value) (l : List KV) (m : Nat) (i : Value) (wr : World) : Prop := ∃ (k : Nat) (pv : Value), k ≤ m ∧ i = .int .i64 ((lo + k : Nat) : Int) ∧ LoopAt w W7 b B n N lo nv l k pv wr
theorem LoopAt.next {w W7 : World} {b B n N lo : Nat} {nv : Value} {l : List KV} {k gg cap : Nat} {pv : Value} {wr w9 : World} (h : LoopAt w W7 b B n N lo nv l k pv wr)
    (h9 : OwnPths B (.slice (some ⟨gg, 0, none⟩) (k + 1) cap) (pathsOf l lo k ++ [pth l (lo + k)]) w9) (hb : Below B wr w9) :
    LoopAt w W7 b B n N lo nv l (k + 1) (.slice (some ⟨gg, 0, none⟩) (k + 1) cap) (w9.setCell ⟨b, 4, none⟩ (.slice (some ⟨gg, 0, none⟩) (k + 1) cap)) := by
  have hge := h.ge
  have hlt := h.lt
  refine ⟨(h.bx.below hb h.lt).set_ 4 _, ?_, fun g h1 h2 => ?_, since_put (since_of (h.s.below.trans (hb.mono (by omega)))) (by simp only; omega) _, h.lt, h.ge, by have := hb.size; have := h.size; simp [World.setCell]; omega⟩
  · rw [pathsOf_succ]
    exact h9.set_ _ h.lt _
  · exact (Below.heap_setCell w9 ⟨b, 4, none⟩ _ g h2).trans ((hb.block g h1).trans (h.keep g h1 h2))
/-- where the loop of Build begins -/
theorem outStart {w w3 w6 : World} {b N n : Nat} {u : Value} {LV : List ByteArray} {near : List KV} {A2 : Option Addr} {c2 : Nat} {B3 : Nat}
    (hr : Blk w3 (w.heap.size + 1 + 1) 28 #[.int .i64 0, .int .i64 0, .bool false, .slice none 0 0, .slice none 0 0]) (hs : Since w w3) (hx : Blk w3 b 28 #[.int .i64 n, .int .i64 N, .bool false, .slice none 0 0, .slice none 0 0])
    (hT : Txs w3 w3.heap.size u LV) (hT2 : ∀ g, u.ownBlock = some g → B3 ≤ g) (hB3 : b < B3) (hR : Roomy u) (hlow : w.heap.size + 1 + 1 < b)
    (hp : Prs w6 (.slice A2 near.length c2) near) (hb : Below w3.drew.heap.size w3.drew w6) (hg : near ≠ [] → ∃ g, A2 = some ⟨g, 0, none⟩ ∧ w3.drew.heap.size ≤ g ∧ g < w6.heap.size) (hlt3 : ∀ g, u.ownBlock = some g → g < w3.heap.size) (lo : Nat) (l : List KV) :
    Hid (LoopAt w (w6.setCell ⟨b, 3, none⟩ (.slice A2 near.length c2)) b w6.heap.size n N lo (.slice A2 near.length c2) l 0 (.slice none 0 0) (w6.setCell ⟨b, 3, none⟩ (.slice A2 near.length c2))) ∧
    Hid (∀ W, (∀ g, g < w6.heap.size → g ≠ b → W.heap[g]? = (w6.setCell ⟨b, 3, none⟩ (.slice A2 near.length c2)).heap[g]?) → w6.heap.size ≤ W.heap.size → Txs W W.heap.size u LV ∧ Roomy u) ∧
    Hid (∀ W, (∀ g, g < w6.heap.size → g ≠ b → g ≠ w.heap.size + 1 + 1 → W.heap[g]? = (w6.setCell ⟨b, 3, none⟩ (.slice A2 near.length c2)).heap[g]?) → Prs W (.slice A2 near.length c2) near) ∧
    Hid (Blk (w6.setCell ⟨b, 3, none⟩ (.slice A2 near.length c2)) (w.heap.size + 1 + 1) 28 #[.int .i64 0, .int .i64 0, .bool false, .slice none 0 0, .slice none 0 0]) := by
  have hb' : Below w3.heap.size w3 w6 := step_below (quiet_below w3 1) hb
  have hsz := hb'.size
  have hxl := hx.lt
  have hset : ∀ g, g ≠ b → (w6.setCell ⟨b, 3, none⟩ (.slice A2 near.length c2)).heap[g]? = w6.heap[g]? := fun g hne => Below.heap_setCell w6 ⟨b, 3, none⟩ _ g hne
  refine ⟨Lib.hid ⟨(hx.below hb' hxl).set_ 3 _, OwnPths.nil (by simp [World.setCell]), fun g _ _ => rfl, since_put (since_of (step_below hs.below hb')) (by simp only; omega) _, by omega, by omega, by simp [World.setCell]⟩, Lib.hid fun W hW hsW => ⟨?_, hR⟩, Lib.hid fun W hW => ?_, Lib.hid ?_⟩
  · exact (hT.moved fun g h1 => by
      have l1 := hlt3 g h1
      have l2 := hT2 g h1
      rw [hW g (by omega) (by omega), hset g (by omega), hb'.block g l1]).more (by omega)
  · by_cases hn : near = []
    · subst hn
      exact Prs.nil _ _ _
    · obtain ⟨g, rfl, h1, h2⟩ := hg hn
      have h1' : w3.heap.size ≤ g := h1
      refine hp.moved fun g' hg' => ?_
      have e : g = g' := by simpa [Value.ownBlock] using hg'
      subst e
      rw [hW g h2 (by omega) (by omega), hset g (by omega)]
  · exact (hr.below hb' hr.lt).far (p := ⟨b, 3, none⟩) (by simp only; omega) _
/-- where Build ends -/
theorem outEnd {w W7 wr : World} {b B n N lo k : Nat} {near : List KV} {A2 Ap : Option Addr} {c2 cp : Nat} {l : List KV} (h : LoopAt w W7 b B n N lo (.slice A2 near.length c2) l k (.slice Ap k cp) wr) (hlow : w.heap.size + 1 + 1 < b)
    (hp : ∀ W, (∀ g, g < B → g ≠ b → g ≠ w.heap.size + 1 + 1 → W.heap[g]? = W7.heap[g]?) → Prs W (.slice A2 near.length c2) near) {v0 v1 v2 v3 v4 : Value} :
    ∃ v, Ending.returned (.agg #[.int .i64 n, .int .i64 N, .bool false, .slice A2 near.length c2, .slice Ap k cp]) = .returned v ∧ Prf (((((wr.setCell ⟨w.heap.size + 1 + 1, 0, none⟩ v0).setCell ⟨w.heap.size + 1 + 1, 1, none⟩ v1).setCell ⟨w.heap.size + 1 + 1, 2, none⟩ v2).setCell ⟨w.heap.size + 1 + 1, 3, none⟩ v3).setCell ⟨w.heap.size + 1 + 1, 4, none⟩ v4) v ⟨n, N, false, near, pathsOf l lo k⟩ ∧
      Since w (((((wr.setCell ⟨w.heap.size + 1 + 1, 0, none⟩ v0).setCell ⟨w.heap.size + 1 + 1, 1, none⟩ v1).setCell ⟨w.heap.size + 1 + 1, 2, none⟩ v2).setCell ⟨w.heap.size + 1 + 1, 3, none⟩ v3).setCell ⟨w.heap.size + 1 + 1, 4, none⟩ v4) := by
  have hl := h.lt
  refine ⟨_, rfl, ⟨_, _, rfl, hp _ fun g h1 h2 h3 => (heap_put5 wr h3 v0 v1 v2 v3 v4).trans (h.keep g h1 h2), ?_⟩, since_put5 h.s (by omega) _ _ _ _ _⟩
  exact (((((h.own.set_ ⟨w.heap.size + 1 + 1, 0, none⟩ (by simp only; omega) v0).set_ ⟨w.heap.size + 1 + 1, 1, none⟩ (by simp only; omega) v1).set_ ⟨w.heap.size + 1 + 1, 2, none⟩ (by simp only; omega) v2).set_ ⟨w.heap.size + 1 + 1, 3, none⟩ (by simp only; omega) v3).set_ ⟨w.heap.size + 1 + 1, 4, none⟩ (by simp only; omega) v4).pths
set_option maxHeartbeats 4000000 in
set_option maxRecDepth 100000 in
theorem buildOut (A : Option Addr) (n cap N lo m : Nat) (key : ByteArray) (l near : List KV) (w : World) (hNn : N ≤ n) (hn : n ≤ 1000000) (hm : m ≤ 2) (hlo : lo ≤ 1000000) (hml : near.length = m) (A' A'' : Option Addr)
    (hcase : N = n ∨ ∃ b off x, A = some ⟨b, off, none⟩ ∧ N < n ∧ w.cell? ⟨b, off + N * 2, none⟩ = some (.string x) ∧ (x.toList == key.toList) = false)
    (hs3 : ∀ W, (Instr.slice 22 (.slice A n cap) (some (.int .i64 lo)) (some (.int .i64 (lo + m : Nat))) (some (.int .i64 (lo + m : Nat)))).run Tryd.prog W = .ok (.slice A' m m) W)
    (hs4 : ∀ W, (Instr.slice 22 (.slice A' m m) none (some (.int .i64 0)) (some (.int .i64 0))).run Tryd.prog W = .ok (.slice A'' 0 0) W)
    (hA'' : near ≠ [] → ∃ a, A'' = some a) (HNR : Hid (∀ W, Since w W → Prs W (.slice A' m m) near))
    (H1 : Hid (∀ W, Since w W → Calls Tryd.prog 29 #[.slice A n cap] W fun e w' => e = .returned (.bool true) ∧ Since W w'))
    (H2 : Hid (∀ W, BoxAt w (.slice A n cap) key W → Calls Tryd.prog 30 #[.int .i64 n, .func (.func 31) #[] #[.pointer (some ⟨w.heap.size, 0, none⟩), .pointer (some ⟨w.heap.size + 1, 0, none⟩)]] W fun e w' => e = .returned (.int .i64 N) ∧ Since W w'))
    (H3 : Hid (∀ W, Since w W → Calls Tryd.prog 32 #[.slice A n cap] W fun e w' => ∃ u, e = .returned u ∧ OwnStrs W.heap.size u (bss (lv l)) W w'))
    (H4 : Hid (∀ W u (k : Nat), k < m → Since w W → Txs W W.heap.size u (bss (lv l)) ∧ Roomy u → Calls Tryd.prog 33 #[u, .int .i64 (lo + k : Nat)] W fun e w' => ∃ pu, e = .returned pu ∧ OwnStrs W.heap.size pu (bss (pth l (lo + k))) W w'))
    (H5 : Hid (∀ W, Calls Tryd.prog 34 #[.int .i64 N, .int .i64 n] W fun e w' => e = .returned (.tuple #[.int .i64 lo, .int .i64 (lo + m : Nat)]) ∧ W = w')) :
    Calls Tryd.prog 11 #[.slice A n cap, .string key] w fun e w' => ∃ v, e = .returned v ∧ Prf w' v ⟨n, N, false, near, pathsOf l lo m⟩ ∧ Since w w' := by
  subst hml
  have B0 := boxAt w (.slice A n cap) key
  have c2 := B0.l.cell 0
  have HB := Lib.hid B0
  simp only [List.getElem?_toArray, List.getElem?_cons_zero] at c2
  unfold boxW at c2 HB
  clear B0
  go_enter Tryd.func11, Tryd.ntmps11
  go_wp2_with fail
  refine (H1.out _ HB.out.s).mono ?_
  rintro e w1 ⟨rfl, s1⟩
  have HB1 := Lib.hid (HB.out.next s1)
  have c2' := s1.cell c2
  clear H1 HB s1 c2
  go_wp2_with fail
  refine (H2.out _ HB1.out).mono ?_
  rintro e w2 ⟨rfl, s2⟩
  have HB2 := Lib.hid (HB1.out.next s2)
  have c2 := s2.cell c2'
  have HBX := Lib.hid (Blk.new w2 28 #[.int .i64 n, .int .i64 N, .bool false, .slice none 0 0, .slice none 0 0])
  have HS := Lib.hid (show Since w2 (w2.alloc (.cells #[.int .i64 n, .int .i64 N, .bool false, .slice none 0 0, .slice none 0 0] 28)) from since_of ((Below.refl _ w2).alloc (Nat.le_refl _) _))
  have c3 := HS.out.cell c2
  clear H2 HB1 s2 c2'
  go_wp2_with fail
  refine (H3.out _ (since_of (step_below HB2.out.s.below HS.out.below))).mono ?_
  rintro e w3 ⟨u3, rfl, o3⟩
  have S3 := since_of o3.below
  have HB3 := Lib.hid ((HB2.out.next HS.out).next S3)
  have HX3 := Lib.hid (HBX.out.below S3.below HBX.out.lt)
  have HR3 := Lib.hid (own_roomy o3.1)
  have HT3 := Lib.hid (And.intro o3.txs (And.intro (fun g hg => (o3.1.lt g hg).1) (fun g hg => (o3.1.lt g hg).2)))
  have hB3 : w2.heap.size < (w2.alloc (.cells #[.int .i64 n, .int .i64 N, .bool false, .slice none 0 0, .slice none 0 0] 28)).heap.size := HBX.out.lt
  have HB3L := Lib.hid hB3
  clear hB3
  have c2 := HB3.out.l.c 0 rfl
  have ck := HB3.out.k.c 0 rfl
  have i0 : (0 : Int) ≤ (N : Int) := by omega
  have hlow := HB2.out.r.lt
  have HCS := Lib.hid hcase
  obtain ⟨hi, HIH⟩ : ∃ hi : Nat, Hid (hi = lo + near.length) := ⟨_, Lib.hid rfl⟩
  have ehi := HIH.out
  rw [← ehi] at hs3 H5
  clear H3 HS HB2 HBX S3 o3 c3 hcase ehi
  have tailC : Hid (Calls Tryd.prog 34 #[.int .i64 N, .int .i64 n] w3.drew fun e w' => e = .returned (.tuple #[.int .i64 lo, .int .i64 hi]) ∧ w3.drew = w') := Lib.hid (H5.out _)
  rcases HCS.out with hcs | ⟨b, off, x, hA, hlt, hcx, hne⟩
  · subst hcs
    have i1 : ¬ (N : Int) < (N : Int) := by omega
    clear HCS H5
    go_wp2
    go_region
    go_wp2_with fail
    refine tailC.out.mono ?_
    rintro e w4 ⟨rfl, rfl⟩
    clear tailC
    go_wp2_with (at_builtin; (refine wpList_append_fresh _ rfl _ _ rfl A'' _ near rfl rfl (HNR.out w3.drew (since_of (Below.drewN HB3.out.s.below 1))) hA'' (by omega) ?_; intro A2 c2 w6 hp6 hb6 hg6; have HG6 := Lib.hid (And.intro hp6 (And.intro hb6 hg6)); have c63 : w6.cell? ⟨w2.heap.size, 3, none⟩ = some (.slice none 0 0) := (HX3.out.below (w' := w6) (step_below (quiet_below w3 1) hb6) HX3.out.lt).c 3 rfl; have f63 : w6.frozen? ⟨w2.heap.size, 3, none⟩ = false := (HX3.out.below (w' := w6) (step_below (quiet_below w3 1) hb6) HX3.out.lt).frozen 3; clear hp6 hb6 hg6))
    have F7 := outStart HB3.out.r HB3.out.s HX3.out HT3.out.1 HT3.out.2.1 HB3L.out HR3.out hlow HG6.out.1 HG6.out.2.1 HG6.out.2.2 HT3.out.2.2 lo l
    obtain ⟨HI0, HT7, HP7, HR7⟩ := F7
    generalize w6.setCell ⟨w2.heap.size, 3, none⟩ (.slice A2 near.length c2) = W7 at *
    generalize w6.heap.size = B at *
    obtain ⟨i9, hinf, hz0, hz1, hz2⟩ := info_parts infoSl
    clear HG6 c63 f63 HX3 HT3 HR3 HB3 HNR HB3L
    go_loopw [11] (fun i wr => BRel w W7 w2.heap.size B N N lo (.slice A2 near.length c2) l near.length i wr) (fun i _ => hi - (intOf i).toNat)
    case atStart => exact ⟨0, _, Nat.zero_le _, rfl, HI0.out⟩
    case round =>
      obtain ⟨k, pv, hk, rfl, hI⟩ := hrel
      have HI := Lib.hid hI
      clear hI
      have ehi := HIH.out
      obtain ⟨us, h0, hrow, hB, hel⟩ := HI.out.own
      rw [pathsOf_len] at hrow
      obtain ⟨Ap, cp, rfl, hcp⟩ := own_form hrow
      have HUS := Lib.hid h0
      have HROW := Lib.hid hrow
      have HEL := Lib.hid hel
      have x4 := HI.out.bx.c 4 rfl
      clear h0 hrow hel
      by_cases hlt9 : k < near.length
      · have j0 : ((lo + k : Nat) : Int) < (hi : Int) := by omega
        have hwk1 : IntKind.i64.wrap (((lo + k : Nat) : Int) + 1) = ((lo + (k + 1) : Nat) : Int) := by rw [IntWalk.i64_in _ (by omega)]; omega
        have H4k := Lib.hid (fun W h1 h2 => H4.out W u3 k hlt9 h1 h2)
        generalize hlk : ((lo + k : Nat) : Int) = lk at *
        clear H4
        clear hs4 hA'' HP7 HR7 HIH hlow ehi
        go_wp2
        refine wp_region_held_drew (S := (fun _ => True)) (by kernel_rfl) trivial (fun hHeld => ?_)
        simp only [List.size_toArray, List.length_cons, List.length_nil, Nat.reduceAdd, Array.replicate_succ, Array.replicate_zero, List.push_toArray, List.nil_append, List.cons_append]
        refine' wpAnyH_take (i := 0) (v := _) rfl (by kernel_rfl) (by kernel_rfl) (by kernel_rfl) (fun _ _ _ h => h) (Or.inl ⟨by rfl, fun w hSw => by (try dsimp only at hSw); go_simp; rfl⟩) (by assumption) ?_
        simp only [List.getElem_toArray, List.getElem_cons_zero, Act.put, List.setIfInBounds_toArray, List.set_cons_zero, List.set_cons_succ]
        refine' wpAnyH_take (i := 2) (v := _) rfl (by kernel_rfl) (by kernel_rfl) (by kernel_rfl) (fun _ _ _ h => h) (Or.inl ⟨by rfl, fun w hSw => by (try dsimp only at hSw); go_simp; rfl⟩) (by assumption) ?_
        simp only [List.getElem_toArray, List.getElem_cons_succ, List.getElem_cons_zero, Act.put, List.setIfInBounds_toArray, List.set_cons_zero, List.set_cons_succ]
        refine' wpAnyH_take (i := 3) (v := _) rfl (by kernel_rfl) (by kernel_rfl) (by kernel_rfl) (fun _ _ _ h => h) (Or.inl ⟨by rfl, fun w hSw => by (try dsimp only at hSw); go_simp; rfl⟩) (by assumption) ?_
        simp only [List.getElem_toArray, List.getElem_cons_succ, List.getElem_cons_zero, Act.put, List.setIfInBounds_toArray, List.set_cons_zero, List.set_cons_succ]
        refine wpAnyH_ready (rs := [1, 4]) (by kernel_rfl) (by simp) (AllReadyH.cons rfl (fun K hK => ?_) (AllReadyH.cons rfl (fun K hK => ?_) AllReadyH.nil))
        · skip
          go_simp
          refine hK.out _ _ trivial (fun hHeld => ?_)
          clear hK K
          simp only [List.setIfInBounds_toArray, List.set_cons_zero, List.set_cons_succ]
          refine wpAnyH_ready (rs := [4]) (by kernel_rfl) (by simp) (AllReadyH.cons rfl (fun K hK => ?_) AllReadyH.nil)
          go_simp
          go_at_call 33
          refine (H4k.out wr.drew (since_of (Below.drewN HI.out.s.below 1)) (HT7.out wr.drew (fun g h1 h2 => HI.out.keep g h1 h2) HI.out.size)).mono ?_
          rintro e w5 ⟨pu, rfl, o5⟩
          obtain ⟨A5, m5, cap5, rfl, hroom⟩ := own_roomy o5.1
          have O5 := Lib.hid o5
          have R5 := Lib.hid (show Roomy (.slice A5 m5 cap5) from ⟨_, _, _, rfl, hroom⟩)
          have q5 : w5.cell? ⟨w2.heap.size, 4, none⟩ = some (.slice Ap k cp) := (HI.out.bx.below (step_below (quiet_below wr 1) o5.below) HI.out.bx.lt).c 4 rfl
          have q6 : (w5.alloc (.cells #[.slice A5 m5 cap5] 34)).cell? ⟨w2.heap.size, 4, none⟩ = some (.slice Ap k cp) := ((HI.out.bx.below (step_below (quiet_below wr 1) o5.below) HI.out.bx.lt).alloc _).c 4 rfl
          clear o5 hroom
          refine hK.out _ _ trivial (fun hHeld => ?_)
          clear hK K
          simp only [List.setIfInBounds_toArray, List.set_cons_zero, List.set_cons_succ]
          refine wpAnyH_ready (rs := [5]) (by kernel_rfl) (by simp) (AllReadyH.cons rfl (fun K hK => ?_) AllReadyH.nil)
          go_simp
          refine hK.out _ _ trivial (fun hHeld => ?_)
          clear hK K
          simp only [List.setIfInBounds_toArray, List.set_cons_zero, List.set_cons_succ]
          refine wpAnyH_ready (rs := [6]) (by kernel_rfl) (by simp) (AllReadyH.cons rfl (fun K hK => ?_) AllReadyH.nil)
          refine step_append_lies _ (by rfl) _ _ _ (by rfl) B 34 i9 _ 1 24 Tryd.underlying26 hinf hz0 hz1 hz2 rfl (by omega) (.slice Ap k cp) k us (by rfl) ((own_kept HROW.out (step_below (quiet_below wr 1) O5.out.below)).alloc _) ⟨w5.heap.size, 0, none⟩ 1 1 [.slice A5 m5 cap5] (by rfl) (by rfl) (World.news_of_block (cs := #[.slice A5 m5 cap5]) (t := 34) (fr := (0, 0)) (heap_alloc_new w5 _)) (by simp [Value.oneCell']) (by omega) (by unfold maxLen; omega) (by omega) (by have h8 := O5.out.below.size; have h9 := HI.out.size; simp at h8 ⊢; omega) (w5.heap.size + 1) (by simp) ?_
          intro gg cap2 w9 hown9 hgrow9 hat9 hlt9
          have R9 := Lib.hid (pths_step (pathsOf_len _ _ _) HUS.out HROW.out HEL.out HI.out.size O5.out R5.out hown9 hgrow9 hat9)
          have z9 : w9.cell? ⟨w2.heap.size, 4, none⟩ = some (.slice Ap k cp) := (HI.out.bx.below R9.out.2 HI.out.lt).c 4 rfl
          have y9 : w9.frozen? ⟨w2.heap.size, 4, none⟩ = false := (HI.out.bx.below R9.out.2 HI.out.lt).frozen 4
          clear hown9 hgrow9 hat9
          refine hK.out _ _ trivial (fun hHeld => ?_)
          clear hK K
          simp only [List.setIfInBounds_toArray, List.set_cons_zero, List.set_cons_succ]
          refine' wpAnyH_take (i := 7) (v := _) rfl (by kernel_rfl) (by kernel_rfl) (by kernel_rfl) (fun _ _ _ h => h) (Or.inl ⟨by rfl, fun w hSw => by (try dsimp only at hSw); go_simp; rfl⟩) (by assumption) ?_
          simp only [List.getElem_toArray, List.getElem_cons_succ, List.getElem_cons_zero, Act.put, List.setIfInBounds_toArray, List.set_cons_zero, List.set_cons_succ]
          refine wpAnyH_ready (rs := [8]) (by kernel_rfl) (by simp) (AllReadyH.cons rfl (fun K hK => ?_) AllReadyH.nil)
          go_simp
          refine hK.out _ _ trivial (fun hHeld => ?_)
          clear hK K
          simp only [List.setIfInBounds_toArray, List.set_cons_zero, List.set_cons_succ]
          refine wpAnyH_done (by kernel_rfl) ?_ _
          have RN := Lib.hid (HI.out.next R9.out.1 R9.out.2)
          clear R9 q5 q6 z9 y9 HROW HEL
          go_wp2
          go_roundw
          case rel => exact ⟨k + 1, _, by omega, by first | rfl | exact congrArg (Value.int IntKind.i64) (by omega), RN.out⟩
          case measure => simp [intOf]; omega
        · skip
          go_simp
          go_at_call 33
          refine (H4k.out wr.drew (since_of (Below.drewN HI.out.s.below 1)) (HT7.out wr.drew (fun g h1 h2 => HI.out.keep g h1 h2) HI.out.size)).mono ?_
          rintro e w5 ⟨pu, rfl, o5⟩
          obtain ⟨A5, m5, cap5, rfl, hroom⟩ := own_roomy o5.1
          have O5 := Lib.hid o5
          have R5 := Lib.hid (show Roomy (.slice A5 m5 cap5) from ⟨_, _, _, rfl, hroom⟩)
          have q5 : w5.cell? ⟨w2.heap.size, 4, none⟩ = some (.slice Ap k cp) := (HI.out.bx.below (step_below (quiet_below wr 1) o5.below) HI.out.bx.lt).c 4 rfl
          have q6 : (w5.alloc (.cells #[.slice A5 m5 cap5] 34)).cell? ⟨w2.heap.size, 4, none⟩ = some (.slice Ap k cp) := ((HI.out.bx.below (step_below (quiet_below wr 1) o5.below) HI.out.bx.lt).alloc _).c 4 rfl
          clear o5 hroom
          refine hK.out _ _ trivial (fun hHeld => ?_)
          clear hK K
          simp only [List.setIfInBounds_toArray, List.set_cons_zero, List.set_cons_succ]
          refine wpAnyH_ready (rs := [1, 5]) (by kernel_rfl) (by simp) (AllReadyH.cons rfl (fun K hK => ?_) (AllReadyH.cons rfl (fun K hK => ?_) AllReadyH.nil))
          · skip
            go_simp
            refine hK.out _ _ trivial (fun hHeld => ?_)
            clear hK K
            simp only [List.setIfInBounds_toArray, List.set_cons_zero, List.set_cons_succ]
            refine wpAnyH_ready (rs := [5]) (by kernel_rfl) (by simp) (AllReadyH.cons rfl (fun K hK => ?_) AllReadyH.nil)
            go_simp
            refine hK.out _ _ trivial (fun hHeld => ?_)
            clear hK K
            simp only [List.setIfInBounds_toArray, List.set_cons_zero, List.set_cons_succ]
            refine wpAnyH_ready (rs := [6]) (by kernel_rfl) (by simp) (AllReadyH.cons rfl (fun K hK => ?_) AllReadyH.nil)
            refine step_append_lies _ (by rfl) _ _ _ (by rfl) B 34 i9 _ 1 24 Tryd.underlying26 hinf hz0 hz1 hz2 rfl (by omega) (.slice Ap k cp) k us (by rfl) ((own_kept HROW.out (step_below (quiet_below wr 1) O5.out.below)).alloc _) ⟨w5.heap.size, 0, none⟩ 1 1 [.slice A5 m5 cap5] (by rfl) (by rfl) (World.news_of_block (cs := #[.slice A5 m5 cap5]) (t := 34) (fr := (0, 0)) (heap_alloc_new w5 _)) (by simp [Value.oneCell']) (by omega) (by unfold maxLen; omega) (by omega) (by have h8 := O5.out.below.size; have h9 := HI.out.size; simp at h8 ⊢; omega) (w5.heap.size + 1) (by simp) ?_
            intro gg cap2 w9 hown9 hgrow9 hat9 hlt9
            have R9 := Lib.hid (pths_step (pathsOf_len _ _ _) HUS.out HROW.out HEL.out HI.out.size O5.out R5.out hown9 hgrow9 hat9)
            have z9 : w9.cell? ⟨w2.heap.size, 4, none⟩ = some (.slice Ap k cp) := (HI.out.bx.below R9.out.2 HI.out.lt).c 4 rfl
            have y9 : w9.frozen? ⟨w2.heap.size, 4, none⟩ = false := (HI.out.bx.below R9.out.2 HI.out.lt).frozen 4
            clear hown9 hgrow9 hat9
            refine hK.out _ _ trivial (fun hHeld => ?_)
            clear hK K
            simp only [List.setIfInBounds_toArray, List.set_cons_zero, List.set_cons_succ]
            refine' wpAnyH_take (i := 7) (v := _) rfl (by kernel_rfl) (by kernel_rfl) (by kernel_rfl) (fun _ _ _ h => h) (Or.inl ⟨by rfl, fun w hSw => by (try dsimp only at hSw); go_simp; rfl⟩) (by assumption) ?_
            simp only [List.getElem_toArray, List.getElem_cons_succ, List.getElem_cons_zero, Act.put, List.setIfInBounds_toArray, List.set_cons_zero, List.set_cons_succ]
            refine wpAnyH_ready (rs := [8]) (by kernel_rfl) (by simp) (AllReadyH.cons rfl (fun K hK => ?_) AllReadyH.nil)
            go_simp
            refine hK.out _ _ trivial (fun hHeld => ?_)
            clear hK K
            simp only [List.setIfInBounds_toArray, List.set_cons_zero, List.set_cons_succ]
            refine wpAnyH_done (by kernel_rfl) ?_ _
            have RN := Lib.hid (HI.out.next R9.out.1 R9.out.2)
            clear R9 q5 q6 z9 y9 HROW HEL
            go_wp2
            go_roundw
            case rel => exact ⟨k + 1, _, by omega, by first | rfl | exact congrArg (Value.int IntKind.i64) (by omega), RN.out⟩
            case measure => simp [intOf]; omega
          · skip
            go_simp
            refine hK.out _ _ trivial (fun hHeld => ?_)
            clear hK K
            simp only [List.setIfInBounds_toArray, List.set_cons_zero, List.set_cons_succ]
            refine wpAnyH_ready (rs := [1]) (by kernel_rfl) (by simp) (AllReadyH.cons rfl (fun K hK => ?_) AllReadyH.nil)
            go_simp
            refine hK.out _ _ trivial (fun hHeld => ?_)
            clear hK K
            simp only [List.setIfInBounds_toArray, List.set_cons_zero, List.set_cons_succ]
            refine wpAnyH_ready (rs := [6]) (by kernel_rfl) (by simp) (AllReadyH.cons rfl (fun K hK => ?_) AllReadyH.nil)
            refine step_append_lies _ (by rfl) _ _ _ (by rfl) B 34 i9 _ 1 24 Tryd.underlying26 hinf hz0 hz1 hz2 rfl (by omega) (.slice Ap k cp) k us (by rfl) ((own_kept HROW.out (step_below (quiet_below wr 1) O5.out.below)).alloc _) ⟨w5.heap.size, 0, none⟩ 1 1 [.slice A5 m5 cap5] (by rfl) (by rfl) (World.news_of_block (cs := #[.slice A5 m5 cap5]) (t := 34) (fr := (0, 0)) (heap_alloc_new w5 _)) (by simp [Value.oneCell']) (by omega) (by unfold maxLen; omega) (by omega) (by have h8 := O5.out.below.size; have h9 := HI.out.size; simp at h8 ⊢; omega) (w5.heap.size + 1) (by simp) ?_
            intro gg cap2 w9 hown9 hgrow9 hat9 hlt9
            have R9 := Lib.hid (pths_step (pathsOf_len _ _ _) HUS.out HROW.out HEL.out HI.out.size O5.out R5.out hown9 hgrow9 hat9)
            have z9 : w9.cell? ⟨w2.heap.size, 4, none⟩ = some (.slice Ap k cp) := (HI.out.bx.below R9.out.2 HI.out.lt).c 4 rfl
            have y9 : w9.frozen? ⟨w2.heap.size, 4, none⟩ = false := (HI.out.bx.below R9.out.2 HI.out.lt).frozen 4
            clear hown9 hgrow9 hat9
            refine hK.out _ _ trivial (fun hHeld => ?_)
            clear hK K
            simp only [List.setIfInBounds_toArray, List.set_cons_zero, List.set_cons_succ]
            refine' wpAnyH_take (i := 7) (v := _) rfl (by kernel_rfl) (by kernel_rfl) (by kernel_rfl) (fun _ _ _ h => h) (Or.inl ⟨by rfl, fun w hSw => by (try dsimp only at hSw); go_simp; rfl⟩) (by assumption) ?_
            simp only [List.getElem_toArray, List.getElem_cons_succ, List.getElem_cons_zero, Act.put, List.setIfInBounds_toArray, List.set_cons_zero, List.set_cons_succ]
            refine wpAnyH_ready (rs := [8]) (by kernel_rfl) (by simp) (AllReadyH.cons rfl (fun K hK => ?_) AllReadyH.nil)
            go_simp
            refine hK.out _ _ trivial (fun hHeld => ?_)
            clear hK K
            simp only [List.setIfInBounds_toArray, List.set_cons_zero, List.set_cons_succ]
            refine wpAnyH_done (by kernel_rfl) ?_ _
            have RN := Lib.hid (HI.out.next R9.out.1 R9.out.2)
            clear R9 q5 q6 z9 y9 HROW HEL
            go_wp2
            go_roundw
            case rel => exact ⟨k + 1, _, by omega, by first | rfl | exact congrArg (Value.int IntKind.i64) (by omega), RN.out⟩
            case measure => simp [intOf]; omega
      · obtain rfl : k = near.length := by omega
        have j0 : ¬ ((lo + near.length : Nat) : Int) < (hi : Int) := by omega
        have x0 := HI.out.bx.c 0 rfl
        have x1 := HI.out.bx.c 1 rfl
        have x2 := HI.out.bx.c 2 rfl
        have x3 := HI.out.bx.c 3 rfl
        have R7 : Blk wr (w.heap.size + 1 + 1) 28 #[.int .i64 0, .int .i64 0, .bool false, .slice none 0 0, .slice none 0 0] := (HI.out.keep _ (by have := HI.out.lt; omega) (by omega)).trans HR7.out
        have HR := Lib.hid R7
        have d0 := R7.c 0 rfl
        have d1 := R7.c 1 rfl
        have d2 := R7.c 2 rfl
        have d3 := R7.c 3 rfl
        have d4 := R7.c 4 rfl
        have f0 := R7.frozen 0
        have f1 := R7.frozen 1
        have f2 := R7.frozen 2
        have f3 := R7.frozen 3
        have f4 := R7.frozen 4
        clear R7 HUS HROW HEL HT7 H4 ehi
        go_wp2
        have K2 := put5 HR.out (.int .i64 N) (.int .i64 N) (.bool false) (.slice A2 near.length c2) (.slice Ap near.length cp)
        refine bodyPost_ret (v := .agg #[.int .i64 N, .int .i64 N, .bool false, .slice A2 near.length c2, .slice Ap near.length cp]) (by simp [results, Tryd.results11, go_sem, K2.c 0 rfl, K2.c 1 rfl, K2.c 2 rfl, K2.c 3 rfl, K2.c 4 rfl]) rfl ?_
        exact outEnd HI.out hlow HP7.out
  · subst hA
    have cx := HB3.out.s.cell hcx
    have i1 : (N : Int) < (n : Int) := by omega
    clear HCS hcx H5
    go_wp2
    go_region
    go_wp2_with fail
    refine tailC.out.mono ?_
    rintro e w4 ⟨rfl, rfl⟩
    clear tailC
    go_wp2_with (at_builtin; (refine wpList_append_fresh _ rfl _ _ rfl A'' _ near rfl rfl (HNR.out w3.drew (since_of (Below.drewN HB3.out.s.below 1))) hA'' (by omega) ?_; intro A2 c2 w6 hp6 hb6 hg6; have HG6 := Lib.hid (And.intro hp6 (And.intro hb6 hg6)); have c63 : w6.cell? ⟨w2.heap.size, 3, none⟩ = some (.slice none 0 0) := (HX3.out.below (w' := w6) (step_below (quiet_below w3 1) hb6) HX3.out.lt).c 3 rfl; have f63 : w6.frozen? ⟨w2.heap.size, 3, none⟩ = false := (HX3.out.below (w' := w6) (step_below (quiet_below w3 1) hb6) HX3.out.lt).frozen 3; clear hp6 hb6 hg6))
    have F7 := outStart HB3.out.r HB3.out.s HX3.out HT3.out.1 HT3.out.2.1 HB3L.out HR3.out hlow HG6.out.1 HG6.out.2.1 HG6.out.2.2 HT3.out.2.2 lo l
    obtain ⟨HI0, HT7, HP7, HR7⟩ := F7
    generalize w6.setCell ⟨w2.heap.size, 3, none⟩ (.slice A2 near.length c2) = W7 at *
    generalize w6.heap.size = B at *
    obtain ⟨i9, hinf, hz0, hz1, hz2⟩ := info_parts infoSl
    clear HG6 c63 f63 HX3 HT3 HR3 HB3 HNR HB3L
    go_loopw [11] (fun i wr => BRel w W7 w2.heap.size B n N lo (.slice A2 near.length c2) l near.length i wr) (fun i _ => hi - (intOf i).toNat)
    case atStart => exact ⟨0, _, Nat.zero_le _, rfl, HI0.out⟩
    case round =>
      obtain ⟨k, pv, hk, rfl, hI⟩ := hrel
      have HI := Lib.hid hI
      clear hI
      have ehi := HIH.out
      obtain ⟨us, h0, hrow, hB, hel⟩ := HI.out.own
      rw [pathsOf_len] at hrow
      obtain ⟨Ap, cp, rfl, hcp⟩ := own_form hrow
      have HUS := Lib.hid h0
      have HROW := Lib.hid hrow
      have HEL := Lib.hid hel
      have x4 := HI.out.bx.c 4 rfl
      clear h0 hrow hel
      by_cases hlt9 : k < near.length
      · have j0 : ((lo + k : Nat) : Int) < (hi : Int) := by omega
        have hwk1 : IntKind.i64.wrap (((lo + k : Nat) : Int) + 1) = ((lo + (k + 1) : Nat) : Int) := by rw [IntWalk.i64_in _ (by omega)]; omega
        have H4k := Lib.hid (fun W h1 h2 => H4.out W u3 k hlt9 h1 h2)
        generalize hlk : ((lo + k : Nat) : Int) = lk at *
        clear H4
        clear hs4 hA'' HP7 HR7 HIH hlow ehi
        go_wp2
        refine wp_region_held_drew (S := (fun _ => True)) (by kernel_rfl) trivial (fun hHeld => ?_)
        simp only [List.size_toArray, List.length_cons, List.length_nil, Nat.reduceAdd, Array.replicate_succ, Array.replicate_zero, List.push_toArray, List.nil_append, List.cons_append]
        refine' wpAnyH_take (i := 0) (v := _) rfl (by kernel_rfl) (by kernel_rfl) (by kernel_rfl) (fun _ _ _ h => h) (Or.inl ⟨by rfl, fun w hSw => by (try dsimp only at hSw); go_simp; rfl⟩) (by assumption) ?_
        simp only [List.getElem_toArray, List.getElem_cons_zero, Act.put, List.setIfInBounds_toArray, List.set_cons_zero, List.set_cons_succ]
        refine' wpAnyH_take (i := 2) (v := _) rfl (by kernel_rfl) (by kernel_rfl) (by kernel_rfl) (fun _ _ _ h => h) (Or.inl ⟨by rfl, fun w hSw => by (try dsimp only at hSw); go_simp; rfl⟩) (by assumption) ?_
        simp only [List.getElem_toArray, List.getElem_cons_succ, List.getElem_cons_zero, Act.put, List.setIfInBounds_toArray, List.set_cons_zero, List.set_cons_succ]
        refine' wpAnyH_take (i := 3) (v := _) rfl (by kernel_rfl) (by kernel_rfl) (by kernel_rfl) (fun _ _ _ h => h) (Or.inl ⟨by rfl, fun w hSw => by (try dsimp only at hSw); go_simp; rfl⟩) (by assumption) ?_
        simp only [List.getElem_toArray, List.getElem_cons_succ, List.getElem_cons_zero, Act.put, List.setIfInBounds_toArray, List.set_cons_zero, List.set_cons_succ]
        refine wpAnyH_ready (rs := [1, 4]) (by kernel_rfl) (by simp) (AllReadyH.cons rfl (fun K hK => ?_) (AllReadyH.cons rfl (fun K hK => ?_) AllReadyH.nil))
        · skip
          go_simp
          refine hK.out _ _ trivial (fun hHeld => ?_)
          clear hK K
          simp only [List.setIfInBounds_toArray, List.set_cons_zero, List.set_cons_succ]
          refine wpAnyH_ready (rs := [4]) (by kernel_rfl) (by simp) (AllReadyH.cons rfl (fun K hK => ?_) AllReadyH.nil)
          go_simp
          go_at_call 33
          refine (H4k.out wr.drew (since_of (Below.drewN HI.out.s.below 1)) (HT7.out wr.drew (fun g h1 h2 => HI.out.keep g h1 h2) HI.out.size)).mono ?_
          rintro e w5 ⟨pu, rfl, o5⟩
          obtain ⟨A5, m5, cap5, rfl, hroom⟩ := own_roomy o5.1
          have O5 := Lib.hid o5
          have R5 := Lib.hid (show Roomy (.slice A5 m5 cap5) from ⟨_, _, _, rfl, hroom⟩)
          have q5 : w5.cell? ⟨w2.heap.size, 4, none⟩ = some (.slice Ap k cp) := (HI.out.bx.below (step_below (quiet_below wr 1) o5.below) HI.out.bx.lt).c 4 rfl
          have q6 : (w5.alloc (.cells #[.slice A5 m5 cap5] 34)).cell? ⟨w2.heap.size, 4, none⟩ = some (.slice Ap k cp) := ((HI.out.bx.below (step_below (quiet_below wr 1) o5.below) HI.out.bx.lt).alloc _).c 4 rfl
          clear o5 hroom
          refine hK.out _ _ trivial (fun hHeld => ?_)
          clear hK K
          simp only [List.setIfInBounds_toArray, List.set_cons_zero, List.set_cons_succ]
          refine wpAnyH_ready (rs := [5]) (by kernel_rfl) (by simp) (AllReadyH.cons rfl (fun K hK => ?_) AllReadyH.nil)
          go_simp
          refine hK.out _ _ trivial (fun hHeld => ?_)
          clear hK K
          simp only [List.setIfInBounds_toArray, List.set_cons_zero, List.set_cons_succ]
          refine wpAnyH_ready (rs := [6]) (by kernel_rfl) (by simp) (AllReadyH.cons rfl (fun K hK => ?_) AllReadyH.nil)
          refine step_append_lies _ (by rfl) _ _ _ (by rfl) B 34 i9 _ 1 24 Tryd.underlying26 hinf hz0 hz1 hz2 rfl (by omega) (.slice Ap k cp) k us (by rfl) ((own_kept HROW.out (step_below (quiet_below wr 1) O5.out.below)).alloc _) ⟨w5.heap.size, 0, none⟩ 1 1 [.slice A5 m5 cap5] (by rfl) (by rfl) (World.news_of_block (cs := #[.slice A5 m5 cap5]) (t := 34) (fr := (0, 0)) (heap_alloc_new w5 _)) (by simp [Value.oneCell']) (by omega) (by unfold maxLen; omega) (by omega) (by have h8 := O5.out.below.size; have h9 := HI.out.size; simp at h8 ⊢; omega) (w5.heap.size + 1) (by simp) ?_
          intro gg cap2 w9 hown9 hgrow9 hat9 hlt9
          have R9 := Lib.hid (pths_step (pathsOf_len _ _ _) HUS.out HROW.out HEL.out HI.out.size O5.out R5.out hown9 hgrow9 hat9)
          have z9 : w9.cell? ⟨w2.heap.size, 4, none⟩ = some (.slice Ap k cp) := (HI.out.bx.below R9.out.2 HI.out.lt).c 4 rfl
          have y9 : w9.frozen? ⟨w2.heap.size, 4, none⟩ = false := (HI.out.bx.below R9.out.2 HI.out.lt).frozen 4
          clear hown9 hgrow9 hat9
          refine hK.out _ _ trivial (fun hHeld => ?_)
          clear hK K
          simp only [List.setIfInBounds_toArray, List.set_cons_zero, List.set_cons_succ]
          refine' wpAnyH_take (i := 7) (v := _) rfl (by kernel_rfl) (by kernel_rfl) (by kernel_rfl) (fun _ _ _ h => h) (Or.inl ⟨by rfl, fun w hSw => by (try dsimp only at hSw); go_simp; rfl⟩) (by assumption) ?_
          simp only [List.getElem_toArray, List.getElem_cons_succ, List.getElem_cons_zero, Act.put, List.setIfInBounds_toArray, List.set_cons_zero, List.set_cons_succ]
          refine wpAnyH_ready (rs := [8]) (by kernel_rfl) (by simp) (AllReadyH.cons rfl (fun K hK => ?_) AllReadyH.nil)
          go_simp
          refine hK.out _ _ trivial (fun hHeld => ?_)
          clear hK K
          simp only [List.setIfInBounds_toArray, List.set_cons_zero, List.set_cons_succ]
          refine wpAnyH_done (by kernel_rfl) ?_ _
          have RN := Lib.hid (HI.out.next R9.out.1 R9.out.2)
          clear R9 q5 q6 z9 y9 HROW HEL
          go_wp2
          go_roundw
          case rel => exact ⟨k + 1, _, by omega, by first | rfl | exact congrArg (Value.int IntKind.i64) (by omega), RN.out⟩
          case measure => simp [intOf]; omega
        · skip
          go_simp
          go_at_call 33
          refine (H4k.out wr.drew (since_of (Below.drewN HI.out.s.below 1)) (HT7.out wr.drew (fun g h1 h2 => HI.out.keep g h1 h2) HI.out.size)).mono ?_
          rintro e w5 ⟨pu, rfl, o5⟩
          obtain ⟨A5, m5, cap5, rfl, hroom⟩ := own_roomy o5.1
          have O5 := Lib.hid o5
          have R5 := Lib.hid (show Roomy (.slice A5 m5 cap5) from ⟨_, _, _, rfl, hroom⟩)
          have q5 : w5.cell? ⟨w2.heap.size, 4, none⟩ = some (.slice Ap k cp) := (HI.out.bx.below (step_below (quiet_below wr 1) o5.below) HI.out.bx.lt).c 4 rfl
          have q6 : (w5.alloc (.cells #[.slice A5 m5 cap5] 34)).cell? ⟨w2.heap.size, 4, none⟩ = some (.slice Ap k cp) := ((HI.out.bx.below (step_below (quiet_below wr 1) o5.below) HI.out.bx.lt).alloc _).c 4 rfl
          clear o5 hroom
          refine hK.out _ _ trivial (fun hHeld => ?_)
          clear hK K
          simp only [List.setIfInBounds_toArray, List.set_cons_zero, List.set_cons_succ]
          refine wpAnyH_ready (rs := [1, 5]) (by kernel_rfl) (by simp) (AllReadyH.cons rfl (fun K hK => ?_) (AllReadyH.cons rfl (fun K hK => ?_) AllReadyH.nil))
          · skip
            go_simp
            refine hK.out _ _ trivial (fun hHeld => ?_)
            clear hK K
            simp only [List.setIfInBounds_toArray, List.set_cons_zero, List.set_cons_succ]
            refine wpAnyH_ready (rs := [5]) (by kernel_rfl) (by simp) (AllReadyH.cons rfl (fun K hK => ?_) AllReadyH.nil)
            go_simp
            refine hK.out _ _ trivial (fun hHeld => ?_)
            clear hK K
            simp only [List.setIfInBounds_toArray, List.set_cons_zero, List.set_cons_succ]
            refine wpAnyH_ready (rs := [6]) (by kernel_rfl) (by simp) (AllReadyH.cons rfl (fun K hK => ?_) AllReadyH.nil)
            refine step_append_lies _ (by rfl) _ _ _ (by rfl) B 34 i9 _ 1 24 Tryd.underlying26 hinf hz0 hz1 hz2 rfl (by omega) (.slice Ap k cp) k us (by rfl) ((own_kept HROW.out (step_below (quiet_below wr 1) O5.out.below)).alloc _) ⟨w5.heap.size, 0, none⟩ 1 1 [.slice A5 m5 cap5] (by rfl) (by rfl) (World.news_of_block (cs := #[.slice A5 m5 cap5]) (t := 34) (fr := (0, 0)) (heap_alloc_new w5 _)) (by simp [Value.oneCell']) (by omega) (by unfold maxLen; omega) (by omega) (by have h8 := O5.out.below.size; have h9 := HI.out.size; simp at h8 ⊢; omega) (w5.heap.size + 1) (by simp) ?_
            intro gg cap2 w9 hown9 hgrow9 hat9 hlt9
            have R9 := Lib.hid (pths_step (pathsOf_len _ _ _) HUS.out HROW.out HEL.out HI.out.size O5.out R5.out hown9 hgrow9 hat9)
            have z9 : w9.cell? ⟨w2.heap.size, 4, none⟩ = some (.slice Ap k cp) := (HI.out.bx.below R9.out.2 HI.out.lt).c 4 rfl
            have y9 : w9.frozen? ⟨w2.heap.size, 4, none⟩ = false := (HI.out.bx.below R9.out.2 HI.out.lt).frozen 4
            clear hown9 hgrow9 hat9
            refine hK.out _ _ trivial (fun hHeld => ?_)
            clear hK K
            simp only [List.setIfInBounds_toArray, List.set_cons_zero, List.set_cons_succ]
            refine' wpAnyH_take (i := 7) (v := _) rfl (by kernel_rfl) (by kernel_rfl) (by kernel_rfl) (fun _ _ _ h => h) (Or.inl ⟨by rfl, fun w hSw => by (try dsimp only at hSw); go_simp; rfl⟩) (by assumption) ?_
            simp only [List.getElem_toArray, List.getElem_cons_succ, List.getElem_cons_zero, Act.put, List.setIfInBounds_toArray, List.set_cons_zero, List.set_cons_succ]
            refine wpAnyH_ready (rs := [8]) (by kernel_rfl) (by simp) (AllReadyH.cons rfl (fun K hK => ?_) AllReadyH.nil)
            go_simp
            refine hK.out _ _ trivial (fun hHeld => ?_)
            clear hK K
            simp only [List.setIfInBounds_toArray, List.set_cons_zero, List.set_cons_succ]
            refine wpAnyH_done (by kernel_rfl) ?_ _
            have RN := Lib.hid (HI.out.next R9.out.1 R9.out.2)
            clear R9 q5 q6 z9 y9 HROW HEL
            go_wp2
            go_roundw
            case rel => exact ⟨k + 1, _, by omega, by first | rfl | exact congrArg (Value.int IntKind.i64) (by omega), RN.out⟩
            case measure => simp [intOf]; omega
          · skip
            go_simp
            refine hK.out _ _ trivial (fun hHeld => ?_)
            clear hK K
            simp only [List.setIfInBounds_toArray, List.set_cons_zero, List.set_cons_succ]
            refine wpAnyH_ready (rs := [1]) (by kernel_rfl) (by simp) (AllReadyH.cons rfl (fun K hK => ?_) AllReadyH.nil)
            go_simp
            refine hK.out _ _ trivial (fun hHeld => ?_)
            clear hK K
            simp only [List.setIfInBounds_toArray, List.set_cons_zero, List.set_cons_succ]
            refine wpAnyH_ready (rs := [6]) (by kernel_rfl) (by simp) (AllReadyH.cons rfl (fun K hK => ?_) AllReadyH.nil)
            refine step_append_lies _ (by rfl) _ _ _ (by rfl) B 34 i9 _ 1 24 Tryd.underlying26 hinf hz0 hz1 hz2 rfl (by omega) (.slice Ap k cp) k us (by rfl) ((own_kept HROW.out (step_below (quiet_below wr 1) O5.out.below)).alloc _) ⟨w5.heap.size, 0, none⟩ 1 1 [.slice A5 m5 cap5] (by rfl) (by rfl) (World.news_of_block (cs := #[.slice A5 m5 cap5]) (t := 34) (fr := (0, 0)) (heap_alloc_new w5 _)) (by simp [Value.oneCell']) (by omega) (by unfold maxLen; omega) (by omega) (by have h8 := O5.out.below.size; have h9 := HI.out.size; simp at h8 ⊢; omega) (w5.heap.size + 1) (by simp) ?_
            intro gg cap2 w9 hown9 hgrow9 hat9 hlt9
            have R9 := Lib.hid (pths_step (pathsOf_len _ _ _) HUS.out HROW.out HEL.out HI.out.size O5.out R5.out hown9 hgrow9 hat9)
            have z9 : w9.cell? ⟨w2.heap.size, 4, none⟩ = some (.slice Ap k cp) := (HI.out.bx.below R9.out.2 HI.out.lt).c 4 rfl
            have y9 : w9.frozen? ⟨w2.heap.size, 4, none⟩ = false := (HI.out.bx.below R9.out.2 HI.out.lt).frozen 4
            clear hown9 hgrow9 hat9
            refine hK.out _ _ trivial (fun hHeld => ?_)
            clear hK K
            simp only [List.setIfInBounds_toArray, List.set_cons_zero, List.set_cons_succ]
            refine' wpAnyH_take (i := 7) (v := _) rfl (by kernel_rfl) (by kernel_rfl) (by kernel_rfl) (fun _ _ _ h => h) (Or.inl ⟨by rfl, fun w hSw => by (try dsimp only at hSw); go_simp; rfl⟩) (by assumption) ?_
            simp only [List.getElem_toArray, List.getElem_cons_succ, List.getElem_cons_zero, Act.put, List.setIfInBounds_toArray, List.set_cons_zero, List.set_cons_succ]
            refine wpAnyH_ready (rs := [8]) (by kernel_rfl) (by simp) (AllReadyH.cons rfl (fun K hK => ?_) AllReadyH.nil)
            go_simp
            refine hK.out _ _ trivial (fun hHeld => ?_)
            clear hK K
            simp only [List.setIfInBounds_toArray, List.set_cons_zero, List.set_cons_succ]
            refine wpAnyH_done (by kernel_rfl) ?_ _
            have RN := Lib.hid (HI.out.next R9.out.1 R9.out.2)
            clear R9 q5 q6 z9 y9 HROW HEL
            go_wp2
            go_roundw
            case rel => exact ⟨k + 1, _, by omega, by first | rfl | exact congrArg (Value.int IntKind.i64) (by omega), RN.out⟩
            case measure => simp [intOf]; omega
      · obtain rfl : k = near.length := by omega
        have j0 : ¬ ((lo + near.length : Nat) : Int) < (hi : Int) := by omega
        have x0 := HI.out.bx.c 0 rfl
        have x1 := HI.out.bx.c 1 rfl
        have x2 := HI.out.bx.c 2 rfl
        have x3 := HI.out.bx.c 3 rfl
        have R7 : Blk wr (w.heap.size + 1 + 1) 28 #[.int .i64 0, .int .i64 0, .bool false, .slice none 0 0, .slice none 0 0] := (HI.out.keep _ (by have := HI.out.lt; omega) (by omega)).trans HR7.out
        have HR := Lib.hid R7
        have d0 := R7.c 0 rfl
        have d1 := R7.c 1 rfl
        have d2 := R7.c 2 rfl
        have d3 := R7.c 3 rfl
        have d4 := R7.c 4 rfl
        have f0 := R7.frozen 0
        have f1 := R7.frozen 1
        have f2 := R7.frozen 2
        have f3 := R7.frozen 3
        have f4 := R7.frozen 4
        clear R7 HUS HROW HEL HT7 H4 ehi
        go_wp2
        have K2 := put5 HR.out (.int .i64 n) (.int .i64 N) (.bool false) (.slice A2 near.length c2) (.slice Ap near.length cp)
        refine bodyPost_ret (v := .agg #[.int .i64 n, .int .i64 N, .bool false, .slice A2 near.length c2, .slice Ap near.length cp]) (by simp [results, Tryd.results11, go_sem, K2.c 0 rfl, K2.c 1 rfl, K2.c 2 rfl, K2.c 3 rfl, K2.c 4 rfl]) rfl ?_
        exact outEnd HI.out hlow HP7.out
end Go.Proofs.YtkinnlfjcmhcoaaDoor.W
