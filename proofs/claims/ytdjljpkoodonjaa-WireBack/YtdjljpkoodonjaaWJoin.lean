/-
  wire.Join: what it answers, for every list of strings; nothing that was there has turned.
-/
import Derived.Test.YtdjljpkoodonjaaWEnc
namespace Go.Proofs.Ytdjljpkoodonjaa.W
open Go.RowKit

/-- the slice value v reads as the strings ss, in memory below block B -/
def Txs (w : World) (B : Nat) (v : Value) (ss : List ByteArray) : Prop :=
  ∃ A cap, v = .slice A ss.length cap ∧ ∀ i (h : i < ss.length), ∃ b off, A = some ⟨b, off, none⟩ ∧ b < B ∧ w.cell? ⟨b, off + i, none⟩ = some (.string ss[i])
theorem Txs.below {w w' : World} {B : Nat} {v : Value} {ss : List ByteArray} (h : Txs w B v ss) (hb : Below B w w') : Txs w' B v ss := by
  obtain ⟨A, cap, rfl, hc⟩ := h
  refine ⟨A, cap, rfl, fun i hi => ?_⟩
  obtain ⟨b, off, ha, hlt, hcell⟩ := hc i hi
  exact ⟨b, off, ha, hlt, (hb.cell (p := ⟨b, off + i, none⟩) hlt).trans hcell⟩
theorem Txs.moved {w w' : World} {B : Nat} {v : Value} {ss : List ByteArray} (h : Txs w B v ss) (hb : ∀ g, v.ownBlock = some g → w'.heap[g]? = w.heap[g]?) : Txs w' B v ss := by
  obtain ⟨A, cap, rfl, hc⟩ := h
  refine ⟨A, cap, rfl, fun i hi => ?_⟩
  obtain ⟨b, off, rfl, hlt, hcell⟩ := hc i hi
  exact ⟨b, off, rfl, hlt, (World.cell?_of_block (w := w) (hb b rfl)).trans hcell⟩
theorem Txs.more {w : World} {B B' : Nat} {v : Value} {ss : List ByteArray} (h : Txs w B v ss) (hb : B ≤ B') : Txs w B' v ss := by
  obtain ⟨A, cap, rfl, hc⟩ := h
  refine ⟨A, cap, rfl, fun i hi => ?_⟩
  obtain ⟨b, off, ha, hlt, hcell⟩ := hc i hi
  exact ⟨b, off, ha, by omega, hcell⟩
theorem Txs.nil (w : World) (B cap : Nat) (A : Option Addr) : Txs w B (.slice A 0 cap) [] := ⟨A, cap, rfl, fun i h => absurd h (by simp)⟩

/-- what is laid behind k rounds -/
def jpart (ss : List ByteArray) (k : Nat) : List UInt8 := num ss.length ++ ((ss.take k).map fun s => text s.data.toList).flatten
def Good (ss : List ByteArray) (k : Nat) : Prop := ∀ i (h : i < ss.length), i < k → ss[i].size ≤ 65536
theorem jpart_zero (ss : List ByteArray) : jpart ss 0 = num ss.length := by simp [jpart]
theorem jpart_succ (ss : List ByteArray) (k : Nat) (h : k < ss.length) : jpart ss (k + 1) = jpart ss k ++ text ss[k].data.toList := by
  unfold jpart
  rw [List.take_succ_eq_append_getElem h, List.map_append, List.flatten_append, List.append_assoc]
  simp
theorem text_len (s : ByteArray) (h : s.size ≤ 65536) : (text s.data.toList).length ≤ 65600 := by
  unfold text
  rw [List.length_append, num_len, size_list]
  have := be_len_le s.size 7 (by omega)
  omega
theorem jpart_len (ss : List ByteArray) (hl : ss.length ≤ 256) : ∀ k, k ≤ ss.length → Good ss k → (jpart ss k).length ≤ 8 + 65600 * k := by
  intro k
  induction k with
  | zero =>
    intro _ _
    rw [jpart_zero, num_len]
    have := be_len_le ss.length 7 (by omega)
    omega
  | succ k ih =>
    intro hk hg
    have h1 := ih (by omega) (fun i h hi => hg i h (by omega))
    have h2 := text_len ss[k] (hg k (by omega) (by omega))
    rw [jpart_succ ss k (by omega), List.length_append]
    omega
theorem Good.succ {ss : List ByteArray} {k : Nat} (hg : Good ss k) (h : k < ss.length) (hs : ss[k].size ≤ 65536) : Good ss (k + 1) := by
  intro i hi hlt
  by_cases e : i = k
  · subst e; exact hs
  · exact hg i hi (by omega)
theorem encJoin_bad {ss : List ByteArray} {k : Nat} (h : k < ss.length) (hs : ¬ ss[k].size ≤ 65536) : encJoin ss = ([], 4) := by
  unfold encJoin
  rw [if_neg]
  rintro ⟨_, ha⟩
  exact hs (ha _ (List.getElem_mem h))
theorem encJoin_ok {ss : List ByteArray} (hl : ss.length ≤ 256) (hg : Good ss ss.length) : encJoin ss = (jpart ss ss.length, 0) := by
  unfold encJoin
  rw [if_pos]
  · simp [jpart, join, Function.comp_def]
  · refine ⟨hl, fun s hs => ?_⟩
    obtain ⟨i, hi, rfl⟩ := List.getElem_of_mem hs
    exact hg i hi hi

theorem own_start {B : Nat} {e : TypeId} {v : Value} {ss : List ByteArray} {W0 w : World} (h : Lib.OwnBuf B e v (0 + (num ss.length).length) ([] ++ cells (num ss.length)) W0 w) :
    Lib.OwnBuf B e v (jpart ss 0).length (cells (jpart ss 0)) W0 w := by
  rw [jpart_zero]
  simpa using h
theorem own_step {B k : Nat} {e : TypeId} {v : Value} {ss : List ByteArray} {W0 w : World} (hk : k < ss.length)
    (h : Lib.OwnBuf B e v ((jpart ss k).length + (text ss[k].data.toList).length) (cells (jpart ss k) ++ cells (text ss[k].data.toList)) W0 w) :
    Lib.OwnBuf B e v (jpart ss (k + 1)).length (cells (jpart ss (k + 1))) W0 w := by
  rw [jpart_succ ss k hk, List.length_append, cells_append]
  exact h

set_option maxHeartbeats 1000000 in
theorem wJoin (v : Value) (ss : List ByteArray) (w : World) (hv : Txs w w.heap.size v ss) (hm : ss.length ≤ 9223372036854775807) :
    Calls Try.prog 12 #[v] w fun e w' => e = .returned (retSE (encJoin ss)) ∧ Below w.heap.size w w' := by
  obtain ⟨A, cap, rfl, hc⟩ := hv
  have HCell := Lib.hid hc
  clear hc
  by_cases hl : ss.length ≤ 256
  · have HA := Lib.hid (appendNum w.heap.size (.slice none 0 0) 0 [] ss.length w w (OwnBuf_nil w _) (by omega) (by omega))
    go_enter Try.func12, Try.ntmps12
    go_wp2_with fail
    refine HA.out.mono ?_
    rintro e w1 ⟨v1, rfl, h2⟩
    have h3 := Lib.hid (own_start h2)
    clear h2
    go_wp2
    go_loopw [4, 15] (fun v i wr => ∃ k : Nat, k ≤ ss.length ∧ i = .int .i64 k ∧ Good ss k ∧ Lib.OwnBuf w.heap.size 5 v (jpart ss k).length (cells (jpart ss k)) w wr) (fun _ i _ => ss.length - (intOf i).toNat)
    case atStart => exact ⟨0, Nat.zero_le _, rfl, fun i h hi => absurd hi (by omega), h3.out⟩
    case round =>
      obtain ⟨k, hk, rfl, hg, hown⟩ := hrel
      by_cases hlt : k < ss.length
      · obtain ⟨b, off, rfl, hb, hcw⟩ := HCell.out k hlt
        have hcell : wr.cell? ⟨b, off + k, none⟩ = some (.string ss[k]) := (hown.2.1.cell (p := ⟨b, off + k, none⟩) hb).trans hcw
        clear hcw
        by_cases hs : ss[k].size ≤ 65536
        · have hjl := jpart_len ss hl k hk hg
          have HT := Lib.hid (appendText w.heap.size u4 _ _ ss[k] w wr hown (by omega) hs)
          go_wp2_with fail
          refine HT.out.mono ?_
          rintro e w2 ⟨v2, rfl, h4⟩
          have R := own_step hlt h4
          clear h4 hown hcell
          go_wp2
          go_roundw
          case rel => exact ⟨k + 1, by omega, by go_num, hg.succ hlt hs, R⟩
          case measure => simp [intOf]; omega
        · have HE := Lib.hid (encJoin_bad hlt hs)
          go_wp2
          go_ret2
          exact ⟨by rw [HE.out]; rfl, hown.2.1⟩
      · obtain rfl : k = ss.length := by omega
        have HE := Lib.hid (encJoin_ok hl hg)
        have hs := run_string w.heap.size u4 _ w wr hown
        go_wp2
        go_ret2
        exact ⟨by rw [HE.out]; rfl, hown.2.1⟩
  · have HE := Lib.hid (show encJoin ss = ([], 4) by simp [encJoin, hl])
    go_enter Try.func12, Try.ntmps12
    go_wp2
    go_ret2
    exact ⟨by rw [HE.out]; rfl, Below.refl _ _⟩
end Go.Proofs.Ytdjljpkoodonjaa.W
