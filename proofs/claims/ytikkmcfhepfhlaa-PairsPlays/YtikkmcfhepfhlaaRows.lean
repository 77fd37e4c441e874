/-
  No cell of these rows narrows 'for every input' (looked for: loops, veiled, ifaces, maps, wideKeys, modest, calm, conditions, laid).
  DERIVED. THE GIVEN ROWS OF THIS SEAT. 3 by the template 'for every input the law returns true; each argument reads behind the call as it read before'; 0 by the template 'total and deterministic' (their statements: YtikkmcfhepfhlaaTotals.lean).
  GIVEN WITH THE SEED: the statements are not yours to turn. If you find one false, say at which input.
  Laid BY PROGRAM, IN A SANDBOX (cutbox-rows.mjs): the forced cells as the released guide's own fill.sh prints them over the translation a3a61bde7305bab0… (all of the seat's roots in one cut). By AI agents, Wed Nov 11 2026. No macro, syntax, notation, axiom, sorry.
-/
import Derived.Test.YtikkmcfhepfhlaaChecked
import GoSem.Claim
import GoSem.ClaimJoined
import GoSem.ClaimMapViews
import Derived.JoinedTies
import Derived.KernelRfl
namespace Go.Proofs.Ytikkmcfhepfhlaa
/- THE CELL 'sum', in the pinned program and in every row, IS THE sha256 OF THE DUMP (.gsa) THAT YtikkmcfhepfhlaaProg.lean LOADS. Nothing in Lean hashes anything: it is a label: what it is worth is what the hold of that sum in a sandbox is worth. -/
noncomputable def Try.pinned : Pinned := { name := "ytikkmcfhepfhlaa", sum := "a3a61bde7305bab029fbca1df82d254165aae49e1ee7aeb2e0207bc04d6c4ac3", checked := Try.checked }
namespace Rows
def none {H : Type} : Left H := { results := [], args := [] }

/-- 'footbridgelaw09.PairsPlays': WHATEVER THE INPUT: true; the input reads as it did. -/
def pairsPlaysSpec : ChangeSpec := { name := "pairsPlays", fn := fun _ => fun
  | [d] => { results := [.lit (.bool true)], args := [d] }
  | _ => none }
def pairsPlaysRow : OpenClaim := { program := "ytikkmcfhepfhlaa", sum := "a3a61bde7305bab029fbca1df82d254165aae49e1ee7aeb2e0207bc04d6c4ac3", func := "footbridge/footbridgelaw09.PairsPlays", spec := "pairsPlays", inPlace := ["internal/bytealg.abigen_runtime_cmpstring"], unfollowed := true, recurses := true, apart := false }
def PairsPlaysSaid : Prop := pairsPlaysRow.holds Try.pinned (OpenSpec.ofChange pairsPlaysSpec)

/-- ITS FALSE NEIGHBOUR: 'it returns false'. Refute it at one input. -/
def pairsPlaysWrong : ChangeSpec := { name := "pairsPlays", fn := fun _ => fun
  | [d] => { results := [.lit (.bool false)], args := [d] }
  | _ => none }
def PairsPlaysWrongFalsely : Prop := pairsPlaysRow.holds Try.pinned (OpenSpec.ofChange pairsPlaysWrong)

/-- 'footbridgelaw09.PairsCopies': WHATEVER THE INPUT: true; the input reads as it did. -/
def pairsCopiesSpec : ChangeSpec := { name := "pairsCopies", fn := fun _ => fun
  | [d1, d2] => { results := [.lit (.bool true)], args := [d1, d2] }
  | _ => none }
def pairsCopiesRow : OpenClaim := { program := "ytikkmcfhepfhlaa", sum := "a3a61bde7305bab029fbca1df82d254165aae49e1ee7aeb2e0207bc04d6c4ac3", func := "footbridge/footbridgelaw09.PairsCopies", spec := "pairsCopies", inPlace := ["internal/bytealg.abigen_runtime_cmpstring"], unfollowed := true, recurses := true, apart := false }
def PairsCopiesSaid : Prop := pairsCopiesRow.holds Try.pinned (OpenSpec.ofChange pairsCopiesSpec)

/-- ITS FALSE NEIGHBOUR: 'it returns false'. Refute it at one input. -/
def pairsCopiesWrong : ChangeSpec := { name := "pairsCopies", fn := fun _ => fun
  | [d1, d2] => { results := [.lit (.bool false)], args := [d1, d2] }
  | _ => none }
def PairsCopiesWrongFalsely : Prop := pairsCopiesRow.holds Try.pinned (OpenSpec.ofChange pairsCopiesWrong)

/-- 'footbridgelaw09.PairsNone': WHATEVER THE INPUT: true; the input reads as it did. -/
def pairsNoneSpec : ChangeSpec := { name := "pairsNone", fn := fun _ => fun
  | [d] => { results := [.lit (.bool true)], args := [d] }
  | _ => none }
def pairsNoneRow : OpenClaim := { program := "ytikkmcfhepfhlaa", sum := "a3a61bde7305bab029fbca1df82d254165aae49e1ee7aeb2e0207bc04d6c4ac3", func := "footbridge/footbridgelaw09.PairsNone", spec := "pairsNone", inPlace := ["internal/bytealg.abigen_runtime_cmpstring"], unfollowed := true, recurses := true, apart := false }
def PairsNoneSaid : Prop := pairsNoneRow.holds Try.pinned (OpenSpec.ofChange pairsNoneSpec)

/-- ITS FALSE NEIGHBOUR: 'it returns false'. Refute it at one input. -/
def pairsNoneWrong : ChangeSpec := { name := "pairsNone", fn := fun _ => fun
  | [d] => { results := [.lit (.bool false)], args := [d] }
  | _ => none }
def PairsNoneWrongFalsely : Prop := pairsNoneRow.holds Try.pinned (OpenSpec.ofChange pairsNoneWrong)

/- THE SECOND FORM. 'bulk': how many values and letters a reading holds, each counted each time it is reached (what is shared counts as often as it is met; a slice's spare places count too). A statement '..UptoSaid' is the law's where the arguments, and the package variables that the reading takes, are together of bulk at most 1048576: NARROWER than '..Said'. Prove '..Said' where nothing that the law and all that it calls make is longer than what came in: it says more and counts as full. Else prove '..UptoSaid'. A law counts once. -/
mutual
def uptoBulk {H : Type} : DataW H → Nat
  | .lit (.string bytes) => bytes.length + 1
  | .lit _ => 1
  | .nil => 1
  | .ptr d => uptoBulk d + 1
  | .slice elems spare => uptoBulkAll elems + uptoBulkAll spare + 1
  | .agg parts => uptoBulkAll parts + 1
  | .iface _ d => uptoBulk d + 1
  | .map entries => uptoBulkEntries entries + 1
  | .held _ => 1
def uptoBulkAll {H : Type} : List (DataW H) → Nat
  | [] => 0
  | d :: r => uptoBulk d + uptoBulkAll r
def uptoBulkEntries {H : Type} : List (Lit × DataW H) → Nat
  | [] => 0
  | x :: r => uptoBulkEntry x + uptoBulkEntries r
def uptoBulkEntry {H : Type} : Lit × DataW H → Nat
  | (.string bytes, d) => bytes.length + uptoBulk d + 1
  | (_, d) => uptoBulk d + 1
 end
def uptoSmall : (H : Type) → List (DataW H) → Bool := fun _ ds => decide (uptoBulkAll ds ≤ 1048576)
def OpenSpec.upto (s : _root_.Go.ChangeSpec) : _root_.Go.OpenSpec := { _root_.Go.OpenSpec.ofChange s with cond := some uptoSmall }

/-- 'footbridgelaw09.PairsPlays', WHERE WHAT IT READS IS OF BULK AT MOST 1048576: true; the input reads as it did. -/
def pairsPlaysUptoRow : OpenClaim := { program := "ytikkmcfhepfhlaa", sum := "a3a61bde7305bab029fbca1df82d254165aae49e1ee7aeb2e0207bc04d6c4ac3", func := "footbridge/footbridgelaw09.PairsPlays", spec := "pairsPlays", inPlace := ["internal/bytealg.abigen_runtime_cmpstring"], unfollowed := true, recurses := true, apart := false, narrowed := true }
def PairsPlaysUptoSaid : Prop := pairsPlaysUptoRow.holds Try.pinned (OpenSpec.upto pairsPlaysSpec)

/-- 'footbridgelaw09.PairsCopies', WHERE WHAT IT READS IS OF BULK AT MOST 1048576: true; the input reads as it did. -/
def pairsCopiesUptoRow : OpenClaim := { program := "ytikkmcfhepfhlaa", sum := "a3a61bde7305bab029fbca1df82d254165aae49e1ee7aeb2e0207bc04d6c4ac3", func := "footbridge/footbridgelaw09.PairsCopies", spec := "pairsCopies", inPlace := ["internal/bytealg.abigen_runtime_cmpstring"], unfollowed := true, recurses := true, apart := false, narrowed := true }
def PairsCopiesUptoSaid : Prop := pairsCopiesUptoRow.holds Try.pinned (OpenSpec.upto pairsCopiesSpec)

/-- 'footbridgelaw09.PairsNone', WHERE WHAT IT READS IS OF BULK AT MOST 1048576: true; the input reads as it did. -/
def pairsNoneUptoRow : OpenClaim := { program := "ytikkmcfhepfhlaa", sum := "a3a61bde7305bab029fbca1df82d254165aae49e1ee7aeb2e0207bc04d6c4ac3", func := "footbridge/footbridgelaw09.PairsNone", spec := "pairsNone", inPlace := ["internal/bytealg.abigen_runtime_cmpstring"], unfollowed := true, recurses := true, apart := false, narrowed := true }
def PairsNoneUptoSaid : Prop := pairsNoneUptoRow.holds Try.pinned (OpenSpec.upto pairsNoneSpec)

end Rows
end Go.Proofs.Ytikkmcfhepfhlaa
