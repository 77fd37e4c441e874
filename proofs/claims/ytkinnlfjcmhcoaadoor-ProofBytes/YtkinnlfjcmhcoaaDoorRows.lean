/-
  NARROWER THAN 'FOR EVERY INPUT', by the rows' own cells (each row's printed sentence says how): ProofBuilds: laid · ProofLooks: laid · ProofBytes: laid · ProofComplete: laid · ProofSound: laid.
  DERIVED. THE GIVEN ROWS OF THIS SEAT. 5 by the template 'for every input the law returns true; each argument reads behind the call as it read before'; 0 by the template 'total and deterministic' (their statements: YtkinnlfjcmhcoaaDoorTotals.lean).
  GIVEN WITH THE SEED: the statements are not yours to turn. If you find one false, say at which input.
  Laid BY PROGRAM, IN A SANDBOX (cutbox-rows.mjs): the forced cells as the released guide's own fill.sh prints them over the translation ddb2b53997389b1a… (all of the seat's roots in one cut). By AI agents, Wed Nov 11 2026. No macro, syntax, notation, axiom, sorry.
-/
import Derived.Test.YtkinnlfjcmhcoaaDoorChecked
import GoSem.Claim
import GoSem.ClaimJoined
import GoSem.ClaimMapViews
import Derived.JoinedTies
import Derived.KernelRfl
namespace Go.Proofs.YtkinnlfjcmhcoaaDoor
/- THE CELL 'sum', in the pinned program and in every row, IS THE sha256 OF THE DUMP (.gsa) THAT YtkinnlfjcmhcoaaDoorProg.lean LOADS. Nothing in Lean hashes anything: it is a label: what it is worth is what the hold of that sum in a sandbox is worth. -/
noncomputable def Tryd.pinned : Pinned := { name := "ytkinnlfjcmhcoaadoor", sum := "ddb2b53997389b1af814dbb302978355f37af38ef05c0ff7c0b6052c6cff1034", checked := Tryd.checked }
namespace Rows
def none {H : Type} : Left H := { results := [], args := [] }

/- WHAT THE LISTED PACKAGE-LEVEL VARIABLES READ AS WHEN THE CALL BEGINS. Each datum BY PROGRAM (the guide's laid-datum.mjs) off the statement by which the dump's own 'gosem.cut.vars' lays the variable. In a bare row this is a premise. The card (YtkinnlfjcmhcoaaDoorCards.lean) ties it to the program's text. -/
def laid_footbridge_sha_roots {H : Type} : DataW H := .agg [.lit (.int .u32 1116352408), .lit (.int .u32 1899447441), .lit (.int .u32 3049323471), .lit (.int .u32 3921009573), .lit (.int .u32 961987163), .lit (.int .u32 1508970993), .lit (.int .u32 2453635748), .lit (.int .u32 2870763221), .lit (.int .u32 3624381080), .lit (.int .u32 310598401), .lit (.int .u32 607225278), .lit (.int .u32 1426881987), .lit (.int .u32 1925078388), .lit (.int .u32 2162078206), .lit (.int .u32 2614888103), .lit (.int .u32 3248222580), .lit (.int .u32 3835390401), .lit (.int .u32 4022224774), .lit (.int .u32 264347078), .lit (.int .u32 604807628), .lit (.int .u32 770255983), .lit (.int .u32 1249150122), .lit (.int .u32 1555081692), .lit (.int .u32 1996064986), .lit (.int .u32 2554220882), .lit (.int .u32 2821834349), .lit (.int .u32 2952996808), .lit (.int .u32 3210313671), .lit (.int .u32 3336571891), .lit (.int .u32 3584528711), .lit (.int .u32 113926993), .lit (.int .u32 338241895), .lit (.int .u32 666307205), .lit (.int .u32 773529912), .lit (.int .u32 1294757372), .lit (.int .u32 1396182291), .lit (.int .u32 1695183700), .lit (.int .u32 1986661051), .lit (.int .u32 2177026350), .lit (.int .u32 2456956037), .lit (.int .u32 2730485921), .lit (.int .u32 2820302411), .lit (.int .u32 3259730800), .lit (.int .u32 3345764771), .lit (.int .u32 3516065817), .lit (.int .u32 3600352804), .lit (.int .u32 4094571909), .lit (.int .u32 275423344), .lit (.int .u32 430227734), .lit (.int .u32 506948616), .lit (.int .u32 659060556), .lit (.int .u32 883997877), .lit (.int .u32 958139571), .lit (.int .u32 1322822218), .lit (.int .u32 1537002063), .lit (.int .u32 1747873779), .lit (.int .u32 1955562222), .lit (.int .u32 2024104815), .lit (.int .u32 2227730452), .lit (.int .u32 2361852424), .lit (.int .u32 2428436474), .lit (.int .u32 2756734187), .lit (.int .u32 3204031479), .lit (.int .u32 3329325298)]

/-- 'footbridgelaw12.ProofBuilds': WHATEVER THE INPUT: true; the input reads as it did. -/
def proofBuildsSpec : ChangeSpec := { name := "proofBuilds", fn := fun _ => fun
  | [d1, d2] => { results := [.lit (.bool true)], args := [d1, d2] }
  | _ => none }
def proofBuildsRow : OpenClaim := { program := "ytkinnlfjcmhcoaadoor", sum := "ddb2b53997389b1af814dbb302978355f37af38ef05c0ff7c0b6052c6cff1034", func := "footbridge/footbridgelaw12.ProofBuilds", spec := "proofBuilds", inPlace := ["internal/abi.NoEscape"], unfollowed := true, recurses := true, named := ["footbridge/sha.roots"], apart := false, laid := [("footbridge/sha.roots", laid_footbridge_sha_roots)] }
def ProofBuildsSaid : Prop := proofBuildsRow.holds Tryd.pinned (OpenSpec.ofChange proofBuildsSpec)

/-- ITS FALSE NEIGHBOUR: 'it returns false'. Refute it at one input. -/
def proofBuildsWrong : ChangeSpec := { name := "proofBuilds", fn := fun _ => fun
  | [d1, d2] => { results := [.lit (.bool false)], args := [d1, d2] }
  | _ => none }
def ProofBuildsWrongFalsely : Prop := proofBuildsRow.holds Tryd.pinned (OpenSpec.ofChange proofBuildsWrong)

/-- 'footbridgelaw12.ProofLooks': WHATEVER THE INPUT: true; the input reads as it did. -/
def proofLooksSpec : ChangeSpec := { name := "proofLooks", fn := fun _ => fun
  | [d1, d2, d3] => { results := [.lit (.bool true)], args := [d1, d2, d3] }
  | _ => none }
def proofLooksRow : OpenClaim := { program := "ytkinnlfjcmhcoaadoor", sum := "ddb2b53997389b1af814dbb302978355f37af38ef05c0ff7c0b6052c6cff1034", func := "footbridge/footbridgelaw12.ProofLooks", spec := "proofLooks", inPlace := ["internal/abi.NoEscape"], unfollowed := true, recurses := true, named := ["footbridge/sha.roots"], apart := false, laid := [("footbridge/sha.roots", laid_footbridge_sha_roots)] }
def ProofLooksSaid : Prop := proofLooksRow.holds Tryd.pinned (OpenSpec.ofChange proofLooksSpec)

/-- ITS FALSE NEIGHBOUR: 'it returns false'. Refute it at one input. -/
def proofLooksWrong : ChangeSpec := { name := "proofLooks", fn := fun _ => fun
  | [d1, d2, d3] => { results := [.lit (.bool false)], args := [d1, d2, d3] }
  | _ => none }
def ProofLooksWrongFalsely : Prop := proofLooksRow.holds Tryd.pinned (OpenSpec.ofChange proofLooksWrong)

/-- 'footbridgelaw12.ProofBytes': WHATEVER THE INPUT: true; the input reads as it did. -/
def proofBytesSpec : ChangeSpec := { name := "proofBytes", fn := fun _ => fun
  | [d1, d2] => { results := [.lit (.bool true)], args := [d1, d2] }
  | _ => none }
def proofBytesRow : OpenClaim := { program := "ytkinnlfjcmhcoaadoor", sum := "ddb2b53997389b1af814dbb302978355f37af38ef05c0ff7c0b6052c6cff1034", func := "footbridge/footbridgelaw12.ProofBytes", spec := "proofBytes", inPlace := ["internal/abi.NoEscape"], unfollowed := true, recurses := true, named := ["footbridge/sha.roots"], apart := false, laid := [("footbridge/sha.roots", laid_footbridge_sha_roots)] }
def ProofBytesSaid : Prop := proofBytesRow.holds Tryd.pinned (OpenSpec.ofChange proofBytesSpec)

/-- ITS FALSE NEIGHBOUR: 'it returns false'. Refute it at one input. -/
def proofBytesWrong : ChangeSpec := { name := "proofBytes", fn := fun _ => fun
  | [d1, d2] => { results := [.lit (.bool false)], args := [d1, d2] }
  | _ => none }
def ProofBytesWrongFalsely : Prop := proofBytesRow.holds Tryd.pinned (OpenSpec.ofChange proofBytesWrong)

/-- 'footbridgelaw12.ProofComplete': WHATEVER THE INPUT: true; the input reads as it did. -/
def proofCompleteSpec : ChangeSpec := { name := "proofComplete", fn := fun _ => fun
  | [d1, d2] => { results := [.lit (.bool true)], args := [d1, d2] }
  | _ => none }
def proofCompleteRow : OpenClaim := { program := "ytkinnlfjcmhcoaadoor", sum := "ddb2b53997389b1af814dbb302978355f37af38ef05c0ff7c0b6052c6cff1034", func := "footbridge/footbridgelaw12.ProofComplete", spec := "proofComplete", inPlace := ["internal/abi.NoEscape"], unfollowed := true, recurses := true, named := ["footbridge/sha.roots"], apart := false, laid := [("footbridge/sha.roots", laid_footbridge_sha_roots)] }
def ProofCompleteSaid : Prop := proofCompleteRow.holds Tryd.pinned (OpenSpec.ofChange proofCompleteSpec)

/-- ITS FALSE NEIGHBOUR: 'it returns false'. Refute it at one input. -/
def proofCompleteWrong : ChangeSpec := { name := "proofComplete", fn := fun _ => fun
  | [d1, d2] => { results := [.lit (.bool false)], args := [d1, d2] }
  | _ => none }
def ProofCompleteWrongFalsely : Prop := proofCompleteRow.holds Tryd.pinned (OpenSpec.ofChange proofCompleteWrong)

/-- 'footbridgelaw12.ProofSound': WHATEVER THE INPUT: true; the input reads as it did. -/
def proofSoundSpec : ChangeSpec := { name := "proofSound", fn := fun _ => fun
  | [d1, d2, d3] => { results := [.lit (.bool true)], args := [d1, d2, d3] }
  | _ => none }
def proofSoundRow : OpenClaim := { program := "ytkinnlfjcmhcoaadoor", sum := "ddb2b53997389b1af814dbb302978355f37af38ef05c0ff7c0b6052c6cff1034", func := "footbridge/footbridgelaw12.ProofSound", spec := "proofSound", inPlace := ["internal/abi.NoEscape"], unfollowed := true, recurses := true, named := ["footbridge/sha.roots"], apart := false, laid := [("footbridge/sha.roots", laid_footbridge_sha_roots)] }
def ProofSoundSaid : Prop := proofSoundRow.holds Tryd.pinned (OpenSpec.ofChange proofSoundSpec)

/-- ITS FALSE NEIGHBOUR: 'it returns false'. Refute it at one input. -/
def proofSoundWrong : ChangeSpec := { name := "proofSound", fn := fun _ => fun
  | [d1, d2, d3] => { results := [.lit (.bool false)], args := [d1, d2, d3] }
  | _ => none }
def ProofSoundWrongFalsely : Prop := proofSoundRow.holds Tryd.pinned (OpenSpec.ofChange proofSoundWrong)

/- THE SECOND FORM. 'bulk': how many values and letters a reading holds, each counted each time it is reached (what is shared counts as often as it is met; a slice's spare places count too). A statement '..UptoSaid' is the law's where the arguments, and the package variables that the reading takes, are together of bulk at most 1048576: NARROWER than '..Said'. Prove '..Said' where nothing that the law and all that it calls make is longer than what came in: it says more and counts as full. Else prove '..UptoSaid'. A law counts once. -/
mutual
def uptoBulk {H : Type} : DataW H → Nat
  | .lit (.string bytes) => bytes.length + 1
  | .lit _ => 1
  | .nil => 1
  | .ptr d => uptoBulk d + 1
  | .slice elems spare => uptoBulkAll elems + uptoBulkAll spare + 1
  | .agg parts => uptoBulkAll parts + 1
  | .iface _ d => uptoBulk d + 1
  | .map entries => uptoBulkEntries entries + 1
  | .held _ => 1
def uptoBulkAll {H : Type} : List (DataW H) → Nat
  | [] => 0
  | d :: r => uptoBulk d + uptoBulkAll r
def uptoBulkEntries {H : Type} : List (Lit × DataW H) → Nat
  | [] => 0
  | x :: r => uptoBulkEntry x + uptoBulkEntries r
def uptoBulkEntry {H : Type} : Lit × DataW H → Nat
  | (.string bytes, d) => bytes.length + uptoBulk d + 1
  | (_, d) => uptoBulk d + 1
 end
def uptoSmall : (H : Type) → List (DataW H) → Bool := fun _ ds => decide (uptoBulkAll ds ≤ 1048576)
def OpenSpec.upto (s : _root_.Go.ChangeSpec) : _root_.Go.OpenSpec := { _root_.Go.OpenSpec.ofChange s with cond := some uptoSmall }

/-- 'footbridgelaw12.ProofBuilds', WHERE WHAT IT READS IS OF BULK AT MOST 1048576: true; the input reads as it did. -/
def proofBuildsUptoRow : OpenClaim := { program := "ytkinnlfjcmhcoaadoor", sum := "ddb2b53997389b1af814dbb302978355f37af38ef05c0ff7c0b6052c6cff1034", func := "footbridge/footbridgelaw12.ProofBuilds", spec := "proofBuilds", inPlace := ["internal/abi.NoEscape"], unfollowed := true, recurses := true, named := ["footbridge/sha.roots"], apart := false, laid := [("footbridge/sha.roots", laid_footbridge_sha_roots)], narrowed := true }
def ProofBuildsUptoSaid : Prop := proofBuildsUptoRow.holds Tryd.pinned (OpenSpec.upto proofBuildsSpec)

/-- 'footbridgelaw12.ProofLooks', WHERE WHAT IT READS IS OF BULK AT MOST 1048576: true; the input reads as it did. -/
def proofLooksUptoRow : OpenClaim := { program := "ytkinnlfjcmhcoaadoor", sum := "ddb2b53997389b1af814dbb302978355f37af38ef05c0ff7c0b6052c6cff1034", func := "footbridge/footbridgelaw12.ProofLooks", spec := "proofLooks", inPlace := ["internal/abi.NoEscape"], unfollowed := true, recurses := true, named := ["footbridge/sha.roots"], apart := false, laid := [("footbridge/sha.roots", laid_footbridge_sha_roots)], narrowed := true }
def ProofLooksUptoSaid : Prop := proofLooksUptoRow.holds Tryd.pinned (OpenSpec.upto proofLooksSpec)

/-- 'footbridgelaw12.ProofBytes', WHERE WHAT IT READS IS OF BULK AT MOST 1048576: true; the input reads as it did. -/
def proofBytesUptoRow : OpenClaim := { program := "ytkinnlfjcmhcoaadoor", sum := "ddb2b53997389b1af814dbb302978355f37af38ef05c0ff7c0b6052c6cff1034", func := "footbridge/footbridgelaw12.ProofBytes", spec := "proofBytes", inPlace := ["internal/abi.NoEscape"], unfollowed := true, recurses := true, named := ["footbridge/sha.roots"], apart := false, laid := [("footbridge/sha.roots", laid_footbridge_sha_roots)], narrowed := true }
def ProofBytesUptoSaid : Prop := proofBytesUptoRow.holds Tryd.pinned (OpenSpec.upto proofBytesSpec)

/-- 'footbridgelaw12.ProofComplete', WHERE WHAT IT READS IS OF BULK AT MOST 1048576: true; the input reads as it did. -/
def proofCompleteUptoRow : OpenClaim := { program := "ytkinnlfjcmhcoaadoor", sum := "ddb2b53997389b1af814dbb302978355f37af38ef05c0ff7c0b6052c6cff1034", func := "footbridge/footbridgelaw12.ProofComplete", spec := "proofComplete", inPlace := ["internal/abi.NoEscape"], unfollowed := true, recurses := true, named := ["footbridge/sha.roots"], apart := false, laid := [("footbridge/sha.roots", laid_footbridge_sha_roots)], narrowed := true }
def ProofCompleteUptoSaid : Prop := proofCompleteUptoRow.holds Tryd.pinned (OpenSpec.upto proofCompleteSpec)

/-- 'footbridgelaw12.ProofSound', WHERE WHAT IT READS IS OF BULK AT MOST 1048576: true; the input reads as it did. -/
def proofSoundUptoRow : OpenClaim := { program := "ytkinnlfjcmhcoaadoor", sum := "ddb2b53997389b1af814dbb302978355f37af38ef05c0ff7c0b6052c6cff1034", func := "footbridge/footbridgelaw12.ProofSound", spec := "proofSound", inPlace := ["internal/abi.NoEscape"], unfollowed := true, recurses := true, named := ["footbridge/sha.roots"], apart := false, laid := [("footbridge/sha.roots", laid_footbridge_sha_roots)], narrowed := true }
def ProofSoundUptoSaid : Prop := proofSoundUptoRow.holds Tryd.pinned (OpenSpec.upto proofSoundSpec)

end Rows
end Go.Proofs.YtkinnlfjcmhcoaaDoor
