/-
  DERIVED. GIVEN WITH THE SEED: THE CARDS: each row of YtkinnlfjcmhcoaaDoorRows.lean that lists a variable, with what it lists TIED to the program's text (the seventh form; the later family's looks); each row that meets fmt, with fmt's text TOLD by the authors' own Lean function (tested against real Go, not proved from fmt's source: count such statements apart). THE CARD IS WHAT COUNTS. Prove the row's statement (the work); the ties are given (YtkinnlfjcmhcoaaDoorTie.lean); close each card by the builder's one call (the guide's Derived/Test/ToyasCard.lean, 'card_holds'). Laid BY PROGRAM, IN A SANDBOX (cutbox-door.mjs). By AI agents, Wed Nov 11 2026. No macro, syntax, notation, axiom, sorry.
-/
import Derived.Test.YtkinnlfjcmhcoaaDoorRows
import GoSem.ClaimSeven
namespace Go.Proofs.YtkinnlfjcmhcoaaDoor
namespace Rows

/-- THE TIED CARD OF 'footbridgelaw12.ProofBuilds'. -/
def proofBuildsCard : Claim7 := { stood := { row := proofBuildsRow, standIns := [], harness := (true, "c5faea40cb55a1dd51cad0f3d87159b4787c6e71b4b75afb71241e60b6a1e0c4"), looks := false }, kinds := [], alts := [], laidByText := true, laidKinds := [.data], laidTests := true, laidLooks := .later }
def ProofBuildsCardSaid : Prop := Claim7.holds Tryd.pinned (.plain (OpenSpec.ofChange proofBuildsSpec)) proofBuildsCard

/-- THE TIED CARD OF 'footbridgelaw12.ProofLooks'. -/
def proofLooksCard : Claim7 := { stood := { row := proofLooksRow, standIns := [], harness := (true, "c5faea40cb55a1dd51cad0f3d87159b4787c6e71b4b75afb71241e60b6a1e0c4"), looks := false }, kinds := [], alts := [], laidByText := true, laidKinds := [.data], laidTests := true, laidLooks := .later }
def ProofLooksCardSaid : Prop := Claim7.holds Tryd.pinned (.plain (OpenSpec.ofChange proofLooksSpec)) proofLooksCard

/-- THE TIED CARD OF 'footbridgelaw12.ProofBytes'. -/
def proofBytesCard : Claim7 := { stood := { row := proofBytesRow, standIns := [], harness := (true, "c5faea40cb55a1dd51cad0f3d87159b4787c6e71b4b75afb71241e60b6a1e0c4"), looks := false }, kinds := [], alts := [], laidByText := true, laidKinds := [.data], laidTests := true, laidLooks := .later }
def ProofBytesCardSaid : Prop := Claim7.holds Tryd.pinned (.plain (OpenSpec.ofChange proofBytesSpec)) proofBytesCard

/-- THE TIED CARD OF 'footbridgelaw12.ProofComplete'. -/
def proofCompleteCard : Claim7 := { stood := { row := proofCompleteRow, standIns := [], harness := (true, "c5faea40cb55a1dd51cad0f3d87159b4787c6e71b4b75afb71241e60b6a1e0c4"), looks := false }, kinds := [], alts := [], laidByText := true, laidKinds := [.data], laidTests := true, laidLooks := .later }
def ProofCompleteCardSaid : Prop := Claim7.holds Tryd.pinned (.plain (OpenSpec.ofChange proofCompleteSpec)) proofCompleteCard

/-- THE TIED CARD OF 'footbridgelaw12.ProofSound'. -/
def proofSoundCard : Claim7 := { stood := { row := proofSoundRow, standIns := [], harness := (true, "c5faea40cb55a1dd51cad0f3d87159b4787c6e71b4b75afb71241e60b6a1e0c4"), looks := false }, kinds := [], alts := [], laidByText := true, laidKinds := [.data], laidTests := true, laidLooks := .later }
def ProofSoundCardSaid : Prop := Claim7.holds Tryd.pinned (.plain (OpenSpec.ofChange proofSoundSpec)) proofSoundCard

/-- THE SECOND FORM's CARD OF 'footbridgelaw12.ProofBuilds'. -/
def proofBuildsUptoCard : Claim7 := { stood := { row := proofBuildsUptoRow, standIns := [], harness := (true, "c5faea40cb55a1dd51cad0f3d87159b4787c6e71b4b75afb71241e60b6a1e0c4"), looks := false }, kinds := [], alts := [], laidByText := true, laidKinds := [.data], laidTests := true, laidLooks := .later }
def ProofBuildsUptoCardSaid : Prop := Claim7.holds Tryd.pinned (.plain (OpenSpec.upto proofBuildsSpec)) proofBuildsUptoCard

/-- THE SECOND FORM's CARD OF 'footbridgelaw12.ProofLooks'. -/
def proofLooksUptoCard : Claim7 := { stood := { row := proofLooksUptoRow, standIns := [], harness := (true, "c5faea40cb55a1dd51cad0f3d87159b4787c6e71b4b75afb71241e60b6a1e0c4"), looks := false }, kinds := [], alts := [], laidByText := true, laidKinds := [.data], laidTests := true, laidLooks := .later }
def ProofLooksUptoCardSaid : Prop := Claim7.holds Tryd.pinned (.plain (OpenSpec.upto proofLooksSpec)) proofLooksUptoCard

/-- THE SECOND FORM's CARD OF 'footbridgelaw12.ProofBytes'. -/
def proofBytesUptoCard : Claim7 := { stood := { row := proofBytesUptoRow, standIns := [], harness := (true, "c5faea40cb55a1dd51cad0f3d87159b4787c6e71b4b75afb71241e60b6a1e0c4"), looks := false }, kinds := [], alts := [], laidByText := true, laidKinds := [.data], laidTests := true, laidLooks := .later }
def ProofBytesUptoCardSaid : Prop := Claim7.holds Tryd.pinned (.plain (OpenSpec.upto proofBytesSpec)) proofBytesUptoCard

/-- THE SECOND FORM's CARD OF 'footbridgelaw12.ProofComplete'. -/
def proofCompleteUptoCard : Claim7 := { stood := { row := proofCompleteUptoRow, standIns := [], harness := (true, "c5faea40cb55a1dd51cad0f3d87159b4787c6e71b4b75afb71241e60b6a1e0c4"), looks := false }, kinds := [], alts := [], laidByText := true, laidKinds := [.data], laidTests := true, laidLooks := .later }
def ProofCompleteUptoCardSaid : Prop := Claim7.holds Tryd.pinned (.plain (OpenSpec.upto proofCompleteSpec)) proofCompleteUptoCard

/-- THE SECOND FORM's CARD OF 'footbridgelaw12.ProofSound'. -/
def proofSoundUptoCard : Claim7 := { stood := { row := proofSoundUptoRow, standIns := [], harness := (true, "c5faea40cb55a1dd51cad0f3d87159b4787c6e71b4b75afb71241e60b6a1e0c4"), looks := false }, kinds := [], alts := [], laidByText := true, laidKinds := [.data], laidTests := true, laidLooks := .later }
def ProofSoundUptoCardSaid : Prop := Claim7.holds Tryd.pinned (.plain (OpenSpec.upto proofSoundSpec)) proofSoundUptoCard
end Rows
end Go.Proofs.YtkinnlfjcmhcoaaDoor
