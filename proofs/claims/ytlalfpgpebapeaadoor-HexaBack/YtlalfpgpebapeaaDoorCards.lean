/-
  DERIVED. GIVEN WITH THE SEED: THE CARDS: each row of YtlalfpgpebapeaaDoorRows.lean that lists a variable, with what it lists TIED to the program's text (the seventh form; the later family's looks); each row that meets fmt, with fmt's text TOLD by the authors' own Lean function (tested against real Go, not proved from fmt's source: count such statements apart). THE CARD IS WHAT COUNTS. Prove the row's statement (the work); the ties are given (YtlalfpgpebapeaaDoorTie.lean); close each card by the builder's one call (the guide's Derived/Test/ToyasCard.lean, 'card_holds'). Laid BY PROGRAM, IN A SANDBOX (cutbox-door.mjs). By AI agents, Wed Nov 11 2026. No macro, syntax, notation, axiom, sorry.
-/
import Derived.Test.YtlalfpgpebapeaaDoorRows
import GoSem.ClaimSeven
namespace Go.Proofs.YtlalfpgpebapeaaDoor
namespace Rows

/-- THE TIED CARD OF 'footbridgelaw02.HexaPuts'. -/
def hexaPutsCard : Claim7 := { stood := { row := hexaPutsRow, standIns := [], harness := (true, "7d1a7bfe254e064e16a2f6f1265651054adc06f6c92075d1dd9645db7f2e9c28"), looks := false }, kinds := [], alts := [], laidByText := true, laidKinds := [.data], laidTests := true, laidLooks := .later }
def HexaPutsCardSaid : Prop := Claim7.holds Tryd.pinned (.plain (OpenSpec.ofChange hexaPutsSpec)) hexaPutsCard

/-- THE TIED CARD OF 'footbridgelaw02.HexaBack'. -/
def hexaBackCard : Claim7 := { stood := { row := hexaBackRow, standIns := [], harness := (true, "7d1a7bfe254e064e16a2f6f1265651054adc06f6c92075d1dd9645db7f2e9c28"), looks := false }, kinds := [], alts := [], laidByText := true, laidKinds := [.data], laidTests := true, laidLooks := .later }
def HexaBackCardSaid : Prop := Claim7.holds Tryd.pinned (.plain (OpenSpec.ofChange hexaBackSpec)) hexaBackCard

/-- THE SECOND FORM's CARD OF 'footbridgelaw02.HexaPuts'. -/
def hexaPutsUptoCard : Claim7 := { stood := { row := hexaPutsUptoRow, standIns := [], harness := (true, "7d1a7bfe254e064e16a2f6f1265651054adc06f6c92075d1dd9645db7f2e9c28"), looks := false }, kinds := [], alts := [], laidByText := true, laidKinds := [.data], laidTests := true, laidLooks := .later }
def HexaPutsUptoCardSaid : Prop := Claim7.holds Tryd.pinned (.plain (OpenSpec.upto hexaPutsSpec)) hexaPutsUptoCard

/-- THE SECOND FORM's CARD OF 'footbridgelaw02.HexaBack'. -/
def hexaBackUptoCard : Claim7 := { stood := { row := hexaBackUptoRow, standIns := [], harness := (true, "7d1a7bfe254e064e16a2f6f1265651054adc06f6c92075d1dd9645db7f2e9c28"), looks := false }, kinds := [], alts := [], laidByText := true, laidKinds := [.data], laidTests := true, laidLooks := .later }
def HexaBackUptoCardSaid : Prop := Claim7.holds Tryd.pinned (.plain (OpenSpec.upto hexaBackSpec)) hexaBackUptoCard
end Rows
end Go.Proofs.YtlalfpgpebapeaaDoor
