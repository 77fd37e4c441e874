/-
  DERIVED. GIVEN WITH THE SEED: THE CARDS: each row of YtfabifpalalhdaaDoorRows.lean that lists a variable, with what it lists TIED to the program's text (the seventh form; the later family's looks); each row that meets fmt, with fmt's text TOLD by the authors' own Lean function (tested against real Go, not proved from fmt's source: count such statements apart). THE CARD IS WHAT COUNTS. Prove the row's statement (the work); the ties are given (YtfabifpalalhdaaDoorTie.lean); close each card by the builder's one call (the guide's Derived/Test/ToyasCard.lean, 'card_holds'). Laid BY PROGRAM, IN A SANDBOX (cutbox-door.mjs). By AI agents, Wed Nov 11 2026. No macro, syntax, notation, axiom, sorry.
-/
import Derived.Test.YtfabifpalalhdaaDoorRows
import GoSem.ClaimSeven
namespace Go.Proofs.YtfabifpalalhdaaDoor
namespace Rows

/-- THE TIED CARD OF 'footbridgelaw03.NamesChecks'. -/
def namesChecksCard : Claim7 := { stood := { row := namesChecksRow, standIns := [], harness := (true, "a86f4a8589f9eb8dc07e8a88bc00cc5f0b3334b67c74df4cf74bed42d4abdeea"), looks := true }, kinds := [], alts := [], laidByText := true, laidKinds := [.data, .data, .data, .sentinel, .sentinel], laidTests := true, laidLooks := .later }
def NamesChecksCardSaid : Prop := Claim7.holds Tryd.pinned (.plain (OpenSpec.ofChange namesChecksSpec)) namesChecksCard

/-- THE TIED CARD OF 'footbridgelaw03.NamesMake'. -/
def namesMakeCard : Claim7 := { stood := { row := namesMakeRow, standIns := [], harness := (true, "a86f4a8589f9eb8dc07e8a88bc00cc5f0b3334b67c74df4cf74bed42d4abdeea"), looks := true }, kinds := [], alts := [], laidByText := true, laidKinds := [.data, .data, .data, .sentinel, .sentinel], laidTests := true, laidLooks := .later }
def NamesMakeCardSaid : Prop := Claim7.holds Tryd.pinned (.plain (OpenSpec.ofChange namesMakeSpec)) namesMakeCard

/-- THE TIED CARD OF 'footbridgelaw03.NamesNoSlash'. -/
def namesNoSlashCard : Claim7 := { stood := { row := namesNoSlashRow, standIns := [], harness := (true, "a86f4a8589f9eb8dc07e8a88bc00cc5f0b3334b67c74df4cf74bed42d4abdeea"), looks := true }, kinds := [], alts := [], laidByText := true, laidKinds := [.data, .data, .data, .sentinel, .sentinel], laidTests := true, laidLooks := .later }
def NamesNoSlashCardSaid : Prop := Claim7.holds Tryd.pinned (.plain (OpenSpec.ofChange namesNoSlashSpec)) namesNoSlashCard

/-- THE SECOND FORM's CARD OF 'footbridgelaw03.NamesChecks'. -/
def namesChecksUptoCard : Claim7 := { stood := { row := namesChecksUptoRow, standIns := [], harness := (true, "a86f4a8589f9eb8dc07e8a88bc00cc5f0b3334b67c74df4cf74bed42d4abdeea"), looks := true }, kinds := [], alts := [], laidByText := true, laidKinds := [.data, .data, .data, .sentinel, .sentinel], laidTests := true, laidLooks := .later }
def NamesChecksUptoCardSaid : Prop := Claim7.holds Tryd.pinned (.plain (OpenSpec.upto namesChecksSpec)) namesChecksUptoCard

/-- THE SECOND FORM's CARD OF 'footbridgelaw03.NamesMake'. -/
def namesMakeUptoCard : Claim7 := { stood := { row := namesMakeUptoRow, standIns := [], harness := (true, "a86f4a8589f9eb8dc07e8a88bc00cc5f0b3334b67c74df4cf74bed42d4abdeea"), looks := true }, kinds := [], alts := [], laidByText := true, laidKinds := [.data, .data, .data, .sentinel, .sentinel], laidTests := true, laidLooks := .later }
def NamesMakeUptoCardSaid : Prop := Claim7.holds Tryd.pinned (.plain (OpenSpec.upto namesMakeSpec)) namesMakeUptoCard

/-- THE SECOND FORM's CARD OF 'footbridgelaw03.NamesNoSlash'. -/
def namesNoSlashUptoCard : Claim7 := { stood := { row := namesNoSlashUptoRow, standIns := [], harness := (true, "a86f4a8589f9eb8dc07e8a88bc00cc5f0b3334b67c74df4cf74bed42d4abdeea"), looks := true }, kinds := [], alts := [], laidByText := true, laidKinds := [.data, .data, .data, .sentinel, .sentinel], laidTests := true, laidLooks := .later }
def NamesNoSlashUptoCardSaid : Prop := Claim7.holds Tryd.pinned (.plain (OpenSpec.upto namesNoSlashSpec)) namesNoSlashUptoCard
end Rows
end Go.Proofs.YtfabifpalalhdaaDoor
