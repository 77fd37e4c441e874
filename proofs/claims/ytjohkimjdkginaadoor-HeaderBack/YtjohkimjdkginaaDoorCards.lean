/-
  DERIVED. GIVEN WITH THE SEED: THE CARDS: each row of YtjohkimjdkginaaDoorRows.lean that lists a variable, with what it lists TIED to the program's text (the seventh form; the later family's looks); each row that meets fmt, with fmt's text TOLD by the authors' own Lean function (tested against real Go, not proved from fmt's source: count such statements apart). THE CARD IS WHAT COUNTS. Prove the row's statement (the work); the ties are given (YtjohkimjdkginaaDoorTie.lean); close each card by the builder's one call (the guide's Derived/Test/ToyasCard.lean, 'card_holds'). Laid BY PROGRAM, IN A SANDBOX (cutbox-door.mjs). By AI agents, Wed Nov 11 2026. No macro, syntax, notation, axiom, sorry.
-/
import Derived.Test.YtjohkimjdkginaaDoorRows
import GoSem.ClaimSeven
namespace Go.Proofs.YtjohkimjdkginaaDoor
namespace Rows

/-- THE TIED CARD OF 'footbridgelaw13.HeaderBytes'. -/
def headerBytesCard : Claim7 := { stood := { row := headerBytesRow, standIns := [], harness := (true, "26ee621970d37e0cc444f764c8377e39de8eeefd39e53426065515f2573a7ad7"), looks := false }, kinds := [], alts := [], laidByText := true, laidKinds := [.data], laidTests := true, laidLooks := .later }
def HeaderBytesCardSaid : Prop := Claim7.holds Tryd.pinned (.plain (OpenSpec.ofChange headerBytesSpec)) headerBytesCard

/-- THE TIED CARD OF 'footbridgelaw13.HeaderSigns'. -/
def headerSignsCard : Claim7 := { stood := { row := headerSignsRow, standIns := [], harness := (true, "26ee621970d37e0cc444f764c8377e39de8eeefd39e53426065515f2573a7ad7"), looks := false }, kinds := [], alts := [], laidByText := true, laidKinds := [.data], laidTests := true, laidLooks := .later }
def HeaderSignsCardSaid : Prop := Claim7.holds Tryd.pinned (.plain (OpenSpec.ofChange headerSignsSpec)) headerSignsCard

/-- THE TIED CARD OF 'footbridgelaw13.HeaderBack'. -/
def headerBackCard : Claim7 := { stood := { row := headerBackRow, standIns := [], harness := (true, "26ee621970d37e0cc444f764c8377e39de8eeefd39e53426065515f2573a7ad7"), looks := false }, kinds := [], alts := [], laidByText := true, laidKinds := [.data], laidTests := true, laidLooks := .later }
def HeaderBackCardSaid : Prop := Claim7.holds Tryd.pinned (.plain (OpenSpec.ofChange headerBackSpec)) headerBackCard

/-- THE SECOND FORM's CARD OF 'footbridgelaw13.HeaderBytes'. -/
def headerBytesUptoCard : Claim7 := { stood := { row := headerBytesUptoRow, standIns := [], harness := (true, "26ee621970d37e0cc444f764c8377e39de8eeefd39e53426065515f2573a7ad7"), looks := false }, kinds := [], alts := [], laidByText := true, laidKinds := [.data], laidTests := true, laidLooks := .later }
def HeaderBytesUptoCardSaid : Prop := Claim7.holds Tryd.pinned (.plain (OpenSpec.upto headerBytesSpec)) headerBytesUptoCard

/-- THE SECOND FORM's CARD OF 'footbridgelaw13.HeaderSigns'. -/
def headerSignsUptoCard : Claim7 := { stood := { row := headerSignsUptoRow, standIns := [], harness := (true, "26ee621970d37e0cc444f764c8377e39de8eeefd39e53426065515f2573a7ad7"), looks := false }, kinds := [], alts := [], laidByText := true, laidKinds := [.data], laidTests := true, laidLooks := .later }
def HeaderSignsUptoCardSaid : Prop := Claim7.holds Tryd.pinned (.plain (OpenSpec.upto headerSignsSpec)) headerSignsUptoCard

/-- THE SECOND FORM's CARD OF 'footbridgelaw13.HeaderBack'. -/
def headerBackUptoCard : Claim7 := { stood := { row := headerBackUptoRow, standIns := [], harness := (true, "26ee621970d37e0cc444f764c8377e39de8eeefd39e53426065515f2573a7ad7"), looks := false }, kinds := [], alts := [], laidByText := true, laidKinds := [.data], laidTests := true, laidLooks := .later }
def HeaderBackUptoCardSaid : Prop := Claim7.holds Tryd.pinned (.plain (OpenSpec.upto headerBackSpec)) headerBackUptoCard
end Rows
end Go.Proofs.YtjohkimjdkginaaDoor
