/-
  DERIVED. GIVEN WITH THE SEED: THE CARDS: each row of YtkejaepmoabikaaGreatDoorRows.lean that lists a variable, with what it lists TIED to the program's text (the seventh form; the later family's looks); each row that meets fmt, with fmt's text TOLD by the authors' own Lean function (tested against real Go, not proved from fmt's source: count such statements apart). THE CARD IS WHAT COUNTS. Prove the row's statement (the work); the ties are given (YtkejaepmoabikaaGreatDoorTie.lean); close each card by the builder's one call (the guide's Derived/Test/ToyasCard.lean, 'card_holds'). Laid BY PROGRAM, IN A SANDBOX (cutbox-door.mjs). By AI agents, Wed Nov 11 2026. No macro, syntax, notation, axiom, sorry.
-/
import Derived.Test.YtkejaepmoabikaaGreatDoorRows
import GoSem.ClaimSeven
namespace Go.Proofs.YtkejaepmoabikaaGreatDoor
namespace Rows

/-- THE TIED CARD OF 'footbridgelaw14.ClientPlays'. -/
def clientPlaysCard : Claim7 := { stood := { row := clientPlaysRow, standIns := [], harness := (true, "3324cb94018ce4fc4a81df2b2e5f70467306f917d853af71290d7d358d243118"), looks := true }, kinds := [], alts := [], laidByText := true, laidKinds := [.data, .data, .data, .data, .data, .handle, .sentinel, .sentinel, .pinned], laidTests := true, laidLooks := .later }
def ClientPlaysCardSaid : Prop := Claim7.holds Tryz.pinned (.plain (OpenSpec.ofChange clientPlaysSpec)) clientPlaysCard

/-- THE TIED CARD OF 'footbridgelaw14.ClientFreezes'. -/
def clientFreezesCard : Claim7 := { stood := { row := clientFreezesRow, standIns := [], harness := (true, "3324cb94018ce4fc4a81df2b2e5f70467306f917d853af71290d7d358d243118"), looks := true }, kinds := [], alts := [], laidByText := true, laidKinds := [.data, .data, .data, .data, .data, .handle, .sentinel, .sentinel, .pinned], laidTests := true, laidLooks := .later }
def ClientFreezesCardSaid : Prop := Claim7.holds Tryz.pinned (.plain (OpenSpec.ofChange clientFreezesSpec)) clientFreezesCard

/-- THE TIED CARD OF 'footbridgelaw14.ClientNone'. -/
def clientNoneCard : Claim7 := { stood := { row := clientNoneRow, standIns := [], harness := (true, "3324cb94018ce4fc4a81df2b2e5f70467306f917d853af71290d7d358d243118"), looks := true }, kinds := [], alts := [], laidByText := true, laidKinds := [.data, .data, .data, .data, .data, .handle, .sentinel, .sentinel, .pinned], laidTests := true, laidLooks := .later }
def ClientNoneCardSaid : Prop := Claim7.holds Tryz.pinned (.plain (OpenSpec.ofChange clientNoneSpec)) clientNoneCard

/-- THE SECOND FORM's CARD OF 'footbridgelaw14.ClientPlays'. -/
def clientPlaysUptoCard : Claim7 := { stood := { row := clientPlaysUptoRow, standIns := [], harness := (true, "3324cb94018ce4fc4a81df2b2e5f70467306f917d853af71290d7d358d243118"), looks := true }, kinds := [], alts := [], laidByText := true, laidKinds := [.data, .data, .data, .data, .data, .handle, .sentinel, .sentinel, .pinned], laidTests := true, laidLooks := .later }
def ClientPlaysUptoCardSaid : Prop := Claim7.holds Tryz.pinned (.plain (OpenSpec.upto clientPlaysSpec)) clientPlaysUptoCard

/-- THE SECOND FORM's CARD OF 'footbridgelaw14.ClientFreezes'. -/
def clientFreezesUptoCard : Claim7 := { stood := { row := clientFreezesUptoRow, standIns := [], harness := (true, "3324cb94018ce4fc4a81df2b2e5f70467306f917d853af71290d7d358d243118"), looks := true }, kinds := [], alts := [], laidByText := true, laidKinds := [.data, .data, .data, .data, .data, .handle, .sentinel, .sentinel, .pinned], laidTests := true, laidLooks := .later }
def ClientFreezesUptoCardSaid : Prop := Claim7.holds Tryz.pinned (.plain (OpenSpec.upto clientFreezesSpec)) clientFreezesUptoCard

/-- THE SECOND FORM's CARD OF 'footbridgelaw14.ClientNone'. -/
def clientNoneUptoCard : Claim7 := { stood := { row := clientNoneUptoRow, standIns := [], harness := (true, "3324cb94018ce4fc4a81df2b2e5f70467306f917d853af71290d7d358d243118"), looks := true }, kinds := [], alts := [], laidByText := true, laidKinds := [.data, .data, .data, .data, .data, .handle, .sentinel, .sentinel, .pinned], laidTests := true, laidLooks := .later }
def ClientNoneUptoCardSaid : Prop := Claim7.holds Tryz.pinned (.plain (OpenSpec.upto clientNoneSpec)) clientNoneUptoCard
end Rows
end Go.Proofs.YtkejaepmoabikaaGreatDoor
