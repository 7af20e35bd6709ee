/-
  DERIVED. GIVEN WITH THE SEED: THE CARDS: each row of YtcahdmfmcojaoaaGreatDoorRows.lean that lists a variable, with what it lists TIED to the program's text (the seventh form; the later family's looks); each row that meets fmt, with fmt's text TOLD by the authors' own Lean function (tested against real Go, not proved from fmt's source: count such statements apart). THE CARD IS WHAT COUNTS. Prove the row's statement (the work); the ties are given (YtcahdmfmcojaoaaGreatDoorTie.lean); close each card by the builder's one call (the guide's Derived/Test/ToyasCard.lean, 'card_holds'). Laid BY PROGRAM, IN A SANDBOX (cutbox-door.mjs). By AI agents, Wed Nov 11 2026. No macro, syntax, notation, axiom, sorry.
-/
import Derived.Test.YtcahdmfmcojaoaaGreatDoorRows
import GoSem.ClaimSeven
namespace Go.Proofs.YtcahdmfmcojaoaaGreatDoor
namespace Rows

/-- THE TIED CARD OF 'casementlaw15.CellsAsked'. -/
def cellsAskedCard : Claim7 := { stood := { row := cellsAskedRow, standIns := [], harness := (true, "f21efced0b01a30a3d65c5612315b4cfd6eeb7ff44e683b55b4dff8aa5f8fe41"), looks := false }, kinds := [], alts := [], laidByText := true, laidKinds := [.data, .data, .data, .data, .data, .data, .data, .pinned], laidTests := true, laidLooks := .later }
def CellsAskedCardSaid : Prop := Claim7.holds Tryz.pinned (.plain (OpenSpec.ofChange cellsAskedSpec)) cellsAskedCard

/-- THE TIED CARD OF 'casementlaw15.CellsPlaces'. -/
def cellsPlacesCard : Claim7 := { stood := { row := cellsPlacesRow, standIns := [], harness := (true, "f21efced0b01a30a3d65c5612315b4cfd6eeb7ff44e683b55b4dff8aa5f8fe41"), looks := false }, kinds := [], alts := [], laidByText := true, laidKinds := [.data, .data, .data, .data, .data, .data, .data, .pinned], laidTests := true, laidLooks := .later }
def CellsPlacesCardSaid : Prop := Claim7.holds Tryz.pinned (.plain (OpenSpec.ofChange cellsPlacesSpec)) cellsPlacesCard

/-- THE SECOND FORM's CARD OF 'casementlaw15.CellsAsked'. -/
def cellsAskedUptoCard : Claim7 := { stood := { row := cellsAskedUptoRow, standIns := [], harness := (true, "f21efced0b01a30a3d65c5612315b4cfd6eeb7ff44e683b55b4dff8aa5f8fe41"), looks := false }, kinds := [], alts := [], laidByText := true, laidKinds := [.data, .data, .data, .data, .data, .data, .data, .pinned], laidTests := true, laidLooks := .later }
def CellsAskedUptoCardSaid : Prop := Claim7.holds Tryz.pinned (.plain (OpenSpec.upto cellsAskedSpec)) cellsAskedUptoCard

/-- THE SECOND FORM's CARD OF 'casementlaw15.CellsPlaces'. -/
def cellsPlacesUptoCard : Claim7 := { stood := { row := cellsPlacesUptoRow, standIns := [], harness := (true, "f21efced0b01a30a3d65c5612315b4cfd6eeb7ff44e683b55b4dff8aa5f8fe41"), looks := false }, kinds := [], alts := [], laidByText := true, laidKinds := [.data, .data, .data, .data, .data, .data, .data, .pinned], laidTests := true, laidLooks := .later }
def CellsPlacesUptoCardSaid : Prop := Claim7.holds Tryz.pinned (.plain (OpenSpec.upto cellsPlacesSpec)) cellsPlacesUptoCard
end Rows
end Go.Proofs.YtcahdmfmcojaoaaGreatDoor
