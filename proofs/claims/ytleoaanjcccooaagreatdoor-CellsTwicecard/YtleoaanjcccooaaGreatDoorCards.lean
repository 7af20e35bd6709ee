/-
  DERIVED. GIVEN WITH THE SEED: THE CARDS: each row of YtleoaanjcccooaaGreatDoorRows.lean that lists a variable, with what it lists TIED to the program's text (the seventh form; the later family's looks); each row that meets fmt, with fmt's text TOLD by the authors' own Lean function (tested against real Go, not proved from fmt's source: count such statements apart). THE CARD IS WHAT COUNTS. Prove the row's statement (the work); the ties are given (YtleoaanjcccooaaGreatDoorTie.lean); close each card by the builder's one call (the guide's Derived/Test/ToyasCard.lean, 'card_holds'). Laid BY PROGRAM, IN A SANDBOX (cutbox-door.mjs). By AI agents, Wed Nov 11 2026. No macro, syntax, notation, axiom, sorry.
-/
import Derived.Test.YtleoaanjcccooaaGreatDoorRows
import GoSem.ClaimSeven
namespace Go.Proofs.YtleoaanjcccooaaGreatDoor
namespace Rows

/-- THE TIED CARD OF 'casementlaw15.CellsPlaces'. -/
def cellsPlacesCard : Claim7 := { stood := { row := cellsPlacesRow, standIns := [], harness := (true, "b0b492286a3cb3ac7fde9628283c69245612aec254ff1960af3a2ce138c52ccf"), looks := false }, kinds := [], alts := [], laidByText := true, laidKinds := [.data, .data, .data, .data, .data, .data, .data, .pinned], laidTests := true, laidLooks := .later }
def CellsPlacesCardSaid : Prop := Claim7.holds Tryz.pinned (.plain (OpenSpec.ofChange cellsPlacesSpec)) cellsPlacesCard

/-- THE TIED CARD OF 'casementlaw15.CellsTwice'. -/
def cellsTwiceCard : Claim7 := { stood := { row := cellsTwiceRow, standIns := [], harness := (true, "b0b492286a3cb3ac7fde9628283c69245612aec254ff1960af3a2ce138c52ccf"), looks := false }, kinds := [], alts := [], laidByText := true, laidKinds := [.data, .data, .data, .data, .data, .data, .data, .pinned], laidTests := true, laidLooks := .later }
def CellsTwiceCardSaid : Prop := Claim7.holds Tryz.pinned (.plain (OpenSpec.ofChange cellsTwiceSpec)) cellsTwiceCard

/-- THE SECOND FORM's CARD OF 'casementlaw15.CellsPlaces'. -/
def cellsPlacesUptoCard : Claim7 := { stood := { row := cellsPlacesUptoRow, standIns := [], harness := (true, "b0b492286a3cb3ac7fde9628283c69245612aec254ff1960af3a2ce138c52ccf"), looks := false }, kinds := [], alts := [], laidByText := true, laidKinds := [.data, .data, .data, .data, .data, .data, .data, .pinned], laidTests := true, laidLooks := .later }
def CellsPlacesUptoCardSaid : Prop := Claim7.holds Tryz.pinned (.plain (OpenSpec.upto cellsPlacesSpec)) cellsPlacesUptoCard

/-- THE SECOND FORM's CARD OF 'casementlaw15.CellsTwice'. -/
def cellsTwiceUptoCard : Claim7 := { stood := { row := cellsTwiceUptoRow, standIns := [], harness := (true, "b0b492286a3cb3ac7fde9628283c69245612aec254ff1960af3a2ce138c52ccf"), looks := false }, kinds := [], alts := [], laidByText := true, laidKinds := [.data, .data, .data, .data, .data, .data, .data, .pinned], laidTests := true, laidLooks := .later }
def CellsTwiceUptoCardSaid : Prop := Claim7.holds Tryz.pinned (.plain (OpenSpec.upto cellsTwiceSpec)) cellsTwiceUptoCard
end Rows
end Go.Proofs.YtleoaanjcccooaaGreatDoor
