/-
  DERIVED. GIVEN WITH THE SEED: THE CARDS: each row of YtbppadheejdhcabDoorRows.lean that lists a variable, with what it lists TIED to the program's text (the seventh form; the later family's looks); each row that meets fmt, with fmt's text TOLD by the authors' own Lean function (tested against real Go, not proved from fmt's source: count such statements apart). THE CARD IS WHAT COUNTS. Prove the row's statement (the work); the ties are given (YtbppadheejdhcabDoorTie.lean); close each card by the builder's one call (the guide's Derived/Test/ToyasCard.lean, 'card_holds'). Laid BY PROGRAM, IN A SANDBOX (cutbox-door.mjs). By AI agents, Wed Nov 11 2026. No macro, syntax, notation, axiom, sorry.
-/
import Derived.Test.YtbppadheejdhcabDoorRows
import GoSem.ClaimSeven
namespace Go.Proofs.YtbppadheejdhcabDoor
namespace Rows

/-- THE TIED CARD OF 'casementlaw04.ColourNearest'. -/
def colourNearestCard : Claim7 := { stood := { row := colourNearestRow, standIns := [], harness := (true, "a9c47e4aa7621c5844b52c12dc66d3a9bcfeb78a4f7a409fcf2fd39c7de10c17"), looks := false }, kinds := [], alts := [], laidByText := true, laidKinds := [.data, .data], laidTests := true, laidLooks := .later }
def ColourNearestCardSaid : Prop := Claim7.holds Tryd.pinned (.plain (OpenSpec.ofChange colourNearestSpec)) colourNearestCard

/-- THE SECOND FORM's CARD OF 'casementlaw04.ColourNearest'. -/
def colourNearestUptoCard : Claim7 := { stood := { row := colourNearestUptoRow, standIns := [], harness := (true, "a9c47e4aa7621c5844b52c12dc66d3a9bcfeb78a4f7a409fcf2fd39c7de10c17"), looks := false }, kinds := [], alts := [], laidByText := true, laidKinds := [.data, .data], laidTests := true, laidLooks := .later }
def ColourNearestUptoCardSaid : Prop := Claim7.holds Tryd.pinned (.plain (OpenSpec.upto colourNearestSpec)) colourNearestUptoCard
end Rows
end Go.Proofs.YtbppadheejdhcabDoor
