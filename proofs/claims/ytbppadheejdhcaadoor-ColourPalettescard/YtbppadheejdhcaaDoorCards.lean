/-
  DERIVED. GIVEN WITH THE SEED: THE CARDS: each row of YtbppadheejdhcaaDoorRows.lean that lists a variable, with what it lists TIED to the program's text (the seventh form; the later family's looks); each row that meets fmt, with fmt's text TOLD by the authors' own Lean function (tested against real Go, not proved from fmt's source: count such statements apart). THE CARD IS WHAT COUNTS. Prove the row's statement (the work); the ties are given (YtbppadheejdhcaaDoorTie.lean); close each card by the builder's one call (the guide's Derived/Test/ToyasCard.lean, 'card_holds'). Laid BY PROGRAM, IN A SANDBOX (cutbox-door.mjs). By AI agents, Wed Nov 11 2026. No macro, syntax, notation, axiom, sorry.
-/
import Derived.Test.YtbppadheejdhcaaDoorRows
import GoSem.ClaimSeven
namespace Go.Proofs.YtbppadheejdhcaaDoor
namespace Rows

/-- THE TIED CARD OF 'casementlaw04.ColourNames'. -/
def colourNamesCard : Claim7 := { stood := { row := colourNamesRow, standIns := [], harness := (true, "7e7293e9a413b17dead5e04df779c1bb8ece694db130d7f88dcdd392b54e7389"), looks := false }, kinds := [], alts := [], laidByText := true, laidKinds := [.data, .data], laidTests := true, laidLooks := .later }
def ColourNamesCardSaid : Prop := Claim7.holds Tryd.pinned (.plain (OpenSpec.ofChange colourNamesSpec)) colourNamesCard

/-- THE TIED CARD OF 'casementlaw04.ColourPalettes'. -/
def colourPalettesCard : Claim7 := { stood := { row := colourPalettesRow, standIns := [], harness := (true, "7e7293e9a413b17dead5e04df779c1bb8ece694db130d7f88dcdd392b54e7389"), looks := false }, kinds := [], alts := [], laidByText := true, laidKinds := [.data, .data], laidTests := true, laidLooks := .later }
def ColourPalettesCardSaid : Prop := Claim7.holds Tryd.pinned (.plain (OpenSpec.ofChange colourPalettesSpec)) colourPalettesCard

/-- THE SECOND FORM's CARD OF 'casementlaw04.ColourNames'. -/
def colourNamesUptoCard : Claim7 := { stood := { row := colourNamesUptoRow, standIns := [], harness := (true, "7e7293e9a413b17dead5e04df779c1bb8ece694db130d7f88dcdd392b54e7389"), looks := false }, kinds := [], alts := [], laidByText := true, laidKinds := [.data, .data], laidTests := true, laidLooks := .later }
def ColourNamesUptoCardSaid : Prop := Claim7.holds Tryd.pinned (.plain (OpenSpec.upto colourNamesSpec)) colourNamesUptoCard

/-- THE SECOND FORM's CARD OF 'casementlaw04.ColourPalettes'. -/
def colourPalettesUptoCard : Claim7 := { stood := { row := colourPalettesUptoRow, standIns := [], harness := (true, "7e7293e9a413b17dead5e04df779c1bb8ece694db130d7f88dcdd392b54e7389"), looks := false }, kinds := [], alts := [], laidByText := true, laidKinds := [.data, .data], laidTests := true, laidLooks := .later }
def ColourPalettesUptoCardSaid : Prop := Claim7.holds Tryd.pinned (.plain (OpenSpec.upto colourPalettesSpec)) colourPalettesUptoCard
end Rows
end Go.Proofs.YtbppadheejdhcaaDoor
