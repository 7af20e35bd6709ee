/-
  DERIVED. GIVEN WITH THE SEED: THE CARDS: each row of YtobmpjmpffnoiabDoorRows.lean that lists a variable, with what it lists TIED to the program's text (the seventh form; the later family's looks); each row that meets fmt, with fmt's text TOLD by the authors' own Lean function (tested against real Go, not proved from fmt's source: count such statements apart). THE CARD IS WHAT COUNTS. Prove the row's statement (the work); the ties are given (YtobmpjmpffnoiabDoorTie.lean); close each card by the builder's one call (the guide's Derived/Test/ToyasCard.lean, 'card_holds'). Laid BY PROGRAM, IN A SANDBOX (cutbox-door.mjs). By AI agents, Wed Nov 11 2026. No macro, syntax, notation, axiom, sorry.
-/
import Derived.Test.YtobmpjmpffnoiabDoorRows
import GoSem.ClaimSeven
namespace Go.Proofs.YtobmpjmpffnoiabDoor
namespace Rows

/-- THE TIED CARD OF 'casementlaw05.StyleBrackets'. -/
def styleBracketsCard : Claim7 := { stood := { row := styleBracketsRow, standIns := [], harness := (true, "208962eda8150dc8af0066f82505a50523b40fc95fa79dcadcce22a9616cb3d5"), looks := false }, kinds := [], alts := [], laidByText := true, laidKinds := [.data, .pinned], laidTests := true, laidLooks := .later }
def StyleBracketsCardSaid : Prop := Claim7.holds Tryd.pinned (.plain (OpenSpec.ofChange styleBracketsSpec)) styleBracketsCard

/-- THE SECOND FORM's CARD OF 'casementlaw05.StyleBrackets'. -/
def styleBracketsUptoCard : Claim7 := { stood := { row := styleBracketsUptoRow, standIns := [], harness := (true, "208962eda8150dc8af0066f82505a50523b40fc95fa79dcadcce22a9616cb3d5"), looks := false }, kinds := [], alts := [], laidByText := true, laidKinds := [.data, .pinned], laidTests := true, laidLooks := .later }
def StyleBracketsUptoCardSaid : Prop := Claim7.holds Tryd.pinned (.plain (OpenSpec.upto styleBracketsSpec)) styleBracketsUptoCard
end Rows
end Go.Proofs.YtobmpjmpffnoiabDoor
