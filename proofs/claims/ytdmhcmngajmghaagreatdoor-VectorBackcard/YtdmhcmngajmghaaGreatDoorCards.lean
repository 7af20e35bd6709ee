/-
  DERIVED. GIVEN WITH THE SEED: THE CARDS: each row of YtdmhcmngajmghaaGreatDoorRows.lean that lists a variable, with what it lists TIED to the program's text (the seventh form; the later family's looks); each row that meets fmt, with fmt's text TOLD by the authors' own Lean function (tested against real Go, not proved from fmt's source: count such statements apart). THE CARD IS WHAT COUNTS. Prove the row's statement (the work); the ties are given (YtdmhcmngajmghaaGreatDoorTie.lean); close each card by the builder's one call (the guide's Derived/Test/ToyasCard.lean, 'card_holds'). Laid BY PROGRAM, IN A SANDBOX (cutbox-door.mjs). By AI agents, Wed Nov 11 2026. No macro, syntax, notation, axiom, sorry.
-/
import Derived.Test.YtdmhcmngajmghaaGreatDoorRows
import GoSem.ClaimSeven
namespace Go.Proofs.YtdmhcmngajmghaaGreatDoor
namespace Rows

/-- THE TIED CARD OF 'casementlaw16.VectorBack'. -/
def vectorBackCard : Claim7 := { stood := { row := vectorBackRow, standIns := [], harness := (true, "a34455bc7802941f016a79eed3f62695cdc93b86c48eb2fe0285bef2c7336df0"), looks := true }, kinds := [], alts := [], laidByText := true, laidKinds := [.data, .data, .data, .handle, .sentinel, .sentinel, .data, .data, .data], laidTests := true, laidLooks := .later }
def VectorBackCardSaid : Prop := Claim7.holds Tryz.pinned (.plain (OpenSpec.ofChange vectorBackSpec)) vectorBackCard

/-- THE SECOND FORM's CARD OF 'casementlaw16.VectorBack'. -/
def vectorBackUptoCard : Claim7 := { stood := { row := vectorBackUptoRow, standIns := [], harness := (true, "a34455bc7802941f016a79eed3f62695cdc93b86c48eb2fe0285bef2c7336df0"), looks := true }, kinds := [], alts := [], laidByText := true, laidKinds := [.data, .data, .data, .handle, .sentinel, .sentinel, .data, .data, .data], laidTests := true, laidLooks := .later }
def VectorBackUptoCardSaid : Prop := Claim7.holds Tryz.pinned (.plain (OpenSpec.upto vectorBackSpec)) vectorBackUptoCard
end Rows
end Go.Proofs.YtdmhcmngajmghaaGreatDoor
