/-
  DERIVED. GIVEN WITH THE SEED: THE CARDS: each row of YtfjbnejmcanamaaGreatDoorRows.lean that lists a variable, with what it lists TIED to the program's text (the seventh form; the later family's looks); each row that meets fmt, with fmt's text TOLD by the authors' own Lean function (tested against real Go, not proved from fmt's source: count such statements apart). THE CARD IS WHAT COUNTS. Prove the row's statement (the work); the ties are given (YtfjbnejmcanamaaGreatDoorTie.lean); close each card by the builder's one call (the guide's Derived/Test/ToyasCard.lean, 'card_holds'). Laid BY PROGRAM, IN A SANDBOX (cutbox-door.mjs). By AI agents, Wed Nov 11 2026. No macro, syntax, notation, axiom, sorry.
-/
import Derived.Test.YtfjbnejmcanamaaGreatDoorRows
import GoSem.ClaimSeven
namespace Go.Proofs.YtfjbnejmcanamaaGreatDoor
namespace Rows

/-- THE TIED CARD OF 'casementtop.TopBackends'. -/
def topBackendsCard : Claim7 := { stood := { row := topBackendsRow, standIns := [], harness := (true, "6472a4916cfc5391a3db089804d9c21f8a6a35cbcc6445144c2522401c59de36"), looks := true }, kinds := [], alts := [], laidByText := true, laidKinds := [.data, .data, .data, .handle, .sentinel, .sentinel, .data, .data, .data], laidTests := true, laidLooks := .later }
def TopBackendsCardSaid : Prop := Claim7.holds Tryz.pinned (.plain (OpenSpec.ofChange topBackendsSpec)) topBackendsCard

/-- THE SECOND FORM's CARD OF 'casementtop.TopBackends'. -/
def topBackendsUptoCard : Claim7 := { stood := { row := topBackendsUptoRow, standIns := [], harness := (true, "6472a4916cfc5391a3db089804d9c21f8a6a35cbcc6445144c2522401c59de36"), looks := true }, kinds := [], alts := [], laidByText := true, laidKinds := [.data, .data, .data, .handle, .sentinel, .sentinel, .data, .data, .data], laidTests := true, laidLooks := .later }
def TopBackendsUptoCardSaid : Prop := Claim7.holds Tryz.pinned (.plain (OpenSpec.upto topBackendsSpec)) topBackendsUptoCard
end Rows
end Go.Proofs.YtfjbnejmcanamaaGreatDoor
