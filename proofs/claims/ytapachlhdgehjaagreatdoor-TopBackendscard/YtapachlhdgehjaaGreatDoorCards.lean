/-
  DERIVED. GIVEN WITH THE SEED: THE CARDS: each row of YtapachlhdgehjaaGreatDoorRows.lean that lists a variable, with what it lists TIED to the program's text (the seventh form; the later family's looks); each row that meets fmt, with fmt's text TOLD by the authors' own Lean function (tested against real Go, not proved from fmt's source: count such statements apart). THE CARD IS WHAT COUNTS. Prove the row's statement (the work); the ties are given (YtapachlhdgehjaaGreatDoorTie.lean); close each card by the builder's one call (the guide's Derived/Test/ToyasCard.lean, 'card_holds'). Laid BY PROGRAM, IN A SANDBOX (cutbox-door.mjs). By AI agents, Wed Nov 11 2026. No macro, syntax, notation, axiom, sorry.
-/
import Derived.Test.YtapachlhdgehjaaGreatDoorRows
import GoSem.ClaimSeven
namespace Go.Proofs.YtapachlhdgehjaaGreatDoor
namespace Rows

/-- THE TIED CARD OF 'casementlaw15.CellsTwice'. -/
def cellsTwiceCard : Claim7 := { stood := { row := cellsTwiceRow, standIns := [], harness := (true, "7aa64d956b240fda9ceab799f178f4bf00c82b1a82f9d69c5cab04e59a0280aa"), looks := true }, kinds := [], alts := [], laidByText := true, laidKinds := [.data, .data, .data, .data, .data, .data, .data, .pinned], laidTests := true, laidLooks := .later }
def CellsTwiceCardSaid : Prop := Claim7.holds Tryz.pinned (.plain (OpenSpec.ofChange cellsTwiceSpec)) cellsTwiceCard

/-- THE TIED CARD OF 'casementlaw16.VectorBack'. -/
def vectorBackCard : Claim7 := { stood := { row := vectorBackRow, standIns := [], harness := (true, "7aa64d956b240fda9ceab799f178f4bf00c82b1a82f9d69c5cab04e59a0280aa"), looks := true }, kinds := [], alts := [], laidByText := true, laidKinds := [.data, .data, .data, .handle, .sentinel, .sentinel, .data, .data, .data], laidTests := true, laidLooks := .later }
def VectorBackCardSaid : Prop := Claim7.holds Tryz.pinned (.plain (OpenSpec.ofChange vectorBackSpec)) vectorBackCard

/-- THE TIED CARD OF 'casementtop.TopBackends'. -/
def topBackendsCard : Claim7 := { stood := { row := topBackendsRow, standIns := [], harness := (true, "7aa64d956b240fda9ceab799f178f4bf00c82b1a82f9d69c5cab04e59a0280aa"), looks := true }, kinds := [], alts := [], laidByText := true, laidKinds := [.data, .data, .data, .handle, .sentinel, .sentinel, .data, .data, .data], laidTests := true, laidLooks := .later }
def TopBackendsCardSaid : Prop := Claim7.holds Tryz.pinned (.plain (OpenSpec.ofChange topBackendsSpec)) topBackendsCard

/-- THE SECOND FORM's CARD OF 'casementlaw15.CellsTwice'. -/
def cellsTwiceUptoCard : Claim7 := { stood := { row := cellsTwiceUptoRow, standIns := [], harness := (true, "7aa64d956b240fda9ceab799f178f4bf00c82b1a82f9d69c5cab04e59a0280aa"), looks := true }, kinds := [], alts := [], laidByText := true, laidKinds := [.data, .data, .data, .data, .data, .data, .data, .pinned], laidTests := true, laidLooks := .later }
def CellsTwiceUptoCardSaid : Prop := Claim7.holds Tryz.pinned (.plain (OpenSpec.upto cellsTwiceSpec)) cellsTwiceUptoCard

/-- THE SECOND FORM's CARD OF 'casementlaw16.VectorBack'. -/
def vectorBackUptoCard : Claim7 := { stood := { row := vectorBackUptoRow, standIns := [], harness := (true, "7aa64d956b240fda9ceab799f178f4bf00c82b1a82f9d69c5cab04e59a0280aa"), looks := true }, kinds := [], alts := [], laidByText := true, laidKinds := [.data, .data, .data, .handle, .sentinel, .sentinel, .data, .data, .data], laidTests := true, laidLooks := .later }
def VectorBackUptoCardSaid : Prop := Claim7.holds Tryz.pinned (.plain (OpenSpec.upto vectorBackSpec)) vectorBackUptoCard

/-- THE SECOND FORM's CARD OF 'casementtop.TopBackends'. -/
def topBackendsUptoCard : Claim7 := { stood := { row := topBackendsUptoRow, standIns := [], harness := (true, "7aa64d956b240fda9ceab799f178f4bf00c82b1a82f9d69c5cab04e59a0280aa"), looks := true }, kinds := [], alts := [], laidByText := true, laidKinds := [.data, .data, .data, .handle, .sentinel, .sentinel, .data, .data, .data], laidTests := true, laidLooks := .later }
def TopBackendsUptoCardSaid : Prop := Claim7.holds Tryz.pinned (.plain (OpenSpec.upto topBackendsSpec)) topBackendsUptoCard
end Rows
end Go.Proofs.YtapachlhdgehjaaGreatDoor
