/-
  DERIVED. GIVEN WITH THE SEED: THE CARDS: each row of YtbnbfgkcndomaabGreatDoorRows.lean that lists a variable, with what it lists TIED to the program's text (the seventh form; the later family's looks); each row that meets fmt, with fmt's text TOLD by the authors' own Lean function (tested against real Go, not proved from fmt's source: count such statements apart). THE CARD IS WHAT COUNTS. Prove the row's statement (the work); the ties are given (YtbnbfgkcndomaabGreatDoorTie.lean); close each card by the builder's one call (the guide's Derived/Test/ToyasCard.lean, 'card_holds'). Laid BY PROGRAM, IN A SANDBOX (cutbox-door.mjs). By AI agents, Wed Nov 11 2026. No macro, syntax, notation, axiom, sorry.
-/
import Derived.Test.YtbnbfgkcndomaabGreatDoorRows
import GoSem.ClaimSeven
namespace Go.Proofs.YtbnbfgkcndomaabGreatDoor
namespace Rows

/-- THE TIED CARD OF 'casementlaw07.WrapMade'. -/
def wrapMadeCard : Claim7 := { stood := { row := wrapMadeRow, standIns := [], harness := (true, "5b61812043a0dec24ad7ab0abefa1f77345d3a5a902dba7cc690b6bcf47c56a1"), looks := true }, kinds := [], alts := [], laidByText := true, laidKinds := [.data, .data, .data, .pinned], laidTests := true, laidLooks := .later }
def WrapMadeCardSaid : Prop := Claim7.holds Tryz.pinned (.plain (OpenSpec.ofChange wrapMadeSpec)) wrapMadeCard

/-- THE TIED CARD OF 'casementlaw07.WrapHollow'. -/
def wrapHollowCard : Claim7 := { stood := { row := wrapHollowRow, standIns := [], harness := (true, "5b61812043a0dec24ad7ab0abefa1f77345d3a5a902dba7cc690b6bcf47c56a1"), looks := true }, kinds := [], alts := [], laidByText := true, laidKinds := [.data, .pinned], laidTests := true, laidLooks := .later }
def WrapHollowCardSaid : Prop := Claim7.holds Tryz.pinned (.plain (OpenSpec.ofChange wrapHollowSpec)) wrapHollowCard

/-- THE TIED CARD OF 'casementlaw07.WrapShows'. -/
def wrapShowsCard : Claim7 := { stood := { row := wrapShowsRow, standIns := [], harness := (true, "5b61812043a0dec24ad7ab0abefa1f77345d3a5a902dba7cc690b6bcf47c56a1"), looks := true }, kinds := [], alts := [], laidByText := true, laidKinds := [.data, .data, .data, .pinned], laidTests := true, laidLooks := .later }
def WrapShowsCardSaid : Prop := Claim7.holds Tryz.pinned (.plain (OpenSpec.ofChange wrapShowsSpec)) wrapShowsCard

/-- THE TIED CARD OF 'casementlaw07.WrapPads'. -/
def wrapPadsCard : Claim7 := { stood := { row := wrapPadsRow, standIns := [], harness := (true, "5b61812043a0dec24ad7ab0abefa1f77345d3a5a902dba7cc690b6bcf47c56a1"), looks := true }, kinds := [], alts := [], laidByText := true, laidKinds := [.data, .data, .data, .pinned], laidTests := true, laidLooks := .later }
def WrapPadsCardSaid : Prop := Claim7.holds Tryz.pinned (.plain (OpenSpec.ofChange wrapPadsSpec)) wrapPadsCard

/-- THE TIED CARD OF 'casementtop.TopWrapped'. -/
def topWrappedCard : Claim7 := { stood := { row := topWrappedRow, standIns := [], harness := (true, "5b61812043a0dec24ad7ab0abefa1f77345d3a5a902dba7cc690b6bcf47c56a1"), looks := true }, kinds := [], alts := [], laidByText := true, laidKinds := [.data, .data, .data, .pinned], laidTests := true, laidLooks := .later }
def TopWrappedCardSaid : Prop := Claim7.holds Tryz.pinned (.plain (OpenSpec.ofChange topWrappedSpec)) topWrappedCard

/-- THE SECOND FORM's CARD OF 'casementlaw07.WrapMade'. -/
def wrapMadeUptoCard : Claim7 := { stood := { row := wrapMadeUptoRow, standIns := [], harness := (true, "5b61812043a0dec24ad7ab0abefa1f77345d3a5a902dba7cc690b6bcf47c56a1"), looks := true }, kinds := [], alts := [], laidByText := true, laidKinds := [.data, .data, .data, .pinned], laidTests := true, laidLooks := .later }
def WrapMadeUptoCardSaid : Prop := Claim7.holds Tryz.pinned (.plain (OpenSpec.upto wrapMadeSpec)) wrapMadeUptoCard

/-- THE SECOND FORM's CARD OF 'casementlaw07.WrapHollow'. -/
def wrapHollowUptoCard : Claim7 := { stood := { row := wrapHollowUptoRow, standIns := [], harness := (true, "5b61812043a0dec24ad7ab0abefa1f77345d3a5a902dba7cc690b6bcf47c56a1"), looks := true }, kinds := [], alts := [], laidByText := true, laidKinds := [.data, .pinned], laidTests := true, laidLooks := .later }
def WrapHollowUptoCardSaid : Prop := Claim7.holds Tryz.pinned (.plain (OpenSpec.upto wrapHollowSpec)) wrapHollowUptoCard

/-- THE SECOND FORM's CARD OF 'casementlaw07.WrapShows'. -/
def wrapShowsUptoCard : Claim7 := { stood := { row := wrapShowsUptoRow, standIns := [], harness := (true, "5b61812043a0dec24ad7ab0abefa1f77345d3a5a902dba7cc690b6bcf47c56a1"), looks := true }, kinds := [], alts := [], laidByText := true, laidKinds := [.data, .data, .data, .pinned], laidTests := true, laidLooks := .later }
def WrapShowsUptoCardSaid : Prop := Claim7.holds Tryz.pinned (.plain (OpenSpec.upto wrapShowsSpec)) wrapShowsUptoCard

/-- THE SECOND FORM's CARD OF 'casementlaw07.WrapPads'. -/
def wrapPadsUptoCard : Claim7 := { stood := { row := wrapPadsUptoRow, standIns := [], harness := (true, "5b61812043a0dec24ad7ab0abefa1f77345d3a5a902dba7cc690b6bcf47c56a1"), looks := true }, kinds := [], alts := [], laidByText := true, laidKinds := [.data, .data, .data, .pinned], laidTests := true, laidLooks := .later }
def WrapPadsUptoCardSaid : Prop := Claim7.holds Tryz.pinned (.plain (OpenSpec.upto wrapPadsSpec)) wrapPadsUptoCard

/-- THE SECOND FORM's CARD OF 'casementtop.TopWrapped'. -/
def topWrappedUptoCard : Claim7 := { stood := { row := topWrappedUptoRow, standIns := [], harness := (true, "5b61812043a0dec24ad7ab0abefa1f77345d3a5a902dba7cc690b6bcf47c56a1"), looks := true }, kinds := [], alts := [], laidByText := true, laidKinds := [.data, .data, .data, .pinned], laidTests := true, laidLooks := .later }
def TopWrappedUptoCardSaid : Prop := Claim7.holds Tryz.pinned (.plain (OpenSpec.upto topWrappedSpec)) topWrappedUptoCard
end Rows
end Go.Proofs.YtbnbfgkcndomaabGreatDoor
