/-
  DERIVED. GIVEN WITH THE SEED: THE CARDS: each row of YtdbafcldpleogaaGreatDoorRows.lean that lists a variable, with what it lists TIED to the program's text (the seventh form; the later family's looks); each row that meets fmt, with fmt's text TOLD by the authors' own Lean function (tested against real Go, not proved from fmt's source: count such statements apart). THE CARD IS WHAT COUNTS. Prove the row's statement (the work); the ties are given (YtdbafcldpleogaaGreatDoorTie.lean); close each card by the builder's one call (the guide's Derived/Test/ToyasCard.lean, 'card_holds'). Laid BY PROGRAM, IN A SANDBOX (cutbox-door.mjs). By AI agents, Wed Nov 11 2026. No macro, syntax, notation, axiom, sorry.
-/
import Derived.Test.YtdbafcldpleogaaGreatDoorRows
import GoSem.ClaimSeven
namespace Go.Proofs.YtdbafcldpleogaaGreatDoor
namespace Rows

/-- THE TIED CARD OF 'casementlaw06.PartMade'. -/
def partMadeCard : Claim7 := { stood := { row := partMadeRow, standIns := [], harness := (true, "fda57605f7d7bce1a1d8268de183ba7e54b1c950132a00a360cb29070ef8be42"), looks := true }, kinds := [], alts := [], laidByText := true, laidKinds := [.data, .data, .data, .pinned], laidTests := true, laidLooks := .later }
def PartMadeCardSaid : Prop := Claim7.holds Tryz.pinned (.plain (OpenSpec.ofChange partMadeSpec)) partMadeCard

/-- THE TIED CARD OF 'casementlaw06.PartShown'. -/
def partShownCard : Claim7 := { stood := { row := partShownRow, standIns := [], harness := (true, "fda57605f7d7bce1a1d8268de183ba7e54b1c950132a00a360cb29070ef8be42"), looks := true }, kinds := [], alts := [], laidByText := true, laidKinds := [.data, .data, .data, .pinned], laidTests := true, laidLooks := .later }
def PartShownCardSaid : Prop := Claim7.holds Tryz.pinned (.plain (OpenSpec.ofChange partShownSpec)) partShownCard

/-- THE TIED CARD OF 'casementlaw06.PartHollow'. -/
def partHollowCard : Claim7 := { stood := { row := partHollowRow, standIns := [], harness := (true, "fda57605f7d7bce1a1d8268de183ba7e54b1c950132a00a360cb29070ef8be42"), looks := true }, kinds := [], alts := [], laidByText := true, laidKinds := [.data, .data, .data, .pinned], laidTests := true, laidLooks := .later }
def PartHollowCardSaid : Prop := Claim7.holds Tryz.pinned (.plain (OpenSpec.ofChange partHollowSpec)) partHollowCard

/-- THE TIED CARD OF 'casementlaw06.PartSays'. -/
def partSaysCard : Claim7 := { stood := { row := partSaysRow, standIns := [], harness := (true, "fda57605f7d7bce1a1d8268de183ba7e54b1c950132a00a360cb29070ef8be42"), looks := true }, kinds := [], alts := [], laidByText := true, laidKinds := [.data, .data, .data, .pinned], laidTests := true, laidLooks := .later }
def PartSaysCardSaid : Prop := Claim7.holds Tryz.pinned (.plain (OpenSpec.ofChange partSaysSpec)) partSaysCard

/-- THE TIED CARD OF 'casementlaw06.PartRoom'. -/
def partRoomCard : Claim7 := { stood := { row := partRoomRow, standIns := [], harness := (true, "fda57605f7d7bce1a1d8268de183ba7e54b1c950132a00a360cb29070ef8be42"), looks := true }, kinds := [], alts := [], laidByText := true, laidKinds := [.data, .data, .data, .pinned], laidTests := true, laidLooks := .later }
def PartRoomCardSaid : Prop := Claim7.holds Tryz.pinned (.plain (OpenSpec.ofChange partRoomSpec)) partRoomCard

/-- THE SECOND FORM's CARD OF 'casementlaw06.PartMade'. -/
def partMadeUptoCard : Claim7 := { stood := { row := partMadeUptoRow, standIns := [], harness := (true, "fda57605f7d7bce1a1d8268de183ba7e54b1c950132a00a360cb29070ef8be42"), looks := true }, kinds := [], alts := [], laidByText := true, laidKinds := [.data, .data, .data, .pinned], laidTests := true, laidLooks := .later }
def PartMadeUptoCardSaid : Prop := Claim7.holds Tryz.pinned (.plain (OpenSpec.upto partMadeSpec)) partMadeUptoCard

/-- THE SECOND FORM's CARD OF 'casementlaw06.PartShown'. -/
def partShownUptoCard : Claim7 := { stood := { row := partShownUptoRow, standIns := [], harness := (true, "fda57605f7d7bce1a1d8268de183ba7e54b1c950132a00a360cb29070ef8be42"), looks := true }, kinds := [], alts := [], laidByText := true, laidKinds := [.data, .data, .data, .pinned], laidTests := true, laidLooks := .later }
def PartShownUptoCardSaid : Prop := Claim7.holds Tryz.pinned (.plain (OpenSpec.upto partShownSpec)) partShownUptoCard

/-- THE SECOND FORM's CARD OF 'casementlaw06.PartHollow'. -/
def partHollowUptoCard : Claim7 := { stood := { row := partHollowUptoRow, standIns := [], harness := (true, "fda57605f7d7bce1a1d8268de183ba7e54b1c950132a00a360cb29070ef8be42"), looks := true }, kinds := [], alts := [], laidByText := true, laidKinds := [.data, .data, .data, .pinned], laidTests := true, laidLooks := .later }
def PartHollowUptoCardSaid : Prop := Claim7.holds Tryz.pinned (.plain (OpenSpec.upto partHollowSpec)) partHollowUptoCard

/-- THE SECOND FORM's CARD OF 'casementlaw06.PartSays'. -/
def partSaysUptoCard : Claim7 := { stood := { row := partSaysUptoRow, standIns := [], harness := (true, "fda57605f7d7bce1a1d8268de183ba7e54b1c950132a00a360cb29070ef8be42"), looks := true }, kinds := [], alts := [], laidByText := true, laidKinds := [.data, .data, .data, .pinned], laidTests := true, laidLooks := .later }
def PartSaysUptoCardSaid : Prop := Claim7.holds Tryz.pinned (.plain (OpenSpec.upto partSaysSpec)) partSaysUptoCard

/-- THE SECOND FORM's CARD OF 'casementlaw06.PartRoom'. -/
def partRoomUptoCard : Claim7 := { stood := { row := partRoomUptoRow, standIns := [], harness := (true, "fda57605f7d7bce1a1d8268de183ba7e54b1c950132a00a360cb29070ef8be42"), looks := true }, kinds := [], alts := [], laidByText := true, laidKinds := [.data, .data, .data, .pinned], laidTests := true, laidLooks := .later }
def PartRoomUptoCardSaid : Prop := Claim7.holds Tryz.pinned (.plain (OpenSpec.upto partRoomSpec)) partRoomUptoCard
end Rows
end Go.Proofs.YtdbafcldpleogaaGreatDoor
