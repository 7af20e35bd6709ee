/-
  NARROWER THAN 'FOR EVERY INPUT', by the rows' own cells (each row's printed sentence says how): ColourNames: laid · ColourPalettes: laid.
  DERIVED. THE GIVEN ROWS OF THIS SEAT. 2 by the template 'for every input the law returns true; each argument reads behind the call as it read before'; 0 by the template 'total and deterministic' (their statements: YtbppadheejdhcaaDoorTotals.lean).
  GIVEN WITH THE SEED: the statements are not yours to turn. If you find one false, say at which input.
  Laid BY PROGRAM, IN A SANDBOX (cutbox-rows.mjs): the forced cells as the released guide's own fill.sh prints them over the translation 6783f3bcd0bdf368… (all of the seat's roots in one cut). By AI agents, Wed Nov 11 2026. No macro, syntax, notation, axiom, sorry.
-/
import Derived.Test.YtbppadheejdhcaaDoorChecked
import GoSem.Claim
import GoSem.ClaimJoined
import GoSem.ClaimMapViews
import Derived.JoinedTies
import Derived.KernelRfl
namespace Go.Proofs.YtbppadheejdhcaaDoor
/- THE CELL 'sum', in the pinned program and in every row, IS THE sha256 OF THE DUMP (.gsa) THAT YtbppadheejdhcaaDoorProg.lean LOADS. Nothing in Lean hashes anything: it is a label: what it is worth is what the hold of that sum in a sandbox is worth. -/
noncomputable def Tryd.pinned : Pinned := { name := "ytbppadheejdhcaadoor", sum := "6783f3bcd0bdf3686140aa3caedb6f8dc516885eba2ec622bc44fe700407d6f0", checked := Tryd.checked }
namespace Rows
def none {H : Type} : Left H := { results := [], args := [] }

/- WHAT THE LISTED PACKAGE-LEVEL VARIABLES READ AS WHEN THE CALL BEGINS. Each datum BY PROGRAM (the guide's laid-datum.mjs) off the statement by which the dump's own 'gosem.cut.vars' lays the variable. In a bare row this is a premise. The card (YtbppadheejdhcaaDoorCards.lean) ties it to the program's text. -/
def laid_casement_colour_few {H : Type} : DataW H := .agg [.lit (.int .u32 0), .lit (.int .u32 8388608), .lit (.int .u32 32768), .lit (.int .u32 8421376), .lit (.int .u32 128), .lit (.int .u32 8388736), .lit (.int .u32 32896), .lit (.int .u32 12632256), .lit (.int .u32 8421504), .lit (.int .u32 16711680), .lit (.int .u32 65280), .lit (.int .u32 16776960), .lit (.int .u32 255), .lit (.int .u32 16711935), .lit (.int .u32 65535), .lit (.int .u32 16777215)]
def laid_casement_colour_levels {H : Type} : DataW H := .agg [.lit (.int .u8 0), .lit (.int .u8 95), .lit (.int .u8 135), .lit (.int .u8 175), .lit (.int .u8 215), .lit (.int .u8 255)]

/-- 'casementlaw04.ColourNames': WHATEVER THE INPUT: true; the input reads as it did. -/
def colourNamesSpec : ChangeSpec := { name := "colourNames", fn := fun _ => fun
  | [] => { results := [.lit (.bool true)], args := [] }
  | _ => none }
def colourNamesRow : OpenClaim := { program := "ytbppadheejdhcaadoor", sum := "6783f3bcd0bdf3686140aa3caedb6f8dc516885eba2ec622bc44fe700407d6f0", func := "casement/casementlaw04.ColourNames", spec := "colourNames", named := ["casement/colour.few", "casement/colour.levels"], apart := false, laid := [("casement/colour.few", laid_casement_colour_few), ("casement/colour.levels", laid_casement_colour_levels)] }
def ColourNamesSaid : Prop := colourNamesRow.holds Tryd.pinned (OpenSpec.ofChange colourNamesSpec)

/-- ITS FALSE NEIGHBOUR: 'it returns false'. Refute it at one input. -/
def colourNamesWrong : ChangeSpec := { name := "colourNames", fn := fun _ => fun
  | [] => { results := [.lit (.bool false)], args := [] }
  | _ => none }
def ColourNamesWrongFalsely : Prop := colourNamesRow.holds Tryd.pinned (OpenSpec.ofChange colourNamesWrong)

/-- 'casementlaw04.ColourPalettes': WHATEVER THE INPUT: true; the input reads as it did. -/
def colourPalettesSpec : ChangeSpec := { name := "colourPalettes", fn := fun _ => fun
  | [d1, d2] => { results := [.lit (.bool true)], args := [d1, d2] }
  | _ => none }
def colourPalettesRow : OpenClaim := { program := "ytbppadheejdhcaadoor", sum := "6783f3bcd0bdf3686140aa3caedb6f8dc516885eba2ec622bc44fe700407d6f0", func := "casement/casementlaw04.ColourPalettes", spec := "colourPalettes", named := ["casement/colour.few", "casement/colour.levels"], apart := false, laid := [("casement/colour.few", laid_casement_colour_few), ("casement/colour.levels", laid_casement_colour_levels)] }
def ColourPalettesSaid : Prop := colourPalettesRow.holds Tryd.pinned (OpenSpec.ofChange colourPalettesSpec)

/-- ITS FALSE NEIGHBOUR: 'it returns false'. Refute it at one input. -/
def colourPalettesWrong : ChangeSpec := { name := "colourPalettes", fn := fun _ => fun
  | [d1, d2] => { results := [.lit (.bool false)], args := [d1, d2] }
  | _ => none }
def ColourPalettesWrongFalsely : Prop := colourPalettesRow.holds Tryd.pinned (OpenSpec.ofChange colourPalettesWrong)

/- THE SECOND FORM. 'bulk': how many values and letters a reading holds, each counted each time it is reached (what is shared counts as often as it is met; a slice's spare places count too). A statement '..UptoSaid' is the law's where the arguments, and the package variables that the reading takes, are together of bulk at most 1048576: NARROWER than '..Said'. Prove '..Said' where nothing that the law and all that it calls make is longer than what came in: it says more and counts as full. Else prove '..UptoSaid'. A law counts once. -/
mutual
def uptoBulk {H : Type} : DataW H → Nat
  | .lit (.string bytes) => bytes.length + 1
  | .lit _ => 1
  | .nil => 1
  | .ptr d => uptoBulk d + 1
  | .slice elems spare => uptoBulkAll elems + uptoBulkAll spare + 1
  | .agg parts => uptoBulkAll parts + 1
  | .iface _ d => uptoBulk d + 1
  | .map entries => uptoBulkEntries entries + 1
  | .held _ => 1
def uptoBulkAll {H : Type} : List (DataW H) → Nat
  | [] => 0
  | d :: r => uptoBulk d + uptoBulkAll r
def uptoBulkEntries {H : Type} : List (Lit × DataW H) → Nat
  | [] => 0
  | x :: r => uptoBulkEntry x + uptoBulkEntries r
def uptoBulkEntry {H : Type} : Lit × DataW H → Nat
  | (.string bytes, d) => bytes.length + uptoBulk d + 1
  | (_, d) => uptoBulk d + 1
 end
def uptoSmall : (H : Type) → List (DataW H) → Bool := fun _ ds => decide (uptoBulkAll ds ≤ 1048576)
def OpenSpec.upto (s : _root_.Go.ChangeSpec) : _root_.Go.OpenSpec := { _root_.Go.OpenSpec.ofChange s with cond := some uptoSmall }

/-- 'casementlaw04.ColourNames', WHERE WHAT IT READS IS OF BULK AT MOST 1048576: true; the input reads as it did. -/
def colourNamesUptoRow : OpenClaim := { program := "ytbppadheejdhcaadoor", sum := "6783f3bcd0bdf3686140aa3caedb6f8dc516885eba2ec622bc44fe700407d6f0", func := "casement/casementlaw04.ColourNames", spec := "colourNames", named := ["casement/colour.few", "casement/colour.levels"], apart := false, laid := [("casement/colour.few", laid_casement_colour_few), ("casement/colour.levels", laid_casement_colour_levels)], narrowed := true }
def ColourNamesUptoSaid : Prop := colourNamesUptoRow.holds Tryd.pinned (OpenSpec.upto colourNamesSpec)

/-- 'casementlaw04.ColourPalettes', WHERE WHAT IT READS IS OF BULK AT MOST 1048576: true; the input reads as it did. -/
def colourPalettesUptoRow : OpenClaim := { program := "ytbppadheejdhcaadoor", sum := "6783f3bcd0bdf3686140aa3caedb6f8dc516885eba2ec622bc44fe700407d6f0", func := "casement/casementlaw04.ColourPalettes", spec := "colourPalettes", named := ["casement/colour.few", "casement/colour.levels"], apart := false, laid := [("casement/colour.few", laid_casement_colour_few), ("casement/colour.levels", laid_casement_colour_levels)], narrowed := true }
def ColourPalettesUptoSaid : Prop := colourPalettesUptoRow.holds Tryd.pinned (OpenSpec.upto colourPalettesSpec)

end Rows
end Go.Proofs.YtbppadheejdhcaaDoor
