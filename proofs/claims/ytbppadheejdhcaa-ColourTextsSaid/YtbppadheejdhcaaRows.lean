/-
  No cell of these rows narrows 'for every input' (looked for: loops, veiled, ifaces, maps, wideKeys, modest, calm, conditions, laid).
  DERIVED. THE GIVEN ROWS OF THIS SEAT. 4 by the template 'for every input the law returns true; each argument reads behind the call as it read before'; 0 by the template 'total and deterministic' (their statements: YtbppadheejdhcaaTotals.lean).
  GIVEN WITH THE SEED: the statements are not yours to turn. If you find one false, say at which input.
  Laid BY PROGRAM, IN A SANDBOX (cutbox-rows.mjs): the forced cells as the released guide's own fill.sh prints them over the translation 102fc519e47ada04… (all of the seat's roots in one cut). By AI agents, Wed Nov 11 2026. No macro, syntax, notation, axiom, sorry.
-/
import Derived.Test.YtbppadheejdhcaaChecked
import GoSem.Claim
import GoSem.ClaimJoined
import GoSem.ClaimMapViews
import Derived.JoinedTies
import Derived.KernelRfl
namespace Go.Proofs.Ytbppadheejdhcaa
/- THE CELL 'sum', in the pinned program and in every row, IS THE sha256 OF THE DUMP (.gsa) THAT YtbppadheejdhcaaProg.lean LOADS. Nothing in Lean hashes anything: it is a label: what it is worth is what the hold of that sum in a sandbox is worth. -/
noncomputable def Try.pinned : Pinned := { name := "ytbppadheejdhcaa", sum := "102fc519e47ada043b5bc761d9f5e9302f068fd1663558e71afe840eaade9b3b", checked := Try.checked }
namespace Rows
def none {H : Type} : Left H := { results := [], args := [] }

/-- 'casementlaw04.ColourTexts': WHATEVER THE INPUT: true; the input reads as it did. -/
def colourTextsSpec : ChangeSpec := { name := "colourTexts", fn := fun _ => fun
  | [d1, d2] => { results := [.lit (.bool true)], args := [d1, d2] }
  | _ => none }
def colourTextsRow : OpenClaim := { program := "ytbppadheejdhcaa", sum := "102fc519e47ada043b5bc761d9f5e9302f068fd1663558e71afe840eaade9b3b", func := "casement/casementlaw04.ColourTexts", spec := "colourTexts", apart := false }
def ColourTextsSaid : Prop := colourTextsRow.holds Try.pinned (OpenSpec.ofChange colourTextsSpec)

/-- ITS FALSE NEIGHBOUR: 'it returns false'. Refute it at one input. -/
def colourTextsWrong : ChangeSpec := { name := "colourTexts", fn := fun _ => fun
  | [d1, d2] => { results := [.lit (.bool false)], args := [d1, d2] }
  | _ => none }
def ColourTextsWrongFalsely : Prop := colourTextsRow.holds Try.pinned (OpenSpec.ofChange colourTextsWrong)

/-- 'casementlaw04.ColourMixes': WHATEVER THE INPUT: true; the input reads as it did. -/
def colourMixesSpec : ChangeSpec := { name := "colourMixes", fn := fun _ => fun
  | [d1, d2, d3] => { results := [.lit (.bool true)], args := [d1, d2, d3] }
  | _ => none }
def colourMixesRow : OpenClaim := { program := "ytbppadheejdhcaa", sum := "102fc519e47ada043b5bc761d9f5e9302f068fd1663558e71afe840eaade9b3b", func := "casement/casementlaw04.ColourMixes", spec := "colourMixes", apart := false }
def ColourMixesSaid : Prop := colourMixesRow.holds Try.pinned (OpenSpec.ofChange colourMixesSpec)

/-- ITS FALSE NEIGHBOUR: 'it returns false'. Refute it at one input. -/
def colourMixesWrong : ChangeSpec := { name := "colourMixes", fn := fun _ => fun
  | [d1, d2, d3] => { results := [.lit (.bool false)], args := [d1, d2, d3] }
  | _ => none }
def ColourMixesWrongFalsely : Prop := colourMixesRow.holds Try.pinned (OpenSpec.ofChange colourMixesWrong)

/-- 'casementlaw04.ColourBack': WHATEVER THE INPUT: true; the input reads as it did. -/
def colourBackSpec : ChangeSpec := { name := "colourBack", fn := fun _ => fun
  | [d1, d2] => { results := [.lit (.bool true)], args := [d1, d2] }
  | _ => none }
def colourBackRow : OpenClaim := { program := "ytbppadheejdhcaa", sum := "102fc519e47ada043b5bc761d9f5e9302f068fd1663558e71afe840eaade9b3b", func := "casement/casementlaw04.ColourBack", spec := "colourBack", apart := false }
def ColourBackSaid : Prop := colourBackRow.holds Try.pinned (OpenSpec.ofChange colourBackSpec)

/-- ITS FALSE NEIGHBOUR: 'it returns false'. Refute it at one input. -/
def colourBackWrong : ChangeSpec := { name := "colourBack", fn := fun _ => fun
  | [d1, d2] => { results := [.lit (.bool false)], args := [d1, d2] }
  | _ => none }
def ColourBackWrongFalsely : Prop := colourBackRow.holds Try.pinned (OpenSpec.ofChange colourBackWrong)

/-- 'casementlaw04.ColourBetween': WHATEVER THE INPUT: true; the input reads as it did. -/
def colourBetweenSpec : ChangeSpec := { name := "colourBetween", fn := fun _ => fun
  | [d1, d2, d3] => { results := [.lit (.bool true)], args := [d1, d2, d3] }
  | _ => none }
def colourBetweenRow : OpenClaim := { program := "ytbppadheejdhcaa", sum := "102fc519e47ada043b5bc761d9f5e9302f068fd1663558e71afe840eaade9b3b", func := "casement/casementlaw04.ColourBetween", spec := "colourBetween", apart := false }
def ColourBetweenSaid : Prop := colourBetweenRow.holds Try.pinned (OpenSpec.ofChange colourBetweenSpec)

/-- ITS FALSE NEIGHBOUR: 'it returns false'. Refute it at one input. -/
def colourBetweenWrong : ChangeSpec := { name := "colourBetween", fn := fun _ => fun
  | [d1, d2, d3] => { results := [.lit (.bool false)], args := [d1, d2, d3] }
  | _ => none }
def ColourBetweenWrongFalsely : Prop := colourBetweenRow.holds Try.pinned (OpenSpec.ofChange colourBetweenWrong)

/- THE SECOND FORM. 'bulk': how many values and letters a reading holds, each counted each time it is reached (what is shared counts as often as it is met; a slice's spare places count too). A statement '..UptoSaid' is the law's where the arguments, and the package variables that the reading takes, are together of bulk at most 1048576: NARROWER than '..Said'. Prove '..Said' where nothing that the law and all that it calls make is longer than what came in: it says more and counts as full. Else prove '..UptoSaid'. A law counts once. -/
mutual
def uptoBulk {H : Type} : DataW H → Nat
  | .lit (.string bytes) => bytes.length + 1
  | .lit _ => 1
  | .nil => 1
  | .ptr d => uptoBulk d + 1
  | .slice elems spare => uptoBulkAll elems + uptoBulkAll spare + 1
  | .agg parts => uptoBulkAll parts + 1
  | .iface _ d => uptoBulk d + 1
  | .map entries => uptoBulkEntries entries + 1
  | .held _ => 1
def uptoBulkAll {H : Type} : List (DataW H) → Nat
  | [] => 0
  | d :: r => uptoBulk d + uptoBulkAll r
def uptoBulkEntries {H : Type} : List (Lit × DataW H) → Nat
  | [] => 0
  | x :: r => uptoBulkEntry x + uptoBulkEntries r
def uptoBulkEntry {H : Type} : Lit × DataW H → Nat
  | (.string bytes, d) => bytes.length + uptoBulk d + 1
  | (_, d) => uptoBulk d + 1
 end
def uptoSmall : (H : Type) → List (DataW H) → Bool := fun _ ds => decide (uptoBulkAll ds ≤ 1048576)
def OpenSpec.upto (s : _root_.Go.ChangeSpec) : _root_.Go.OpenSpec := { _root_.Go.OpenSpec.ofChange s with cond := some uptoSmall }

/-- 'casementlaw04.ColourTexts', WHERE WHAT IT READS IS OF BULK AT MOST 1048576: true; the input reads as it did. -/
def colourTextsUptoRow : OpenClaim := { program := "ytbppadheejdhcaa", sum := "102fc519e47ada043b5bc761d9f5e9302f068fd1663558e71afe840eaade9b3b", func := "casement/casementlaw04.ColourTexts", spec := "colourTexts", apart := false, narrowed := true }
def ColourTextsUptoSaid : Prop := colourTextsUptoRow.holds Try.pinned (OpenSpec.upto colourTextsSpec)

/-- 'casementlaw04.ColourMixes', WHERE WHAT IT READS IS OF BULK AT MOST 1048576: true; the input reads as it did. -/
def colourMixesUptoRow : OpenClaim := { program := "ytbppadheejdhcaa", sum := "102fc519e47ada043b5bc761d9f5e9302f068fd1663558e71afe840eaade9b3b", func := "casement/casementlaw04.ColourMixes", spec := "colourMixes", apart := false, narrowed := true }
def ColourMixesUptoSaid : Prop := colourMixesUptoRow.holds Try.pinned (OpenSpec.upto colourMixesSpec)

/-- 'casementlaw04.ColourBack', WHERE WHAT IT READS IS OF BULK AT MOST 1048576: true; the input reads as it did. -/
def colourBackUptoRow : OpenClaim := { program := "ytbppadheejdhcaa", sum := "102fc519e47ada043b5bc761d9f5e9302f068fd1663558e71afe840eaade9b3b", func := "casement/casementlaw04.ColourBack", spec := "colourBack", apart := false, narrowed := true }
def ColourBackUptoSaid : Prop := colourBackUptoRow.holds Try.pinned (OpenSpec.upto colourBackSpec)

/-- 'casementlaw04.ColourBetween', WHERE WHAT IT READS IS OF BULK AT MOST 1048576: true; the input reads as it did. -/
def colourBetweenUptoRow : OpenClaim := { program := "ytbppadheejdhcaa", sum := "102fc519e47ada043b5bc761d9f5e9302f068fd1663558e71afe840eaade9b3b", func := "casement/casementlaw04.ColourBetween", spec := "colourBetween", apart := false, narrowed := true }
def ColourBetweenUptoSaid : Prop := colourBetweenUptoRow.holds Try.pinned (OpenSpec.upto colourBetweenSpec)

end Rows
end Go.Proofs.Ytbppadheejdhcaa
