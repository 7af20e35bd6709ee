/-
  No cell of these rows narrows 'for every input' (looked for: loops, veiled, ifaces, maps, wideKeys, modest, calm, conditions, laid).
  DERIVED. THE GIVEN ROWS OF THIS SEAT. 5 by the template 'for every input the law returns true; each argument reads behind the call as it read before'; 0 by the template 'total and deterministic' (their statements: YtchjmmchflbfcaaTotals.lean).
  GIVEN WITH THE SEED: the statements are not yours to turn. If you find one false, say at which input.
  Laid BY PROGRAM, IN A SANDBOX (cutbox-rows.mjs): the forced cells as the released guide's own fill.sh prints them over the translation 7f0a2a3a54af31f4… (all of the seat's roots in one cut). By AI agents, Wed Nov 11 2026. No macro, syntax, notation, axiom, sorry.
-/
import Derived.Test.YtchjmmchflbfcaaChecked
import GoSem.Claim
import GoSem.ClaimJoined
import GoSem.ClaimMapViews
import Derived.JoinedTies
import Derived.KernelRfl
namespace Go.Proofs.Ytchjmmchflbfcaa
/- THE CELL 'sum', in the pinned program and in every row, IS THE sha256 OF THE DUMP (.gsa) THAT YtchjmmchflbfcaaProg.lean LOADS. Nothing in Lean hashes anything: it is a label: what it is worth is what the hold of that sum in a sandbox is worth. -/
noncomputable def Try.pinned : Pinned := { name := "ytchjmmchflbfcaa", sum := "7f0a2a3a54af31f472dcbe2d9f1f31c9991b68c44d3417930450db4ac997bfb0", checked := Try.checked }
namespace Rows
def none {H : Type} : Left H := { results := [], args := [] }

/-- 'casementlaw10.FlexNames': WHATEVER THE INPUT: true; the input reads as it did. -/
def flexNamesSpec : ChangeSpec := { name := "flexNames", fn := fun _ => fun
  | [] => { results := [.lit (.bool true)], args := [] }
  | _ => none }
def flexNamesRow : OpenClaim := { program := "ytchjmmchflbfcaa", sum := "7f0a2a3a54af31f472dcbe2d9f1f31c9991b68c44d3417930450db4ac997bfb0", func := "casement/casementlaw10.FlexNames", spec := "flexNames", unfollowed := true, recurses := true, apart := false }
def FlexNamesSaid : Prop := flexNamesRow.holds Try.pinned (OpenSpec.ofChange flexNamesSpec)

/-- ITS FALSE NEIGHBOUR: 'it returns false'. Refute it at one input. -/
def flexNamesWrong : ChangeSpec := { name := "flexNames", fn := fun _ => fun
  | [] => { results := [.lit (.bool false)], args := [] }
  | _ => none }
def FlexNamesWrongFalsely : Prop := flexNamesRow.holds Try.pinned (OpenSpec.ofChange flexNamesWrong)

/-- 'casementlaw10.FlexShares': WHATEVER THE INPUT: true; the input reads as it did. -/
def flexSharesSpec : ChangeSpec := { name := "flexShares", fn := fun _ => fun
  | [d1, d2] => { results := [.lit (.bool true)], args := [d1, d2] }
  | _ => none }
def flexSharesRow : OpenClaim := { program := "ytchjmmchflbfcaa", sum := "7f0a2a3a54af31f472dcbe2d9f1f31c9991b68c44d3417930450db4ac997bfb0", func := "casement/casementlaw10.FlexShares", spec := "flexShares", unfollowed := true, recurses := true, apart := false }
def FlexSharesSaid : Prop := flexSharesRow.holds Try.pinned (OpenSpec.ofChange flexSharesSpec)

/-- ITS FALSE NEIGHBOUR: 'it returns false'. Refute it at one input. -/
def flexSharesWrong : ChangeSpec := { name := "flexShares", fn := fun _ => fun
  | [d1, d2] => { results := [.lit (.bool false)], args := [d1, d2] }
  | _ => none }
def FlexSharesWrongFalsely : Prop := flexSharesRow.holds Try.pinned (OpenSpec.ofChange flexSharesWrong)

/-- 'casementlaw10.FlexRows': WHATEVER THE INPUT: true; the input reads as it did. -/
def flexRowsSpec : ChangeSpec := { name := "flexRows", fn := fun _ => fun
  | [d1, d2, d3, d4] => { results := [.lit (.bool true)], args := [d1, d2, d3, d4] }
  | _ => none }
def flexRowsRow : OpenClaim := { program := "ytchjmmchflbfcaa", sum := "7f0a2a3a54af31f472dcbe2d9f1f31c9991b68c44d3417930450db4ac997bfb0", func := "casement/casementlaw10.FlexRows", spec := "flexRows", unfollowed := true, recurses := true, apart := false }
def FlexRowsSaid : Prop := flexRowsRow.holds Try.pinned (OpenSpec.ofChange flexRowsSpec)

/-- ITS FALSE NEIGHBOUR: 'it returns false'. Refute it at one input. -/
def flexRowsWrong : ChangeSpec := { name := "flexRows", fn := fun _ => fun
  | [d1, d2, d3, d4] => { results := [.lit (.bool false)], args := [d1, d2, d3, d4] }
  | _ => none }
def FlexRowsWrongFalsely : Prop := flexRowsRow.holds Try.pinned (OpenSpec.ofChange flexRowsWrong)

/-- 'casementlaw10.FlexFair': WHATEVER THE INPUT: true; the input reads as it did. -/
def flexFairSpec : ChangeSpec := { name := "flexFair", fn := fun _ => fun
  | [d1, d2] => { results := [.lit (.bool true)], args := [d1, d2] }
  | _ => none }
def flexFairRow : OpenClaim := { program := "ytchjmmchflbfcaa", sum := "7f0a2a3a54af31f472dcbe2d9f1f31c9991b68c44d3417930450db4ac997bfb0", func := "casement/casementlaw10.FlexFair", spec := "flexFair", unfollowed := true, recurses := true, apart := false }
def FlexFairSaid : Prop := flexFairRow.holds Try.pinned (OpenSpec.ofChange flexFairSpec)

/-- ITS FALSE NEIGHBOUR: 'it returns false'. Refute it at one input. -/
def flexFairWrong : ChangeSpec := { name := "flexFair", fn := fun _ => fun
  | [d1, d2] => { results := [.lit (.bool false)], args := [d1, d2] }
  | _ => none }
def FlexFairWrongFalsely : Prop := flexFairRow.holds Try.pinned (OpenSpec.ofChange flexFairWrong)

/-- 'casementlaw10.FlexRow': WHATEVER THE INPUT: true; the input reads as it did. -/
def flexRowSpec : ChangeSpec := { name := "flexRow", fn := fun _ => fun
  | [d1, d2, d3] => { results := [.lit (.bool true)], args := [d1, d2, d3] }
  | _ => none }
def flexRowRow : OpenClaim := { program := "ytchjmmchflbfcaa", sum := "7f0a2a3a54af31f472dcbe2d9f1f31c9991b68c44d3417930450db4ac997bfb0", func := "casement/casementlaw10.FlexRow", spec := "flexRow", unfollowed := true, recurses := true, apart := false }
def FlexRowSaid : Prop := flexRowRow.holds Try.pinned (OpenSpec.ofChange flexRowSpec)

/-- ITS FALSE NEIGHBOUR: 'it returns false'. Refute it at one input. -/
def flexRowWrong : ChangeSpec := { name := "flexRow", fn := fun _ => fun
  | [d1, d2, d3] => { results := [.lit (.bool false)], args := [d1, d2, d3] }
  | _ => none }
def FlexRowWrongFalsely : Prop := flexRowRow.holds Try.pinned (OpenSpec.ofChange flexRowWrong)

/- THE SECOND FORM. 'bulk': how many values and letters a reading holds, each counted each time it is reached (what is shared counts as often as it is met; a slice's spare places count too). A statement '..UptoSaid' is the law's where the arguments, and the package variables that the reading takes, are together of bulk at most 1048576: NARROWER than '..Said'. Prove '..Said' where nothing that the law and all that it calls make is longer than what came in: it says more and counts as full. Else prove '..UptoSaid'. A law counts once. -/
mutual
def uptoBulk {H : Type} : DataW H → Nat
  | .lit (.string bytes) => bytes.length + 1
  | .lit _ => 1
  | .nil => 1
  | .ptr d => uptoBulk d + 1
  | .slice elems spare => uptoBulkAll elems + uptoBulkAll spare + 1
  | .agg parts => uptoBulkAll parts + 1
  | .iface _ d => uptoBulk d + 1
  | .map entries => uptoBulkEntries entries + 1
  | .held _ => 1
def uptoBulkAll {H : Type} : List (DataW H) → Nat
  | [] => 0
  | d :: r => uptoBulk d + uptoBulkAll r
def uptoBulkEntries {H : Type} : List (Lit × DataW H) → Nat
  | [] => 0
  | x :: r => uptoBulkEntry x + uptoBulkEntries r
def uptoBulkEntry {H : Type} : Lit × DataW H → Nat
  | (.string bytes, d) => bytes.length + uptoBulk d + 1
  | (_, d) => uptoBulk d + 1
 end
def uptoSmall : (H : Type) → List (DataW H) → Bool := fun _ ds => decide (uptoBulkAll ds ≤ 1048576)
def OpenSpec.upto (s : _root_.Go.ChangeSpec) : _root_.Go.OpenSpec := { _root_.Go.OpenSpec.ofChange s with cond := some uptoSmall }

/-- 'casementlaw10.FlexNames', WHERE WHAT IT READS IS OF BULK AT MOST 1048576: true; the input reads as it did. -/
def flexNamesUptoRow : OpenClaim := { program := "ytchjmmchflbfcaa", sum := "7f0a2a3a54af31f472dcbe2d9f1f31c9991b68c44d3417930450db4ac997bfb0", func := "casement/casementlaw10.FlexNames", spec := "flexNames", unfollowed := true, recurses := true, apart := false, narrowed := true }
def FlexNamesUptoSaid : Prop := flexNamesUptoRow.holds Try.pinned (OpenSpec.upto flexNamesSpec)

/-- 'casementlaw10.FlexShares', WHERE WHAT IT READS IS OF BULK AT MOST 1048576: true; the input reads as it did. -/
def flexSharesUptoRow : OpenClaim := { program := "ytchjmmchflbfcaa", sum := "7f0a2a3a54af31f472dcbe2d9f1f31c9991b68c44d3417930450db4ac997bfb0", func := "casement/casementlaw10.FlexShares", spec := "flexShares", unfollowed := true, recurses := true, apart := false, narrowed := true }
def FlexSharesUptoSaid : Prop := flexSharesUptoRow.holds Try.pinned (OpenSpec.upto flexSharesSpec)

/-- 'casementlaw10.FlexRows', WHERE WHAT IT READS IS OF BULK AT MOST 1048576: true; the input reads as it did. -/
def flexRowsUptoRow : OpenClaim := { program := "ytchjmmchflbfcaa", sum := "7f0a2a3a54af31f472dcbe2d9f1f31c9991b68c44d3417930450db4ac997bfb0", func := "casement/casementlaw10.FlexRows", spec := "flexRows", unfollowed := true, recurses := true, apart := false, narrowed := true }
def FlexRowsUptoSaid : Prop := flexRowsUptoRow.holds Try.pinned (OpenSpec.upto flexRowsSpec)

/-- 'casementlaw10.FlexFair', WHERE WHAT IT READS IS OF BULK AT MOST 1048576: true; the input reads as it did. -/
def flexFairUptoRow : OpenClaim := { program := "ytchjmmchflbfcaa", sum := "7f0a2a3a54af31f472dcbe2d9f1f31c9991b68c44d3417930450db4ac997bfb0", func := "casement/casementlaw10.FlexFair", spec := "flexFair", unfollowed := true, recurses := true, apart := false, narrowed := true }
def FlexFairUptoSaid : Prop := flexFairUptoRow.holds Try.pinned (OpenSpec.upto flexFairSpec)

/-- 'casementlaw10.FlexRow', WHERE WHAT IT READS IS OF BULK AT MOST 1048576: true; the input reads as it did. -/
def flexRowUptoRow : OpenClaim := { program := "ytchjmmchflbfcaa", sum := "7f0a2a3a54af31f472dcbe2d9f1f31c9991b68c44d3417930450db4ac997bfb0", func := "casement/casementlaw10.FlexRow", spec := "flexRow", unfollowed := true, recurses := true, apart := false, narrowed := true }
def FlexRowUptoSaid : Prop := flexRowUptoRow.holds Try.pinned (OpenSpec.upto flexRowSpec)

end Rows
end Go.Proofs.Ytchjmmchflbfcaa
