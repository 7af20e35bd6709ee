/-
  No cell of these rows narrows 'for every input' (looked for: loops, veiled, ifaces, maps, wideKeys, modest, calm, conditions, laid).
  DERIVED. THE GIVEN ROWS OF THIS SEAT. 2 by the template 'for every input the law returns true; each argument reads behind the call as it read before'; 0 by the template 'total and deterministic' (their statements: YtbghjmkgicdnoaaGreatTotals.lean).
  GIVEN WITH THE SEED: the statements are not yours to turn. If you find one false, say at which input.
  Laid BY PROGRAM, IN A SANDBOX (cutbox-rows.mjs): the forced cells as the released guide's own fill.sh prints them over the translation 710e4998eba8e8d8… (all of the seat's roots in one cut). By AI agents, Wed Nov 11 2026. No macro, syntax, notation, axiom, sorry.
-/
import Derived.Test.YtbghjmkgicdnoaaGreatChecked
import GoSem.Claim
import GoSem.ClaimJoined
import GoSem.ClaimMapViews
import Derived.JoinedTies
import Derived.KernelRfl
namespace Go.Proofs.YtbghjmkgicdnoaaGreat
/- THE CELL 'sum', in the pinned program and in every row, IS THE sha256 OF THE DUMP (.gsa) THAT YtbghjmkgicdnoaaGreatProg.lean LOADS. Nothing in Lean hashes anything: it is a label: what it is worth is what the hold of that sum in a sandbox is worth. -/
noncomputable def Tryz.pinned : Pinned := { name := "ytbghjmkgicdnoaagreat", sum := "710e4998eba8e8d861a6c3892eb6522c52fe6024499de5e595649ba93dcb42c2", checked := Tryz.checked }
namespace Rows
def none {H : Type} : Left H := { results := [], args := [] }

/-- 'casementlaw13.ListFlats': WHATEVER THE INPUT: true; the input reads as it did. -/
def listFlatsSpec : ChangeSpec := { name := "listFlats", fn := fun _ => fun
  | [d] => { results := [.lit (.bool true)], args := [d] }
  | _ => none }
def listFlatsRow : OpenClaim := { program := "ytbghjmkgicdnoaagreat", sum := "710e4998eba8e8d861a6c3892eb6522c52fe6024499de5e595649ba93dcb42c2", func := "casement/casementlaw13.ListFlats", spec := "listFlats", unfollowed := true, recurses := true, apart := false }
def ListFlatsSaid : Prop := listFlatsRow.holds Tryz.pinned (OpenSpec.ofChange listFlatsSpec)

/-- ITS FALSE NEIGHBOUR: 'it returns false'. Refute it at one input. -/
def listFlatsWrong : ChangeSpec := { name := "listFlats", fn := fun _ => fun
  | [d] => { results := [.lit (.bool false)], args := [d] }
  | _ => none }
def ListFlatsWrongFalsely : Prop := listFlatsRow.holds Tryz.pinned (OpenSpec.ofChange listFlatsWrong)

/-- 'casementlaw13.ListNorms': WHATEVER THE INPUT: true; the input reads as it did. -/
def listNormsSpec : ChangeSpec := { name := "listNorms", fn := fun _ => fun
  | [d1, d2] => { results := [.lit (.bool true)], args := [d1, d2] }
  | _ => none }
def listNormsRow : OpenClaim := { program := "ytbghjmkgicdnoaagreat", sum := "710e4998eba8e8d861a6c3892eb6522c52fe6024499de5e595649ba93dcb42c2", func := "casement/casementlaw13.ListNorms", spec := "listNorms", unfollowed := true, recurses := true, apart := false }
def ListNormsSaid : Prop := listNormsRow.holds Tryz.pinned (OpenSpec.ofChange listNormsSpec)

/-- ITS FALSE NEIGHBOUR: 'it returns false'. Refute it at one input. -/
def listNormsWrong : ChangeSpec := { name := "listNorms", fn := fun _ => fun
  | [d1, d2] => { results := [.lit (.bool false)], args := [d1, d2] }
  | _ => none }
def ListNormsWrongFalsely : Prop := listNormsRow.holds Tryz.pinned (OpenSpec.ofChange listNormsWrong)

/- THE SECOND FORM. 'bulk': how many values and letters a reading holds, each counted each time it is reached (what is shared counts as often as it is met; a slice's spare places count too). A statement '..UptoSaid' is the law's where the arguments, and the package variables that the reading takes, are together of bulk at most 1048576: NARROWER than '..Said'. Prove '..Said' where nothing that the law and all that it calls make is longer than what came in: it says more and counts as full. Else prove '..UptoSaid'. A law counts once. -/
mutual
def uptoBulk {H : Type} : DataW H → Nat
  | .lit (.string bytes) => bytes.length + 1
  | .lit _ => 1
  | .nil => 1
  | .ptr d => uptoBulk d + 1
  | .slice elems spare => uptoBulkAll elems + uptoBulkAll spare + 1
  | .agg parts => uptoBulkAll parts + 1
  | .iface _ d => uptoBulk d + 1
  | .map entries => uptoBulkEntries entries + 1
  | .held _ => 1
def uptoBulkAll {H : Type} : List (DataW H) → Nat
  | [] => 0
  | d :: r => uptoBulk d + uptoBulkAll r
def uptoBulkEntries {H : Type} : List (Lit × DataW H) → Nat
  | [] => 0
  | x :: r => uptoBulkEntry x + uptoBulkEntries r
def uptoBulkEntry {H : Type} : Lit × DataW H → Nat
  | (.string bytes, d) => bytes.length + uptoBulk d + 1
  | (_, d) => uptoBulk d + 1
 end
def uptoSmall : (H : Type) → List (DataW H) → Bool := fun _ ds => decide (uptoBulkAll ds ≤ 1048576)
def OpenSpec.upto (s : _root_.Go.ChangeSpec) : _root_.Go.OpenSpec := { _root_.Go.OpenSpec.ofChange s with cond := some uptoSmall }

/-- 'casementlaw13.ListFlats', WHERE WHAT IT READS IS OF BULK AT MOST 1048576: true; the input reads as it did. -/
def listFlatsUptoRow : OpenClaim := { program := "ytbghjmkgicdnoaagreat", sum := "710e4998eba8e8d861a6c3892eb6522c52fe6024499de5e595649ba93dcb42c2", func := "casement/casementlaw13.ListFlats", spec := "listFlats", unfollowed := true, recurses := true, apart := false, narrowed := true }
def ListFlatsUptoSaid : Prop := listFlatsUptoRow.holds Tryz.pinned (OpenSpec.upto listFlatsSpec)

/-- 'casementlaw13.ListNorms', WHERE WHAT IT READS IS OF BULK AT MOST 1048576: true; the input reads as it did. -/
def listNormsUptoRow : OpenClaim := { program := "ytbghjmkgicdnoaagreat", sum := "710e4998eba8e8d861a6c3892eb6522c52fe6024499de5e595649ba93dcb42c2", func := "casement/casementlaw13.ListNorms", spec := "listNorms", unfollowed := true, recurses := true, apart := false, narrowed := true }
def ListNormsUptoSaid : Prop := listNormsUptoRow.holds Tryz.pinned (OpenSpec.upto listNormsSpec)

end Rows
end Go.Proofs.YtbghjmkgicdnoaaGreat
