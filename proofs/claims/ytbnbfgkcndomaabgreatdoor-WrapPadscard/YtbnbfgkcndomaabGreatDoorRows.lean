/-
  NARROWER THAN 'FOR EVERY INPUT', by the rows' own cells (each row's printed sentence says how): WrapMade: laid · WrapHollow: laid · WrapShows: laid · WrapPads: laid · TopWrapped: laid.
  DERIVED. THE GIVEN ROWS OF THIS SEAT. 5 by the template 'for every input the law returns true; each argument reads behind the call as it read before'; 0 by the template 'total and deterministic' (their statements: YtbnbfgkcndomaabGreatDoorTotals.lean).
  GIVEN WITH THE SEED: the statements are not yours to turn. If you find one false, say at which input.
  Laid BY PROGRAM, IN A SANDBOX (cutbox-rows.mjs): the forced cells as the released guide's own fill.sh prints them over the translation 743d697c4a69370d… (all of the seat's roots in one cut). By AI agents, Wed Nov 11 2026. No macro, syntax, notation, axiom, sorry.
-/
import Derived.Test.YtbnbfgkcndomaabGreatDoorChecked
import GoSem.PinnedTables
import GoSem.Claim
import GoSem.ClaimJoined
import GoSem.ClaimMapViews
import Derived.JoinedTies
import Derived.KernelRfl
namespace Go.Proofs.YtbnbfgkcndomaabGreatDoor
/- THE CELL 'sum', in the pinned program and in every row, IS THE sha256 OF THE DUMP (.gsa) THAT YtbnbfgkcndomaabGreatDoorProg.lean LOADS. Nothing in Lean hashes anything: it is a label: what it is worth is what the hold of that sum in a sandbox is worth. -/
noncomputable def Tryz.pinned : Pinned := { name := "ytbnbfgkcndomaabgreatdoor", sum := "743d697c4a69370de19956f828e55f87be71dccd61ccee91fdb6ee8bd18a3a7a", checked := Tryz.checked }
namespace Rows
def none {H : Type} : Left H := { results := [], args := [] }

/- WHAT THE LISTED PACKAGE-LEVEL VARIABLES READ AS WHEN THE CALL BEGINS. Each datum BY PROGRAM (the guide's laid-datum.mjs) off the statement by which the dump's own 'gosem.cut.vars' lays the variable. In a bare row this is a premise. The card (YtbnbfgkcndomaabGreatDoorCards.lean) ties it to the program's text. -/
def laid_unicode_utf8_acceptRanges {H : Type} : DataW H := .agg [.agg [.lit (.int .u8 128), .lit (.int .u8 191)], .agg [.lit (.int .u8 160), .lit (.int .u8 191)], .agg [.lit (.int .u8 128), .lit (.int .u8 159)], .agg [.lit (.int .u8 144), .lit (.int .u8 191)], .agg [.lit (.int .u8 128), .lit (.int .u8 143)], .agg [.lit (.int .u8 0), .lit (.int .u8 0)], .agg [.lit (.int .u8 0), .lit (.int .u8 0)], .agg [.lit (.int .u8 0), .lit (.int .u8 0)], .agg [.lit (.int .u8 0), .lit (.int .u8 0)], .agg [.lit (.int .u8 0), .lit (.int .u8 0)], .agg [.lit (.int .u8 0), .lit (.int .u8 0)], .agg [.lit (.int .u8 0), .lit (.int .u8 0)], .agg [.lit (.int .u8 0), .lit (.int .u8 0)], .agg [.lit (.int .u8 0), .lit (.int .u8 0)], .agg [.lit (.int .u8 0), .lit (.int .u8 0)], .agg [.lit (.int .u8 0), .lit (.int .u8 0)]]
def laid_casement_runes_marks {H : Type} : DataW H := .slice [.agg [.lit (.int .i32 768), .lit (.int .i32 879)], .agg [.lit (.int .i32 1155), .lit (.int .i32 1161)], .agg [.lit (.int .i32 1425), .lit (.int .i32 1469)], .agg [.lit (.int .i32 1552), .lit (.int .i32 1562)], .agg [.lit (.int .i32 1611), .lit (.int .i32 1631)], .agg [.lit (.int .i32 8203), .lit (.int .i32 8207)], .agg [.lit (.int .i32 8234), .lit (.int .i32 8238)], .agg [.lit (.int .i32 8288), .lit (.int .i32 8292)], .agg [.lit (.int .i32 8400), .lit (.int .i32 8447)], .agg [.lit (.int .i32 65024), .lit (.int .i32 65039)], .agg [.lit (.int .i32 65056), .lit (.int .i32 65071)], .agg [.lit (.int .i32 917760), .lit (.int .i32 917999)]] []
def laid_casement_runes_wides {H : Type} : DataW H := .slice [.agg [.lit (.int .i32 4352), .lit (.int .i32 4447)], .agg [.lit (.int .i32 11904), .lit (.int .i32 12350)], .agg [.lit (.int .i32 12353), .lit (.int .i32 13311)], .agg [.lit (.int .i32 13312), .lit (.int .i32 19903)], .agg [.lit (.int .i32 19968), .lit (.int .i32 40959)], .agg [.lit (.int .i32 40960), .lit (.int .i32 42191)], .agg [.lit (.int .i32 44032), .lit (.int .i32 55203)], .agg [.lit (.int .i32 63744), .lit (.int .i32 64255)], .agg [.lit (.int .i32 65072), .lit (.int .i32 65135)], .agg [.lit (.int .i32 65280), .lit (.int .i32 65376)], .agg [.lit (.int .i32 65504), .lit (.int .i32 65510)], .agg [.lit (.int .i32 127744), .lit (.int .i32 128591)], .agg [.lit (.int .i32 129280), .lit (.int .i32 129535)], .agg [.lit (.int .i32 131072), .lit (.int .i32 262141)]] []
/-- One of Go's own tables, pinned by name: the form's constant. -/
def laid_unicode_utf8_first : DataW Unit := Go.Pinned.utf8First

/-- 'casementlaw07.WrapMade': WHATEVER THE INPUT: true; the input reads as it did. -/
def wrapMadeSpec : ChangeSpec := { name := "wrapMade", fn := fun _ => fun
  | [d1, d2, d3, d4] => { results := [.lit (.bool true)], args := [d1, d2, d3, d4] }
  | _ => none }
def wrapMadeRow : OpenClaim := { program := "ytbnbfgkcndomaabgreatdoor", sum := "743d697c4a69370de19956f828e55f87be71dccd61ccee91fdb6ee8bd18a3a7a", func := "casement/casementlaw07.WrapMade", spec := "wrapMade", inPlace := ["internal/bytealg.CountString", "internal/bytealg.IndexByteString", "internal/bytealg.IndexString"], unfollowed := true, recurses := true, named := ["unicode/utf8.first", "unicode/utf8.acceptRanges", "internal/bytealg.MaxLen", "casement/runes.marks", "casement/runes.wides"], apart := false, laid := [("unicode/utf8.acceptRanges", laid_unicode_utf8_acceptRanges), ("casement/runes.marks", laid_casement_runes_marks), ("casement/runes.wides", laid_casement_runes_wides), ("unicode/utf8.first", laid_unicode_utf8_first)] }
def WrapMadeSaid : Prop := wrapMadeRow.holds Tryz.pinned (OpenSpec.ofChange wrapMadeSpec)

/-- ITS FALSE NEIGHBOUR: 'it returns false'. Refute it at one input. -/
def wrapMadeWrong : ChangeSpec := { name := "wrapMade", fn := fun _ => fun
  | [d1, d2, d3, d4] => { results := [.lit (.bool false)], args := [d1, d2, d3, d4] }
  | _ => none }
def WrapMadeWrongFalsely : Prop := wrapMadeRow.holds Tryz.pinned (OpenSpec.ofChange wrapMadeWrong)

/-- 'casementlaw07.WrapHollow': WHATEVER THE INPUT: true; the input reads as it did. -/
def wrapHollowSpec : ChangeSpec := { name := "wrapHollow", fn := fun _ => fun
  | [d1, d2, d3] => { results := [.lit (.bool true)], args := [d1, d2, d3] }
  | _ => none }
def wrapHollowRow : OpenClaim := { program := "ytbnbfgkcndomaabgreatdoor", sum := "743d697c4a69370de19956f828e55f87be71dccd61ccee91fdb6ee8bd18a3a7a", func := "casement/casementlaw07.WrapHollow", spec := "wrapHollow", unfollowed := true, recurses := true, named := ["unicode/utf8.first", "unicode/utf8.acceptRanges"], apart := false, laid := [("unicode/utf8.acceptRanges", laid_unicode_utf8_acceptRanges), ("unicode/utf8.first", laid_unicode_utf8_first)] }
def WrapHollowSaid : Prop := wrapHollowRow.holds Tryz.pinned (OpenSpec.ofChange wrapHollowSpec)

/-- ITS FALSE NEIGHBOUR: 'it returns false'. Refute it at one input. -/
def wrapHollowWrong : ChangeSpec := { name := "wrapHollow", fn := fun _ => fun
  | [d1, d2, d3] => { results := [.lit (.bool false)], args := [d1, d2, d3] }
  | _ => none }
def WrapHollowWrongFalsely : Prop := wrapHollowRow.holds Tryz.pinned (OpenSpec.ofChange wrapHollowWrong)

/-- 'casementlaw07.WrapShows': WHATEVER THE INPUT: true; the input reads as it did. -/
def wrapShowsSpec : ChangeSpec := { name := "wrapShows", fn := fun _ => fun
  | [d1, d2] => { results := [.lit (.bool true)], args := [d1, d2] }
  | _ => none }
def wrapShowsRow : OpenClaim := { program := "ytbnbfgkcndomaabgreatdoor", sum := "743d697c4a69370de19956f828e55f87be71dccd61ccee91fdb6ee8bd18a3a7a", func := "casement/casementlaw07.WrapShows", spec := "wrapShows", inPlace := ["internal/bytealg.CountString", "internal/bytealg.IndexByteString", "internal/bytealg.IndexString"], unfollowed := true, recurses := true, named := ["unicode/utf8.first", "unicode/utf8.acceptRanges", "internal/bytealg.MaxLen", "casement/runes.marks", "casement/runes.wides"], apart := false, laid := [("unicode/utf8.acceptRanges", laid_unicode_utf8_acceptRanges), ("casement/runes.marks", laid_casement_runes_marks), ("casement/runes.wides", laid_casement_runes_wides), ("unicode/utf8.first", laid_unicode_utf8_first)] }
def WrapShowsSaid : Prop := wrapShowsRow.holds Tryz.pinned (OpenSpec.ofChange wrapShowsSpec)

/-- ITS FALSE NEIGHBOUR: 'it returns false'. Refute it at one input. -/
def wrapShowsWrong : ChangeSpec := { name := "wrapShows", fn := fun _ => fun
  | [d1, d2] => { results := [.lit (.bool false)], args := [d1, d2] }
  | _ => none }
def WrapShowsWrongFalsely : Prop := wrapShowsRow.holds Tryz.pinned (OpenSpec.ofChange wrapShowsWrong)

/-- 'casementlaw07.WrapPads': WHATEVER THE INPUT: true; the input reads as it did. -/
def wrapPadsSpec : ChangeSpec := { name := "wrapPads", fn := fun _ => fun
  | [d1, d2, d3, d4, d5] => { results := [.lit (.bool true)], args := [d1, d2, d3, d4, d5] }
  | _ => none }
def wrapPadsRow : OpenClaim := { program := "ytbnbfgkcndomaabgreatdoor", sum := "743d697c4a69370de19956f828e55f87be71dccd61ccee91fdb6ee8bd18a3a7a", func := "casement/casementlaw07.WrapPads", spec := "wrapPads", inPlace := ["internal/bytealg.CountString", "internal/bytealg.IndexByteString", "internal/bytealg.IndexString"], unfollowed := true, recurses := true, named := ["unicode/utf8.first", "unicode/utf8.acceptRanges", "internal/bytealg.MaxLen", "casement/runes.marks", "casement/runes.wides"], apart := false, laid := [("unicode/utf8.acceptRanges", laid_unicode_utf8_acceptRanges), ("casement/runes.marks", laid_casement_runes_marks), ("casement/runes.wides", laid_casement_runes_wides), ("unicode/utf8.first", laid_unicode_utf8_first)] }
def WrapPadsSaid : Prop := wrapPadsRow.holds Tryz.pinned (OpenSpec.ofChange wrapPadsSpec)

/-- ITS FALSE NEIGHBOUR: 'it returns false'. Refute it at one input. -/
def wrapPadsWrong : ChangeSpec := { name := "wrapPads", fn := fun _ => fun
  | [d1, d2, d3, d4, d5] => { results := [.lit (.bool false)], args := [d1, d2, d3, d4, d5] }
  | _ => none }
def WrapPadsWrongFalsely : Prop := wrapPadsRow.holds Tryz.pinned (OpenSpec.ofChange wrapPadsWrong)

/-- 'casementtop.TopWrapped': WHATEVER THE INPUT: true; the input reads as it did. -/
def topWrappedSpec : ChangeSpec := { name := "topWrapped", fn := fun _ => fun
  | [d1, d2] => { results := [.lit (.bool true)], args := [d1, d2] }
  | _ => none }
def topWrappedRow : OpenClaim := { program := "ytbnbfgkcndomaabgreatdoor", sum := "743d697c4a69370de19956f828e55f87be71dccd61ccee91fdb6ee8bd18a3a7a", func := "casement/casementtop.TopWrapped", spec := "topWrapped", inPlace := ["internal/bytealg.CountString", "internal/bytealg.IndexByteString", "internal/bytealg.IndexString"], unfollowed := true, recurses := true, named := ["unicode/utf8.first", "unicode/utf8.acceptRanges", "internal/bytealg.MaxLen", "casement/runes.marks", "casement/runes.wides"], apart := false, laid := [("unicode/utf8.acceptRanges", laid_unicode_utf8_acceptRanges), ("casement/runes.marks", laid_casement_runes_marks), ("casement/runes.wides", laid_casement_runes_wides), ("unicode/utf8.first", laid_unicode_utf8_first)] }
def TopWrappedSaid : Prop := topWrappedRow.holds Tryz.pinned (OpenSpec.ofChange topWrappedSpec)

/-- ITS FALSE NEIGHBOUR: 'it returns false'. Refute it at one input. -/
def topWrappedWrong : ChangeSpec := { name := "topWrapped", fn := fun _ => fun
  | [d1, d2] => { results := [.lit (.bool false)], args := [d1, d2] }
  | _ => none }
def TopWrappedWrongFalsely : Prop := topWrappedRow.holds Tryz.pinned (OpenSpec.ofChange topWrappedWrong)

/- THE SECOND FORM. 'bulk': how many values and letters a reading holds, each counted each time it is reached (what is shared counts as often as it is met; a slice's spare places count too). A statement '..UptoSaid' is the law's where the arguments, and the package variables that the reading takes, are together of bulk at most 1048576: NARROWER than '..Said'. Prove '..Said' where nothing that the law and all that it calls make is longer than what came in: it says more and counts as full. Else prove '..UptoSaid'. A law counts once. -/
mutual
def uptoBulk {H : Type} : DataW H → Nat
  | .lit (.string bytes) => bytes.length + 1
  | .lit _ => 1
  | .nil => 1
  | .ptr d => uptoBulk d + 1
  | .slice elems spare => uptoBulkAll elems + uptoBulkAll spare + 1
  | .agg parts => uptoBulkAll parts + 1
  | .iface _ d => uptoBulk d + 1
  | .map entries => uptoBulkEntries entries + 1
  | .held _ => 1
def uptoBulkAll {H : Type} : List (DataW H) → Nat
  | [] => 0
  | d :: r => uptoBulk d + uptoBulkAll r
def uptoBulkEntries {H : Type} : List (Lit × DataW H) → Nat
  | [] => 0
  | x :: r => uptoBulkEntry x + uptoBulkEntries r
def uptoBulkEntry {H : Type} : Lit × DataW H → Nat
  | (.string bytes, d) => bytes.length + uptoBulk d + 1
  | (_, d) => uptoBulk d + 1
 end
def uptoSmall : (H : Type) → List (DataW H) → Bool := fun _ ds => decide (uptoBulkAll ds ≤ 1048576)
def OpenSpec.upto (s : _root_.Go.ChangeSpec) : _root_.Go.OpenSpec := { _root_.Go.OpenSpec.ofChange s with cond := some uptoSmall }

/-- 'casementlaw07.WrapMade', WHERE WHAT IT READS IS OF BULK AT MOST 1048576: true; the input reads as it did. -/
def wrapMadeUptoRow : OpenClaim := { program := "ytbnbfgkcndomaabgreatdoor", sum := "743d697c4a69370de19956f828e55f87be71dccd61ccee91fdb6ee8bd18a3a7a", func := "casement/casementlaw07.WrapMade", spec := "wrapMade", inPlace := ["internal/bytealg.CountString", "internal/bytealg.IndexByteString", "internal/bytealg.IndexString"], unfollowed := true, recurses := true, named := ["unicode/utf8.first", "unicode/utf8.acceptRanges", "internal/bytealg.MaxLen", "casement/runes.marks", "casement/runes.wides"], apart := false, laid := [("unicode/utf8.acceptRanges", laid_unicode_utf8_acceptRanges), ("casement/runes.marks", laid_casement_runes_marks), ("casement/runes.wides", laid_casement_runes_wides), ("unicode/utf8.first", laid_unicode_utf8_first)], narrowed := true }
def WrapMadeUptoSaid : Prop := wrapMadeUptoRow.holds Tryz.pinned (OpenSpec.upto wrapMadeSpec)

/-- 'casementlaw07.WrapHollow', WHERE WHAT IT READS IS OF BULK AT MOST 1048576: true; the input reads as it did. -/
def wrapHollowUptoRow : OpenClaim := { program := "ytbnbfgkcndomaabgreatdoor", sum := "743d697c4a69370de19956f828e55f87be71dccd61ccee91fdb6ee8bd18a3a7a", func := "casement/casementlaw07.WrapHollow", spec := "wrapHollow", unfollowed := true, recurses := true, named := ["unicode/utf8.first", "unicode/utf8.acceptRanges"], apart := false, laid := [("unicode/utf8.acceptRanges", laid_unicode_utf8_acceptRanges), ("unicode/utf8.first", laid_unicode_utf8_first)], narrowed := true }
def WrapHollowUptoSaid : Prop := wrapHollowUptoRow.holds Tryz.pinned (OpenSpec.upto wrapHollowSpec)

/-- 'casementlaw07.WrapShows', WHERE WHAT IT READS IS OF BULK AT MOST 1048576: true; the input reads as it did. -/
def wrapShowsUptoRow : OpenClaim := { program := "ytbnbfgkcndomaabgreatdoor", sum := "743d697c4a69370de19956f828e55f87be71dccd61ccee91fdb6ee8bd18a3a7a", func := "casement/casementlaw07.WrapShows", spec := "wrapShows", inPlace := ["internal/bytealg.CountString", "internal/bytealg.IndexByteString", "internal/bytealg.IndexString"], unfollowed := true, recurses := true, named := ["unicode/utf8.first", "unicode/utf8.acceptRanges", "internal/bytealg.MaxLen", "casement/runes.marks", "casement/runes.wides"], apart := false, laid := [("unicode/utf8.acceptRanges", laid_unicode_utf8_acceptRanges), ("casement/runes.marks", laid_casement_runes_marks), ("casement/runes.wides", laid_casement_runes_wides), ("unicode/utf8.first", laid_unicode_utf8_first)], narrowed := true }
def WrapShowsUptoSaid : Prop := wrapShowsUptoRow.holds Tryz.pinned (OpenSpec.upto wrapShowsSpec)

/-- 'casementlaw07.WrapPads', WHERE WHAT IT READS IS OF BULK AT MOST 1048576: true; the input reads as it did. -/
def wrapPadsUptoRow : OpenClaim := { program := "ytbnbfgkcndomaabgreatdoor", sum := "743d697c4a69370de19956f828e55f87be71dccd61ccee91fdb6ee8bd18a3a7a", func := "casement/casementlaw07.WrapPads", spec := "wrapPads", inPlace := ["internal/bytealg.CountString", "internal/bytealg.IndexByteString", "internal/bytealg.IndexString"], unfollowed := true, recurses := true, named := ["unicode/utf8.first", "unicode/utf8.acceptRanges", "internal/bytealg.MaxLen", "casement/runes.marks", "casement/runes.wides"], apart := false, laid := [("unicode/utf8.acceptRanges", laid_unicode_utf8_acceptRanges), ("casement/runes.marks", laid_casement_runes_marks), ("casement/runes.wides", laid_casement_runes_wides), ("unicode/utf8.first", laid_unicode_utf8_first)], narrowed := true }
def WrapPadsUptoSaid : Prop := wrapPadsUptoRow.holds Tryz.pinned (OpenSpec.upto wrapPadsSpec)

/-- 'casementtop.TopWrapped', WHERE WHAT IT READS IS OF BULK AT MOST 1048576: true; the input reads as it did. -/
def topWrappedUptoRow : OpenClaim := { program := "ytbnbfgkcndomaabgreatdoor", sum := "743d697c4a69370de19956f828e55f87be71dccd61ccee91fdb6ee8bd18a3a7a", func := "casement/casementtop.TopWrapped", spec := "topWrapped", inPlace := ["internal/bytealg.CountString", "internal/bytealg.IndexByteString", "internal/bytealg.IndexString"], unfollowed := true, recurses := true, named := ["unicode/utf8.first", "unicode/utf8.acceptRanges", "internal/bytealg.MaxLen", "casement/runes.marks", "casement/runes.wides"], apart := false, laid := [("unicode/utf8.acceptRanges", laid_unicode_utf8_acceptRanges), ("casement/runes.marks", laid_casement_runes_marks), ("casement/runes.wides", laid_casement_runes_wides), ("unicode/utf8.first", laid_unicode_utf8_first)], narrowed := true }
def TopWrappedUptoSaid : Prop := topWrappedUptoRow.holds Tryz.pinned (OpenSpec.upto topWrappedSpec)

end Rows
end Go.Proofs.YtbnbfgkcndomaabGreatDoor
