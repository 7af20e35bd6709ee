/-
  NARROWER THAN 'FOR EVERY INPUT', by the rows' own cells (each row's printed sentence says how): PartMade: laid · PartShown: laid · PartHollow: laid · PartSays: laid · PartRoom: laid.
  DERIVED. THE GIVEN ROWS OF THIS SEAT. 5 by the template 'for every input the law returns true; each argument reads behind the call as it read before'; 0 by the template 'total and deterministic' (their statements: YtdbafcldpleogaaGreatDoorTotals.lean).
  GIVEN WITH THE SEED: the statements are not yours to turn. If you find one false, say at which input.
  Laid BY PROGRAM, IN A SANDBOX (cutbox-rows.mjs): the forced cells as the released guide's own fill.sh prints them over the translation 70f8aa403abec9db… (all of the seat's roots in one cut). By AI agents, Wed Nov 11 2026. No macro, syntax, notation, axiom, sorry.
-/
import Derived.Test.YtdbafcldpleogaaGreatDoorChecked
import GoSem.PinnedTables
import GoSem.Claim
import GoSem.ClaimJoined
import GoSem.ClaimMapViews
import Derived.JoinedTies
import Derived.KernelRfl
namespace Go.Proofs.YtdbafcldpleogaaGreatDoor
/- THE CELL 'sum', in the pinned program and in every row, IS THE sha256 OF THE DUMP (.gsa) THAT YtdbafcldpleogaaGreatDoorProg.lean LOADS. Nothing in Lean hashes anything: it is a label: what it is worth is what the hold of that sum in a sandbox is worth. -/
noncomputable def Tryz.pinned : Pinned := { name := "ytdbafcldpleogaagreatdoor", sum := "70f8aa403abec9db856161d4f8f5fcbdace625ef7fea771ead84efc98dfee959", checked := Tryz.checked }
namespace Rows
def none {H : Type} : Left H := { results := [], args := [] }

/- WHAT THE LISTED PACKAGE-LEVEL VARIABLES READ AS WHEN THE CALL BEGINS. Each datum BY PROGRAM (the guide's laid-datum.mjs) off the statement by which the dump's own 'gosem.cut.vars' lays the variable. In a bare row this is a premise. The card (YtdbafcldpleogaaGreatDoorCards.lean) ties it to the program's text. -/
def laid_unicode_utf8_acceptRanges {H : Type} : DataW H := .agg [.agg [.lit (.int .u8 128), .lit (.int .u8 191)], .agg [.lit (.int .u8 160), .lit (.int .u8 191)], .agg [.lit (.int .u8 128), .lit (.int .u8 159)], .agg [.lit (.int .u8 144), .lit (.int .u8 191)], .agg [.lit (.int .u8 128), .lit (.int .u8 143)], .agg [.lit (.int .u8 0), .lit (.int .u8 0)], .agg [.lit (.int .u8 0), .lit (.int .u8 0)], .agg [.lit (.int .u8 0), .lit (.int .u8 0)], .agg [.lit (.int .u8 0), .lit (.int .u8 0)], .agg [.lit (.int .u8 0), .lit (.int .u8 0)], .agg [.lit (.int .u8 0), .lit (.int .u8 0)], .agg [.lit (.int .u8 0), .lit (.int .u8 0)], .agg [.lit (.int .u8 0), .lit (.int .u8 0)], .agg [.lit (.int .u8 0), .lit (.int .u8 0)], .agg [.lit (.int .u8 0), .lit (.int .u8 0)], .agg [.lit (.int .u8 0), .lit (.int .u8 0)]]
def laid_casement_runes_marks {H : Type} : DataW H := .slice [.agg [.lit (.int .i32 768), .lit (.int .i32 879)], .agg [.lit (.int .i32 1155), .lit (.int .i32 1161)], .agg [.lit (.int .i32 1425), .lit (.int .i32 1469)], .agg [.lit (.int .i32 1552), .lit (.int .i32 1562)], .agg [.lit (.int .i32 1611), .lit (.int .i32 1631)], .agg [.lit (.int .i32 8203), .lit (.int .i32 8207)], .agg [.lit (.int .i32 8234), .lit (.int .i32 8238)], .agg [.lit (.int .i32 8288), .lit (.int .i32 8292)], .agg [.lit (.int .i32 8400), .lit (.int .i32 8447)], .agg [.lit (.int .i32 65024), .lit (.int .i32 65039)], .agg [.lit (.int .i32 65056), .lit (.int .i32 65071)], .agg [.lit (.int .i32 917760), .lit (.int .i32 917999)]] []
def laid_casement_runes_wides {H : Type} : DataW H := .slice [.agg [.lit (.int .i32 4352), .lit (.int .i32 4447)], .agg [.lit (.int .i32 11904), .lit (.int .i32 12350)], .agg [.lit (.int .i32 12353), .lit (.int .i32 13311)], .agg [.lit (.int .i32 13312), .lit (.int .i32 19903)], .agg [.lit (.int .i32 19968), .lit (.int .i32 40959)], .agg [.lit (.int .i32 40960), .lit (.int .i32 42191)], .agg [.lit (.int .i32 44032), .lit (.int .i32 55203)], .agg [.lit (.int .i32 63744), .lit (.int .i32 64255)], .agg [.lit (.int .i32 65072), .lit (.int .i32 65135)], .agg [.lit (.int .i32 65280), .lit (.int .i32 65376)], .agg [.lit (.int .i32 65504), .lit (.int .i32 65510)], .agg [.lit (.int .i32 127744), .lit (.int .i32 128591)], .agg [.lit (.int .i32 129280), .lit (.int .i32 129535)], .agg [.lit (.int .i32 131072), .lit (.int .i32 262141)]] []
/-- One of Go's own tables, pinned by name: the form's constant. -/
def laid_unicode_utf8_first : DataW Unit := Go.Pinned.utf8First

/-- 'casementlaw06.PartMade': WHATEVER THE INPUT: true; the input reads as it did. -/
def partMadeSpec : ChangeSpec := { name := "partMade", fn := fun _ => fun
  | [d1, d2, d3, d4, d5] => { results := [.lit (.bool true)], args := [d1, d2, d3, d4, d5] }
  | _ => none }
def partMadeRow : OpenClaim := { program := "ytdbafcldpleogaagreatdoor", sum := "70f8aa403abec9db856161d4f8f5fcbdace625ef7fea771ead84efc98dfee959", func := "casement/casementlaw06.PartMade", spec := "partMade", inPlace := ["internal/bytealg.CountString", "internal/bytealg.IndexByteString", "internal/bytealg.IndexString"], unfollowed := true, recurses := true, named := ["unicode/utf8.first", "unicode/utf8.acceptRanges", "internal/bytealg.MaxLen", "casement/runes.marks", "casement/runes.wides"], apart := false, laid := [("unicode/utf8.acceptRanges", laid_unicode_utf8_acceptRanges), ("casement/runes.marks", laid_casement_runes_marks), ("casement/runes.wides", laid_casement_runes_wides), ("unicode/utf8.first", laid_unicode_utf8_first)] }
def PartMadeSaid : Prop := partMadeRow.holds Tryz.pinned (OpenSpec.ofChange partMadeSpec)

/-- ITS FALSE NEIGHBOUR: 'it returns false'. Refute it at one input. -/
def partMadeWrong : ChangeSpec := { name := "partMade", fn := fun _ => fun
  | [d1, d2, d3, d4, d5] => { results := [.lit (.bool false)], args := [d1, d2, d3, d4, d5] }
  | _ => none }
def PartMadeWrongFalsely : Prop := partMadeRow.holds Tryz.pinned (OpenSpec.ofChange partMadeWrong)

/-- 'casementlaw06.PartShown': WHATEVER THE INPUT: true; the input reads as it did. -/
def partShownSpec : ChangeSpec := { name := "partShown", fn := fun _ => fun
  | [d1, d2, d3, d4] => { results := [.lit (.bool true)], args := [d1, d2, d3, d4] }
  | _ => none }
def partShownRow : OpenClaim := { program := "ytdbafcldpleogaagreatdoor", sum := "70f8aa403abec9db856161d4f8f5fcbdace625ef7fea771ead84efc98dfee959", func := "casement/casementlaw06.PartShown", spec := "partShown", inPlace := ["internal/bytealg.CountString", "internal/bytealg.IndexByteString", "internal/bytealg.IndexString"], unfollowed := true, recurses := true, named := ["unicode/utf8.first", "unicode/utf8.acceptRanges", "internal/bytealg.MaxLen", "casement/runes.marks", "casement/runes.wides"], apart := false, laid := [("unicode/utf8.acceptRanges", laid_unicode_utf8_acceptRanges), ("casement/runes.marks", laid_casement_runes_marks), ("casement/runes.wides", laid_casement_runes_wides), ("unicode/utf8.first", laid_unicode_utf8_first)] }
def PartShownSaid : Prop := partShownRow.holds Tryz.pinned (OpenSpec.ofChange partShownSpec)

/-- ITS FALSE NEIGHBOUR: 'it returns false'. Refute it at one input. -/
def partShownWrong : ChangeSpec := { name := "partShown", fn := fun _ => fun
  | [d1, d2, d3, d4] => { results := [.lit (.bool false)], args := [d1, d2, d3, d4] }
  | _ => none }
def PartShownWrongFalsely : Prop := partShownRow.holds Tryz.pinned (OpenSpec.ofChange partShownWrong)

/-- 'casementlaw06.PartHollow': WHATEVER THE INPUT: true; the input reads as it did. -/
def partHollowSpec : ChangeSpec := { name := "partHollow", fn := fun _ => fun
  | [d1, d2, d3, d4, d5] => { results := [.lit (.bool true)], args := [d1, d2, d3, d4, d5] }
  | _ => none }
def partHollowRow : OpenClaim := { program := "ytdbafcldpleogaagreatdoor", sum := "70f8aa403abec9db856161d4f8f5fcbdace625ef7fea771ead84efc98dfee959", func := "casement/casementlaw06.PartHollow", spec := "partHollow", inPlace := ["internal/bytealg.CountString", "internal/bytealg.IndexByteString", "internal/bytealg.IndexString"], unfollowed := true, recurses := true, named := ["unicode/utf8.first", "unicode/utf8.acceptRanges", "internal/bytealg.MaxLen", "casement/runes.marks", "casement/runes.wides"], apart := false, laid := [("unicode/utf8.acceptRanges", laid_unicode_utf8_acceptRanges), ("casement/runes.marks", laid_casement_runes_marks), ("casement/runes.wides", laid_casement_runes_wides), ("unicode/utf8.first", laid_unicode_utf8_first)] }
def PartHollowSaid : Prop := partHollowRow.holds Tryz.pinned (OpenSpec.ofChange partHollowSpec)

/-- ITS FALSE NEIGHBOUR: 'it returns false'. Refute it at one input. -/
def partHollowWrong : ChangeSpec := { name := "partHollow", fn := fun _ => fun
  | [d1, d2, d3, d4, d5] => { results := [.lit (.bool false)], args := [d1, d2, d3, d4, d5] }
  | _ => none }
def PartHollowWrongFalsely : Prop := partHollowRow.holds Tryz.pinned (OpenSpec.ofChange partHollowWrong)

/-- 'casementlaw06.PartSays': WHATEVER THE INPUT: true; the input reads as it did. -/
def partSaysSpec : ChangeSpec := { name := "partSays", fn := fun _ => fun
  | [d1, d2, d3] => { results := [.lit (.bool true)], args := [d1, d2, d3] }
  | _ => none }
def partSaysRow : OpenClaim := { program := "ytdbafcldpleogaagreatdoor", sum := "70f8aa403abec9db856161d4f8f5fcbdace625ef7fea771ead84efc98dfee959", func := "casement/casementlaw06.PartSays", spec := "partSays", inPlace := ["internal/bytealg.CountString", "internal/bytealg.IndexByteString", "internal/bytealg.IndexString"], unfollowed := true, recurses := true, named := ["unicode/utf8.first", "unicode/utf8.acceptRanges", "internal/bytealg.MaxLen", "casement/runes.marks", "casement/runes.wides"], apart := false, laid := [("unicode/utf8.acceptRanges", laid_unicode_utf8_acceptRanges), ("casement/runes.marks", laid_casement_runes_marks), ("casement/runes.wides", laid_casement_runes_wides), ("unicode/utf8.first", laid_unicode_utf8_first)] }
def PartSaysSaid : Prop := partSaysRow.holds Tryz.pinned (OpenSpec.ofChange partSaysSpec)

/-- ITS FALSE NEIGHBOUR: 'it returns false'. Refute it at one input. -/
def partSaysWrong : ChangeSpec := { name := "partSays", fn := fun _ => fun
  | [d1, d2, d3] => { results := [.lit (.bool false)], args := [d1, d2, d3] }
  | _ => none }
def PartSaysWrongFalsely : Prop := partSaysRow.holds Tryz.pinned (OpenSpec.ofChange partSaysWrong)

/-- 'casementlaw06.PartRoom': WHATEVER THE INPUT: true; the input reads as it did. -/
def partRoomSpec : ChangeSpec := { name := "partRoom", fn := fun _ => fun
  | [d1, d2, d3, d4, d5] => { results := [.lit (.bool true)], args := [d1, d2, d3, d4, d5] }
  | _ => none }
def partRoomRow : OpenClaim := { program := "ytdbafcldpleogaagreatdoor", sum := "70f8aa403abec9db856161d4f8f5fcbdace625ef7fea771ead84efc98dfee959", func := "casement/casementlaw06.PartRoom", spec := "partRoom", inPlace := ["internal/bytealg.CountString", "internal/bytealg.IndexByteString", "internal/bytealg.IndexString"], unfollowed := true, recurses := true, named := ["unicode/utf8.first", "unicode/utf8.acceptRanges", "internal/bytealg.MaxLen", "casement/runes.marks", "casement/runes.wides"], apart := false, laid := [("unicode/utf8.acceptRanges", laid_unicode_utf8_acceptRanges), ("casement/runes.marks", laid_casement_runes_marks), ("casement/runes.wides", laid_casement_runes_wides), ("unicode/utf8.first", laid_unicode_utf8_first)] }
def PartRoomSaid : Prop := partRoomRow.holds Tryz.pinned (OpenSpec.ofChange partRoomSpec)

/-- ITS FALSE NEIGHBOUR: 'it returns false'. Refute it at one input. -/
def partRoomWrong : ChangeSpec := { name := "partRoom", fn := fun _ => fun
  | [d1, d2, d3, d4, d5] => { results := [.lit (.bool false)], args := [d1, d2, d3, d4, d5] }
  | _ => none }
def PartRoomWrongFalsely : Prop := partRoomRow.holds Tryz.pinned (OpenSpec.ofChange partRoomWrong)

/- THE SECOND FORM. 'bulk': how many values and letters a reading holds, each counted each time it is reached (what is shared counts as often as it is met; a slice's spare places count too). A statement '..UptoSaid' is the law's where the arguments, and the package variables that the reading takes, are together of bulk at most 1048576: NARROWER than '..Said'. Prove '..Said' where nothing that the law and all that it calls make is longer than what came in: it says more and counts as full. Else prove '..UptoSaid'. A law counts once. -/
mutual
def uptoBulk {H : Type} : DataW H → Nat
  | .lit (.string bytes) => bytes.length + 1
  | .lit _ => 1
  | .nil => 1
  | .ptr d => uptoBulk d + 1
  | .slice elems spare => uptoBulkAll elems + uptoBulkAll spare + 1
  | .agg parts => uptoBulkAll parts + 1
  | .iface _ d => uptoBulk d + 1
  | .map entries => uptoBulkEntries entries + 1
  | .held _ => 1
def uptoBulkAll {H : Type} : List (DataW H) → Nat
  | [] => 0
  | d :: r => uptoBulk d + uptoBulkAll r
def uptoBulkEntries {H : Type} : List (Lit × DataW H) → Nat
  | [] => 0
  | x :: r => uptoBulkEntry x + uptoBulkEntries r
def uptoBulkEntry {H : Type} : Lit × DataW H → Nat
  | (.string bytes, d) => bytes.length + uptoBulk d + 1
  | (_, d) => uptoBulk d + 1
 end
def uptoSmall : (H : Type) → List (DataW H) → Bool := fun _ ds => decide (uptoBulkAll ds ≤ 1048576)
def OpenSpec.upto (s : _root_.Go.ChangeSpec) : _root_.Go.OpenSpec := { _root_.Go.OpenSpec.ofChange s with cond := some uptoSmall }

/-- 'casementlaw06.PartMade', WHERE WHAT IT READS IS OF BULK AT MOST 1048576: true; the input reads as it did. -/
def partMadeUptoRow : OpenClaim := { program := "ytdbafcldpleogaagreatdoor", sum := "70f8aa403abec9db856161d4f8f5fcbdace625ef7fea771ead84efc98dfee959", func := "casement/casementlaw06.PartMade", spec := "partMade", inPlace := ["internal/bytealg.CountString", "internal/bytealg.IndexByteString", "internal/bytealg.IndexString"], unfollowed := true, recurses := true, named := ["unicode/utf8.first", "unicode/utf8.acceptRanges", "internal/bytealg.MaxLen", "casement/runes.marks", "casement/runes.wides"], apart := false, laid := [("unicode/utf8.acceptRanges", laid_unicode_utf8_acceptRanges), ("casement/runes.marks", laid_casement_runes_marks), ("casement/runes.wides", laid_casement_runes_wides), ("unicode/utf8.first", laid_unicode_utf8_first)], narrowed := true }
def PartMadeUptoSaid : Prop := partMadeUptoRow.holds Tryz.pinned (OpenSpec.upto partMadeSpec)

/-- 'casementlaw06.PartShown', WHERE WHAT IT READS IS OF BULK AT MOST 1048576: true; the input reads as it did. -/
def partShownUptoRow : OpenClaim := { program := "ytdbafcldpleogaagreatdoor", sum := "70f8aa403abec9db856161d4f8f5fcbdace625ef7fea771ead84efc98dfee959", func := "casement/casementlaw06.PartShown", spec := "partShown", inPlace := ["internal/bytealg.CountString", "internal/bytealg.IndexByteString", "internal/bytealg.IndexString"], unfollowed := true, recurses := true, named := ["unicode/utf8.first", "unicode/utf8.acceptRanges", "internal/bytealg.MaxLen", "casement/runes.marks", "casement/runes.wides"], apart := false, laid := [("unicode/utf8.acceptRanges", laid_unicode_utf8_acceptRanges), ("casement/runes.marks", laid_casement_runes_marks), ("casement/runes.wides", laid_casement_runes_wides), ("unicode/utf8.first", laid_unicode_utf8_first)], narrowed := true }
def PartShownUptoSaid : Prop := partShownUptoRow.holds Tryz.pinned (OpenSpec.upto partShownSpec)

/-- 'casementlaw06.PartHollow', WHERE WHAT IT READS IS OF BULK AT MOST 1048576: true; the input reads as it did. -/
def partHollowUptoRow : OpenClaim := { program := "ytdbafcldpleogaagreatdoor", sum := "70f8aa403abec9db856161d4f8f5fcbdace625ef7fea771ead84efc98dfee959", func := "casement/casementlaw06.PartHollow", spec := "partHollow", inPlace := ["internal/bytealg.CountString", "internal/bytealg.IndexByteString", "internal/bytealg.IndexString"], unfollowed := true, recurses := true, named := ["unicode/utf8.first", "unicode/utf8.acceptRanges", "internal/bytealg.MaxLen", "casement/runes.marks", "casement/runes.wides"], apart := false, laid := [("unicode/utf8.acceptRanges", laid_unicode_utf8_acceptRanges), ("casement/runes.marks", laid_casement_runes_marks), ("casement/runes.wides", laid_casement_runes_wides), ("unicode/utf8.first", laid_unicode_utf8_first)], narrowed := true }
def PartHollowUptoSaid : Prop := partHollowUptoRow.holds Tryz.pinned (OpenSpec.upto partHollowSpec)

/-- 'casementlaw06.PartSays', WHERE WHAT IT READS IS OF BULK AT MOST 1048576: true; the input reads as it did. -/
def partSaysUptoRow : OpenClaim := { program := "ytdbafcldpleogaagreatdoor", sum := "70f8aa403abec9db856161d4f8f5fcbdace625ef7fea771ead84efc98dfee959", func := "casement/casementlaw06.PartSays", spec := "partSays", inPlace := ["internal/bytealg.CountString", "internal/bytealg.IndexByteString", "internal/bytealg.IndexString"], unfollowed := true, recurses := true, named := ["unicode/utf8.first", "unicode/utf8.acceptRanges", "internal/bytealg.MaxLen", "casement/runes.marks", "casement/runes.wides"], apart := false, laid := [("unicode/utf8.acceptRanges", laid_unicode_utf8_acceptRanges), ("casement/runes.marks", laid_casement_runes_marks), ("casement/runes.wides", laid_casement_runes_wides), ("unicode/utf8.first", laid_unicode_utf8_first)], narrowed := true }
def PartSaysUptoSaid : Prop := partSaysUptoRow.holds Tryz.pinned (OpenSpec.upto partSaysSpec)

/-- 'casementlaw06.PartRoom', WHERE WHAT IT READS IS OF BULK AT MOST 1048576: true; the input reads as it did. -/
def partRoomUptoRow : OpenClaim := { program := "ytdbafcldpleogaagreatdoor", sum := "70f8aa403abec9db856161d4f8f5fcbdace625ef7fea771ead84efc98dfee959", func := "casement/casementlaw06.PartRoom", spec := "partRoom", inPlace := ["internal/bytealg.CountString", "internal/bytealg.IndexByteString", "internal/bytealg.IndexString"], unfollowed := true, recurses := true, named := ["unicode/utf8.first", "unicode/utf8.acceptRanges", "internal/bytealg.MaxLen", "casement/runes.marks", "casement/runes.wides"], apart := false, laid := [("unicode/utf8.acceptRanges", laid_unicode_utf8_acceptRanges), ("casement/runes.marks", laid_casement_runes_marks), ("casement/runes.wides", laid_casement_runes_wides), ("unicode/utf8.first", laid_unicode_utf8_first)], narrowed := true }
def PartRoomUptoSaid : Prop := partRoomUptoRow.holds Tryz.pinned (OpenSpec.upto partRoomSpec)

end Rows
end Go.Proofs.YtdbafcldpleogaaGreatDoor
