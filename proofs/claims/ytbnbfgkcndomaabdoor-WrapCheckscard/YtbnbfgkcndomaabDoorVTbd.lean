/-
  The tables that the row lists: what lies in memory.
-/
import Derived.Test.YtbnbfgkcndomaabDoorRows
import Derived.Test.YtbnbfgkcndomaabDoorVTab
import Derived.PinnedBridge
import Derived.Lib.LaidU8T
import Derived.Lib.LaidTab
import Derived.MakeChecks
namespace Go.Proofs.YtbnbfgkcndomaabDoor
open Go.RowKit Go.Shelf Go.Lib

theorem accept_eq : Rows.laid_unicode_utf8_acceptRanges (H := Unit) = acceptData := by kernel_rfl
theorem xU : U8Extra Tryd.prog Tryd.lays196_ren := ⟨by kernel_rfl, by kernel_rfl, by kernel_rfl, by kernel_rfl, by kernel_rfl, by kernel_rfl, by kernel_rfl⟩
theorem tU : U8Types Tryd.prog Tryd.lays196_ren := { Tryd.lays196 with }

/-- What the row's list gives. -/
theorem tab_of {W : World} {l : List (String × DataW Unit)} (hl : l = [("unicode/utf8.acceptRanges", Rows.laid_unicode_utf8_acceptRanges), ("unicode/utf8.first", Rows.laid_unicode_utf8_first)]) (hL : laidMet Tryd.prog l W) : Tab W := by
  subst hl
  have r1 : VarReads Tryd.prog W "unicode/utf8.acceptRanges" acceptData := accept_eq ▸ Lib.laidMet.reads hL (.head _)
  have r7 : VarReads Tryd.prog W "unicode/utf8.first" firstData := Pinned.utf8First_eq ▸ Lib.laidMet.reads hL (.tail _ (.head _))
  exact utf8Tabs_of_readsT tU xU r7 r1

end Go.Proofs.YtbnbfgkcndomaabDoor
