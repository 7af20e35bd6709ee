/-
  The tables that the row lists: what lies in memory.
-/
import Derived.Test.YtbppadheejdhcaaDoorRows
import Derived.Test.YtbppadheejdhcaaDoorDW1
import Derived.Lib.LaidU8
import Derived.Lib.LaidTab
import Derived.MakeChecks
import Derived.FnData
namespace Go.Proofs.YtbppadheejdhcaaDoor
open Go.RowKit Go.Lib

theorem few_eq : Rows.laid_casement_colour_few (H := Unit) = tabData .u32 fewL := by kernel_rfl
theorem levels_eq : Rows.laid_casement_colour_levels (H := Unit) = tabData .u8 levL := by kernel_rfl

/-- What the row's list gives. -/
theorem pal_of {W : World} {l : List (String × DataW Unit)} (hl : l = [("casement/colour.few", Rows.laid_casement_colour_few), ("casement/colour.levels", Rows.laid_casement_colour_levels)]) (hL : laidMet Tryd.prog l W) : Pal W := by
  subst hl
  have r1 : VarReads Tryd.prog W "casement/colour.few" (tabData .u32 fewL) := few_eq ▸ Lib.laidMet.reads hL (.head _)
  have r2 : VarReads Tryd.prog W "casement/colour.levels" (tabData .u8 levL) := levels_eq ▸ Lib.laidMet.reads hL (.tail _ (.head _))
  constructor
  · obtain ⟨g', t, cs, fuel, p, hg, hty, hvar, hd⟩ := r1
    obtain rfl := Option.some.inj ((show Tryd.prog.globalNamed "casement/colour.few" = some 0 by kernel_rfl).symm.trans hg)
    obtain rfl := Option.some.inj ((show (Tryd.prog.globals[0]?).map (·.type) = some 43 by kernel_rfl).symm.trans hty)
    have hcs := cells_of_tab Tryd.underlying43 Tryd.underlying42 (by kernel_rfl) (by kernel_rfl) hd
    intro j hj
    rw [World.var?_cell hg hvar j, ← Array.getElem?_toList, hcs]
    have : fewL[j]? = some (fewN j) := by
      unfold fewN
      rw [List.getD_eq_getElem?_getD, List.getElem?_eq_getElem (show j < fewL.length from hj)]
      rfl
    rw [List.getElem?_map, this]
    rfl
  · obtain ⟨g', t, cs, fuel, p, hg, hty, hvar, hd⟩ := r2
    obtain rfl := Option.some.inj ((show Tryd.prog.globalNamed "casement/colour.levels" = some 1 by kernel_rfl).symm.trans hg)
    obtain rfl := Option.some.inj ((show (Tryd.prog.globals[1]?).map (·.type) = some 45 by kernel_rfl).symm.trans hty)
    have hcs := cells_of_tab Tryd.underlying45 Tryd.underlying5 (by kernel_rfl) (by kernel_rfl) hd
    intro j hj
    rw [World.var?_cell hg hvar j, ← Array.getElem?_toList, hcs]
    have : levL[j]? = some (levN j) := by
      unfold levN
      rw [List.getD_eq_getElem?_getD, List.getElem?_eq_getElem (show j < levL.length from hj)]
      rfl
    rw [List.getElem?_map, this]
    rfl

end Go.Proofs.YtbppadheejdhcaaDoor
