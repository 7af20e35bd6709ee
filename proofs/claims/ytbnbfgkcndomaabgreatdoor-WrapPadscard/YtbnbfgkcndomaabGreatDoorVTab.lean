/-
  The tables of unicode/utf8.
-/
import Derived.Test.YtbnbfgkcndomaabGreatDoorRV
import Derived.Test.YtbnbfgkcndomaabGreatDoorW1
namespace Go.Proofs.YtbnbfgkcndomaabGreatDoor
open Go.RowKit Go.Shelf

def Tab (w : World) : Prop := Lib.Utf8Tabs (Tryz.lays196_ren.g 3) (Tryz.lays196_ren.g 4) w
theorem Tab.below {w w' : World} (h : Tab w) (hb : Below w.heap.size w w') : Tab w' := Utf8Tabs_below h hb

end Go.Proofs.YtbnbfgkcndomaabGreatDoor
