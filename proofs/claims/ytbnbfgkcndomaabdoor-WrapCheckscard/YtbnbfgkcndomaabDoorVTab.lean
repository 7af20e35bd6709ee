/-
  The tables of unicode/utf8.
-/
import Derived.Test.YtbnbfgkcndomaabDoorRV
import Derived.Test.YtbnbfgkcndomaabDoorW1
namespace Go.Proofs.YtbnbfgkcndomaabDoor
open Go.RowKit Go.Shelf

def Tab (w : World) : Prop := Lib.Utf8Tabs (Tryd.lays196_ren.g 3) (Tryd.lays196_ren.g 4) w
theorem Tab.below {w w' : World} (h : Tab w) (hb : Below w.heap.size w w') : Tab w' := Utf8Tabs_below h hb

end Go.Proofs.YtbnbfgkcndomaabDoor
