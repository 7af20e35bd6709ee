/-
  What this program calls of Go's library, and the library's contracts serve: laid at this program.
-/
import Derived.Shelf.Lay
import Derived.Shelf.LaySoft
import Derived.Shelf.Unicode.ValidAny
import Derived.Shelf.Strings.Search3
import Derived.Shelf.Small.Bits
import Derived.Test.YtobmpjmpffnoiaaDoorProg
namespace Go.Proofs
open Go.Shelf
shelf_try shelf_lay Lays.n135 Nm 135 at Tryd as Tryd.lays135
shelf_try shelf_lay Lays.n143 Nm 143 at Tryd as Tryd.lays143
shelf_try shelf_lay Lays.n144 Nm 144 at Tryd as Tryd.lays144
shelf_try shelf_lay Lays.n196 Nm 196 at Tryd as Tryd.lays196
shelf_try shelf_lay Lays.n197 Nm 197 at Tryd as Tryd.lays197
shelf_tried
end Go.Proofs
