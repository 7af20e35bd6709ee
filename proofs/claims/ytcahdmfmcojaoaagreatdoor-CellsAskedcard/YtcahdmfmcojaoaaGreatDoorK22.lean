/-
  What this program calls of Go's library, and the library's contracts serve: slices.Grow, laid at this program.
-/
import Derived.Shelf.Lay
import Derived.Shelf.LaySoft
import Derived.Shelf.SlGeneric
import Derived.Shelf.Spec.SlicesGrow
import Derived.Ground.Names8Prog
import Derived.Test.YtcahdmfmcojaoaaGreatDoorProg
namespace Go.Proofs
open Go.Shelf

shelf_tried
end Go.Proofs
