/-
  Contracts of package geom: areas, places, what two have together.
-/
import Derived.Test.YtdbafcldpleogaaGreatDoorW1
namespace Go.Proofs.YtdbafcldpleogaaGreatDoor
open Go.RowKit

end Go.Proofs.YtdbafcldpleogaaGreatDoor
