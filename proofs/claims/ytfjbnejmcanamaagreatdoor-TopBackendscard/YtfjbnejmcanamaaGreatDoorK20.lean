/-
  Not needed in this seat.
-/
import Derived.Test.YtfjbnejmcanamaaGreatDoorProg
namespace Go.Proofs.YtfjbnejmcanamaaGreatDoor

end Go.Proofs.YtfjbnejmcanamaaGreatDoor
