/-
  Not needed in this seat.
-/
import Derived.Test.YtleoaanjcccooaaGreatDoorProg
namespace Go.Proofs.YtleoaanjcccooaaGreatDoor

end Go.Proofs.YtleoaanjcccooaaGreatDoor
