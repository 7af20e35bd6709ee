/-
  Not needed in this seat.
-/
import Derived.Test.YtdmhcmngajmghaaGreatDoorProg
namespace Go.Proofs.YtdmhcmngajmghaaGreatDoor

end Go.Proofs.YtdmhcmngajmghaaGreatDoor
