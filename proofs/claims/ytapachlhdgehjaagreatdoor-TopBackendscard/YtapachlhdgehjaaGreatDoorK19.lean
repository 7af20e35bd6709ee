/-
  Not needed in this seat.
-/
import Derived.Test.YtapachlhdgehjaaGreatDoorProg
namespace Go.Proofs.YtapachlhdgehjaaGreatDoor

end Go.Proofs.YtapachlhdgehjaaGreatDoor
