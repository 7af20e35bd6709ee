/-
  The calls of package flex: Share, Need, Most, Starts, Row.
-/
import Derived.Test.YthnhcphkpffkfaaGreatXG
import Derived.Test.YthnhcphkpffkfaaGreatXP5
namespace Go.Proofs.YthnhcphkpffkfaaGreat
open Go.RowKit

/-- A list and an error answered, in memory of the call's own. -/
def AnsI (w : World) (xs : List Int) (er : Int) (e : Ending) (w' : World) : Prop := ∃ v, e = .returned (.tuple #[v, .int .i64 er]) ∧ Hid (OwI w.heap.size w' v xs ∧ Below w.heap.size w w')

end Go.Proofs.YthnhcphkpffkfaaGreat
