/-
  The statements' own helpers: t, is, alive; lists of numbers that are the same.
-/
import Derived.Test.YthnhcphkpffkfaaGreatXI
namespace Go.Proofs.YthnhcphkpffkfaaGreat
open Go.RowKit

theorem take_eq {xs ys : List Int} (k : Nat) (hx : k < xs.length) (hy : k < ys.length) (h : xs.take k = ys.take k) (e : xs[k] = ys[k]) : xs.take (k + 1) = ys.take (k + 1) := by
  rw [← List.take_append_getElem hx, ← List.take_append_getElem hy, h, e]
theorem take_ne {xs ys : List Int} (k : Nat) (hx : k < xs.length) (hy : k < ys.length) (e : xs[k] ≠ ys[k]) : xs ≠ ys := by
  rintro rfl
  exact e rfl

end Go.Proofs.YthnhcphkpffkfaaGreat
