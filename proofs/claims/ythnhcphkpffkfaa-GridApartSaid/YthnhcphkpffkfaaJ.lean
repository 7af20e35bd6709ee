/-
  Contracts of package geom: the least rectangle that has both; whether one lies in another, over another.
-/
import Derived.Test.YthnhcphkpffkfaaW3
import Derived.Test.YthnhcphkpffkfaaM
import Derived.Test.YthnhcphkpffkfaaPlain2
namespace Go.Proofs.Ythnhcphkpffkfaa
open Go.RowKit
attribute [local go_sem] ite_max ite_min

/-- Two rectangles, compared. -/
theorem eql_rect (a b c d x y z u : Int) (w : World) : (binOp .eql 42 (.agg #[.int .i64 a, .int .i64 b, .int .i64 c, .int .i64 d]) (.agg #[.int .i64 x, .int .i64 y, .int .i64 z, .int .i64 u])).run Try.prog w = .ok (.bool ((a == x) && ((b == y) && ((c == z) && (d == u))))) w := by
  have h : ∀ p q : Int, (p == q) = decide (p = q) := fun p q => by rw [Bool.eq_iff_iff]; simp
  by_cases h1 : a = x <;> by_cases h2 : b = y <;> by_cases h3 : c = z <;> by_cases h4 : d = u <;> simp [go_sem, h, h1, h2, h3, h4]
theorem neq_rect (a b c d x y z u : Int) (w : World) : (binOp .neq 42 (.agg #[.int .i64 a, .int .i64 b, .int .i64 c, .int .i64 d]) (.agg #[.int .i64 x, .int .i64 y, .int .i64 z, .int .i64 u])).run Try.prog w = .ok (.bool (!((a == x) && ((b == y) && ((c == z) && (d == u)))))) w := by
  have h : ∀ p q : Int, (p == q) = decide (p = q) := fun p q => by rw [Bool.eq_iff_iff]; simp
  by_cases h1 : a = x <;> by_cases h2 : b = y <;> by_cases h3 : c = z <;> by_cases h4 : d = u <;> simp [go_sem, h, h1, h2, h3, h4]

end Go.Proofs.Ythnhcphkpffkfaa
