/-
  The document's grid: sides, used, sum, tracks.
-/
import Derived.Test.YthnhcphkpffkfaaYG
namespace Go.Proofs.Ythnhcphkpffkfaa
open Go.RowKit
attribute [local go_sem] ite_maxK ite_minK

theorem take_map_snoc {α β : Type} (f : α → β) {l : List α} {k : Nat} (h : k < l.length) : (l.take (k + 1)).map f = (l.take k).map f ++ [f l[k]] := by
  rw [List.take_succ_eq_append_getElem h, List.map_append]; rfl

theorem smL_bd {l : List Int} {M : Int} (h : ∀ x ∈ l, 0 ≤ x ∧ x ≤ M) : 0 ≤ smL l ∧ smL l ≤ l.length * M := by
  induction l with
  | nil => simp [smL]
  | cons x l ih =>
    have h1 := ih fun y hy => h y (by simp [hy])
    have h2 := h x (by simp)
    rw [smL, List.length_cons, Int.natCast_add, Int.add_mul]
    simp
    omega

end Go.Proofs.Ythnhcphkpffkfaa
