/-
  Contracts: two corners make a rectangle, by the program and by the document's answer.
-/
import Derived.Test.YtdbafcldpleogaaGreatDoorW2
import Derived.Test.YtdbafcldpleogaaGreatDoorW3
namespace Go.Proofs.YtdbafcldpleogaaGreatDoor
open Go.RowKit

theorem corn_bd {x y : Int} (h : cornB x y = true) : -16384 ≤ x ∧ x ≤ 16384 ∧ -16384 ≤ y ∧ y ≤ 16384 := by
  unfold cornB at h
  rw [Bool.and_eq_true, wit_iff, wit_iff] at h
  omega

theorem mnmx (a b : Int) : (a ≤ b ∧ a < b ∧ min a b = a ∧ max a b = b) ∨ (a ≤ b ∧ b ≤ a ∧ min a b = a ∧ max a b = a) ∨ (b ≤ a ∧ b < a ∧ min a b = b ∧ max a b = a) := by omega

end Go.Proofs.YtdbafcldpleogaaGreatDoor
