/-
  Texts of this claim, one behind the other: what each is about stands ahead of it.
-/
import Derived.Test.YtapachlhdgehjaaGreatDoorK18
import Derived.Test.YtapachlhdgehjaaGreatDoorK19
import Derived.Test.YtapachlhdgehjaaGreatDoorK2
/-
  Not needed in this seat.
-/
namespace Go.Proofs.YtapachlhdgehjaaGreatDoor

end Go.Proofs.YtapachlhdgehjaaGreatDoor

/-
  Not needed in this seat.
-/
namespace Go.Proofs.YtapachlhdgehjaaGreatDoor

end Go.Proofs.YtapachlhdgehjaaGreatDoor

/-
  Not needed in this seat.
-/
namespace Go.Proofs.YtapachlhdgehjaaGreatDoor

end Go.Proofs.YtapachlhdgehjaaGreatDoor

/-
  Not needed in this seat.
-/
namespace Go.Proofs.YtapachlhdgehjaaGreatDoor

end Go.Proofs.YtapachlhdgehjaaGreatDoor

/-
  Not needed in this seat.
-/
namespace Go.Proofs.YtapachlhdgehjaaGreatDoor

end Go.Proofs.YtapachlhdgehjaaGreatDoor

/-
  Contracts of package region: what is wrong with two lists; the form as an answer; Of, Meet, Less.
-/
namespace Go.Proofs.YtapachlhdgehjaaGreatDoor
open Go.RowKit

end Go.Proofs.YtapachlhdgehjaaGreatDoor

/-
  Contracts: whether two lists of rectangles are the same, by package slices and by the document's answer.
-/
namespace Go.Proofs.YtapachlhdgehjaaGreatDoor
open Go.RowKit

end Go.Proofs.YtapachlhdgehjaaGreatDoor

/-
  Contracts of package region: Check, Same, Area.
-/
namespace Go.Proofs.YtapachlhdgehjaaGreatDoor
open Go.RowKit

theorem lsr_own {w : World} {base : Nat} {v : Value} {l : List Rc} (h : w.ownsRow base 52 4 v l.length (flat l)) : LsR w v l := by
  obtain ⟨oa, cap, rfl, hc, hg⟩ := row_val h
  refine ⟨oa, cap, rfl, hc, fun hp => ?_⟩
  obtain ⟨g, rfl, _, hg2⟩ := hg hp
  refine ⟨g, 0, rfl, hg2, fun i hi => ?_⟩
  obtain ⟨f0, f1, f2, f3⟩ := flat_at l i hi
  rw [Nat.zero_add]
  exact ⟨by rw [own_cell h _ (by omega), f0], by rw [own_cell h _ (by omega), f1], by rw [own_cell h _ (by omega), f2], by rw [own_cell h _ (by omega), f3]⟩
end Go.Proofs.YtapachlhdgehjaaGreatDoor

/-
  Contracts of package region: Has, Bound.
-/
namespace Go.Proofs.YtapachlhdgehjaaGreatDoor
open Go.RowKit

end Go.Proofs.YtapachlhdgehjaaGreatDoor
