/-
  Texts of this claim, one behind the other: what each is about stands ahead of it.
-/
import Derived.Test.YtcahdmfmcojaoaaGreatDoorK19
import Derived.Test.YtcahdmfmcojaoaaGreatDoorK20
import Derived.Test.YtcahdmfmcojaoaaGreatDoorK3
/-
  Contracts of package region: what two rows have together; the rectangles that have places, the leftmost first.
-/
namespace Go.Proofs.YtcahdmfmcojaoaaGreatDoor
open Go.RowKit Go.Sort Go.Shelf

end Go.Proofs.YtcahdmfmcojaoaaGreatDoor

/-
  Contracts of package region: the rows at which rectangles begin or end, each once, rising.
-/
namespace Go.Proofs.YtcahdmfmcojaoaaGreatDoor
open Go.RowKit Go.Sort Go.Shelf

end Go.Proofs.YtcahdmfmcojaoaaGreatDoor

/-
  Contracts of package region: whether spans are the same; bands in memory.
-/
namespace Go.Proofs.YtcahdmfmcojaoaaGreatDoor
open Go.RowKit Go.Sort Go.Shelf

end Go.Proofs.YtcahdmfmcojaoaaGreatDoor

/-
  Contracts of package region: the bands of what is left of two lists.
-/
namespace Go.Proofs.YtcahdmfmcojaoaaGreatDoor
open Go.RowKit Go.Sort Go.Shelf

end Go.Proofs.YtcahdmfmcojaoaaGreatDoor

/-
  Contracts of package region: the form.
-/
namespace Go.Proofs.YtcahdmfmcojaoaaGreatDoor
open Go.RowKit Go.Sort Go.Shelf

end Go.Proofs.YtcahdmfmcojaoaaGreatDoor

/-
  Contracts of package region: what is wrong with two lists; the form as an answer; Of, Meet, Less.
-/
namespace Go.Proofs.YtcahdmfmcojaoaaGreatDoor
open Go.RowKit Go.Sort Go.Shelf

end Go.Proofs.YtcahdmfmcojaoaaGreatDoor

/-
  Contracts: whether two lists of rectangles are the same, by package slices and by the document's answer.
-/
namespace Go.Proofs.YtcahdmfmcojaoaaGreatDoor
open Go.RowKit Go.Sort Go.Shelf

end Go.Proofs.YtcahdmfmcojaoaaGreatDoor

/-
  Contracts of package region: Check, Same, Area.
-/
namespace Go.Proofs.YtcahdmfmcojaoaaGreatDoor
open Go.RowKit Go.Sort Go.Shelf

theorem lsr_own {w : World} {base : Nat} {v : Value} {l : List Rc} (h : w.ownsRow base 56 4 v l.length (flat l)) : LsR w v l := by
  obtain ⟨oa, cap, rfl, hc, hg⟩ := row_val h
  refine ⟨oa, cap, rfl, hc, fun hp => ?_⟩
  obtain ⟨g, rfl, _, hg2⟩ := hg hp
  refine ⟨g, 0, rfl, hg2, fun i hi => ?_⟩
  obtain ⟨f0, f1, f2, f3⟩ := flat_at l i hi
  rw [Nat.zero_add]
  exact ⟨by rw [own_cell h _ (by omega), f0], by rw [own_cell h _ (by omega), f1], by rw [own_cell h _ (by omega), f2], by rw [own_cell h _ (by omega), f3]⟩
end Go.Proofs.YtcahdmfmcojaoaaGreatDoor

/-
  Contracts of package region: Has, Bound.
-/
namespace Go.Proofs.YtcahdmfmcojaoaaGreatDoor
open Go.RowKit Go.Sort Go.Shelf

end Go.Proofs.YtcahdmfmcojaoaaGreatDoor
