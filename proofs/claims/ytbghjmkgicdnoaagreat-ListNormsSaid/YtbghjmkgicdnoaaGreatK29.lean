/-
  What package list calls of Go's library: slices.Grow, Concat, Clone of strokes.
-/
import Derived.Test.YtbghjmkgicdnoaaGreatK19
import Derived.Test.YtbghjmkgicdnoaaGreatK28
namespace Go.Proofs.YtbghjmkgicdnoaaGreat
open Go.RowKit Go.Shelf

theorem nil_ne (ad : Addr) (n cap : Nat) (W : World) : (binOp .eql 22 (.slice (some ad) n cap) (.slice none 0 0)).run Tryz.prog W = .ok (.bool false) W := by kernel_rfl
theorem nil_eq (W : World) : (binOp .eql 22 (.slice none 0 0) (.slice none 0 0)).run Tryz.prog W = .ok (.bool true) W := by kernel_rfl

/-- A slice of slices, each of which holds api.Stroke. -/
def RowsS (w : World) (v : Value) (Ls : List (List St)) : Prop := ∃ oa cap, v = .slice oa Ls.length cap ∧ Ls.length ≤ cap ∧ (0 < Ls.length → ∃ hb ho, oa = some ⟨hb, ho, none⟩ ∧ hb < w.heap.size ∧ ∀ k (h : k < Ls.length), ∃ u, w.cell? ⟨hb, ho + k, none⟩ = some u ∧ LsS w u Ls[k] ∧ NoNil u)
theorem RowsS.below {w w' : World} {v : Value} {Ls : List (List St)} (h : RowsS w v Ls) (hb : Below w.heap.size w w') : RowsS w' v Ls := by
  obtain ⟨oa, cap, e, hc, hg⟩ := h
  refine ⟨oa, cap, e, hc, fun hp => ?_⟩
  obtain ⟨g, o, e1, g1, g2⟩ := hg hp
  refine ⟨g, o, e1, Nat.lt_of_lt_of_le g1 hb.size, fun i hi => ?_⟩
  obtain ⟨u, c, hl, hn⟩ := g2 i hi
  exact ⟨u, (hb.cell (p := ⟨g, o + i, none⟩) g1).trans c, hl.below hb, hn⟩

end Go.Proofs.YtbghjmkgicdnoaaGreat
