/-
  Boxes of colours; contracts of what two weights make of two numbers.
-/
import Derived.Test.YtooolcldiecfjaaDoorK1
import Derived.Test.YtooolcldiecfjaaDoorK2
import Derived.Deep.RegionWith
import Derived.Deep.DeepCutAuto
namespace Go.Proofs.YtooolcldiecfjaaDoor
open Go.RowKit

/-- A block that holds a colour. -/
def AtC (w : World) (k : Nat) (c : Co) : Prop := w.cell? ⟨k, 0, none⟩ = some (.int .u8 c.r) ∧ w.cell? ⟨k, 1, none⟩ = some (.int .u8 c.g) ∧ w.cell? ⟨k, 2, none⟩ = some (.int .u8 c.b) ∧ w.cell? ⟨k, 3, none⟩ = some (.int .u8 c.a)
theorem AtC.drew {w : World} {k : Nat} {c : Co} (h : AtC w k c) : AtC w.drew k c := h
theorem AtC.lt {w : World} {k : Nat} {c : Co} (h : AtC w k c) : k < w.heap.size := lt_of_cell h.1
theorem AtC.below {W w1 : World} {k : Nat} {c : Co} (h : AtC W k c) (hb : Below W.heap.size W w1) : AtC w1 k c := by
  have e := keepAt hb h.1
  exact ⟨(e 0).trans h.1, (e 1).trans h.2.1, (e 2).trans h.2.2.1, (e 3).trans h.2.2.2⟩
theorem AtC.alloc {w : World} {k : Nat} {c : Co} (h : AtC w k c) (o : Obj) : AtC (w.alloc o) k c := h.below ((Below.refl _ _).alloc (Nat.le_refl _) o)
theorem AtC.new (w : World) (r g b a : Int) (t : TypeId) : AtC (w.alloc (.cells #[.int .u8 r, .int .u8 g, .int .u8 b, .int .u8 a] t)) w.heap.size ⟨r, g, b, a⟩ := by
  unfold AtC; simp
theorem AtC.new' (w : World) (k : Nat) (r g b a : Int) (t : TypeId) (h : k = w.heap.size) : AtC (w.alloc (.cells #[.int .u8 r, .int .u8 g, .int .u8 b, .int .u8 a] t)) k ⟨r, g, b, a⟩ := by
  rw [h]; exact AtC.new w r g b a t
theorem AtC.set {w : World} {k : Nat} {c : Co} (h : AtC w k c) {p : Addr} (v : Value) (hp : p.block ≠ k) : AtC (w.setCell p v) k c := by
  have e : ∀ o, (w.setCell p v).cell? ⟨k, o, none⟩ = w.cell? ⟨k, o, none⟩ := fun o => World.cell?_setCell_other w p ⟨k, o, none⟩ v (fun e => hp (by rw [e]))
  exact ⟨(e 0).trans h.1, (e 1).trans h.2.1, (e 2).trans h.2.2.1, (e 3).trans h.2.2.2⟩
theorem AtC.put {w : World} {k : Nat} {c : Co} (h : AtC w k c) (r g b a : Int) : AtC ((((w.setCell ⟨k, 0, none⟩ (.int .u8 r)).setCell ⟨k, 1, none⟩ (.int .u8 g)).setCell ⟨k, 2, none⟩ (.int .u8 b)).setCell ⟨k, 3, none⟩ (.int .u8 a)) k ⟨r, g, b, a⟩ := by
  obtain ⟨h0, h1, h2, h3⟩ := h
  unfold AtC
  simp [go_sem, h0, h1, h2, h3]
theorem gwC {W : World} {k : Nat} {c : Co} (h : AtC W k c) (t : Gw W) : AtC t.wd k c := h.below t.below

/-- What a call that takes two colours and answers one has laid when it begins. -/
theorem boxes_ccc (w : World) (a b : Co) (t t' t'' : TypeId) : AtC (((w.alloc (.cells #[.int .u8 a.r, .int .u8 a.g, .int .u8 a.b, .int .u8 a.a] t)).alloc (.cells #[.int .u8 b.r, .int .u8 b.g, .int .u8 b.b, .int .u8 b.a] t')).alloc (.cells #[.int .u8 0, .int .u8 0, .int .u8 0, .int .u8 0] t'')) w.heap.size a ∧
    AtC (((w.alloc (.cells #[.int .u8 a.r, .int .u8 a.g, .int .u8 a.b, .int .u8 a.a] t)).alloc (.cells #[.int .u8 b.r, .int .u8 b.g, .int .u8 b.b, .int .u8 b.a] t')).alloc (.cells #[.int .u8 0, .int .u8 0, .int .u8 0, .int .u8 0] t'')) (w.heap.size + 1) b ∧
    AtC (((w.alloc (.cells #[.int .u8 a.r, .int .u8 a.g, .int .u8 a.b, .int .u8 a.a] t)).alloc (.cells #[.int .u8 b.r, .int .u8 b.g, .int .u8 b.b, .int .u8 b.a] t')).alloc (.cells #[.int .u8 0, .int .u8 0, .int .u8 0, .int .u8 0] t'')) (w.heap.size + 1 + 1) ⟨0, 0, 0, 0⟩ ∧
    Fr (((w.alloc (.cells #[.int .u8 a.r, .int .u8 a.g, .int .u8 a.b, .int .u8 a.a] t)).alloc (.cells #[.int .u8 b.r, .int .u8 b.g, .int .u8 b.b, .int .u8 b.a] t')).alloc (.cells #[.int .u8 0, .int .u8 0, .int .u8 0, .int .u8 0] t'')) (w.heap.size + 1 + 1) ∧
    Below w.heap.size w (((w.alloc (.cells #[.int .u8 a.r, .int .u8 a.g, .int .u8 a.b, .int .u8 a.a] t)).alloc (.cells #[.int .u8 b.r, .int .u8 b.g, .int .u8 b.b, .int .u8 b.a] t')).alloc (.cells #[.int .u8 0, .int .u8 0, .int .u8 0, .int .u8 0] t'')) := by
  have B := (AtC.new (w.alloc (.cells #[.int .u8 a.r, .int .u8 a.g, .int .u8 a.b, .int .u8 a.a] t)) b.r b.g b.b b.a t').alloc (.cells #[.int .u8 0, .int .u8 0, .int .u8 0, .int .u8 0] t'')
  have C := AtC.new ((w.alloc (.cells #[.int .u8 a.r, .int .u8 a.g, .int .u8 a.b, .int .u8 a.a] t)).alloc (.cells #[.int .u8 b.r, .int .u8 b.g, .int .u8 b.b, .int .u8 b.a] t')) 0 0 0 0 t''
  simp only [World.size_alloc] at B C
  exact ⟨((AtC.new w a.r a.g a.b a.a t).alloc _).alloc _, B, C, fr2 _ _ _ _ _, (((Below.refl _ w).alloc (Nat.le_refl _) _).alloc (by simp) _).alloc (by simp; omega) _⟩

end Go.Proofs.YtooolcldiecfjaaDoor
