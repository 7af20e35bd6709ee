/-
  A rectangle, a point, a size that came in: the value written out; that its numbers fit.
-/
import Derived.Test.YtpeppbfkbijdiaaW1
import Derived.ProofKit
import Derived.OpenShut
import Derived.Lib.SmallJoins
namespace Go.Proofs.Ytpeppbfkbijdiaa
open Go.ChangeShapes Go.WideShapes Go.ChangeAt Go.RowKit Go.Joins

theorem own : ownKnob Try.prog.godebug = none := by kernel_rfl
theorem laidOut : laidOutB Try.prog = true := by kernel_rfl
theorem cells_r : Try.prog.cellsOf 29 = 4 := by kernel_rfl
theorem cells_p : Try.prog.cellsOf 25 = 2 := by kernel_rfl
theorem cells_s : Try.prog.cellsOf 27 = 2 := by kernel_rfl
theorem cells_i : Try.prog.cellsOf 3 = 1 := by kernel_rfl

theorem i64_of {n : Int} (h : (Lit.int .i64 n).wf = true) : I64 n := by
  have := bounds_i64 h
  exact ⟨this.1, this.2⟩

theorem open_point {H : Type} {enc : TypeId × Value → H} {W : World} {base b : Nat} {sp : Nat → Bool} {held : Bool} {v : Value} {d : DataW H} {p : List MemPlace}
    (hv : Value.okWide Try.prog W .any base 25 v) (h : DataW.Trod enc Try.prog W b sp held 25 v d p) : ∃ x y : Int, v = .agg #[.int .i64 x, .int .i64 y] ∧ I64 x ∧ I64 y := by
  obtain ⟨c0, c1, y0, y1, m, rfl, rfl, rfl, hy0, hy1⟩ := open_agg2 Try.underlying25 (by kernel_rfl) cells_p hv h
  obtain ⟨a, e0, rfl, wa⟩ := DataW.trod_int Try.underlying3 hy0
  obtain ⟨c, e1, rfl, wc⟩ := DataW.trod_int Try.underlying3 hy1
  simp at e0 e1
  subst e0 e1
  exact ⟨a, c, rfl, i64_of wa, i64_of wc⟩

theorem open_size {H : Type} {enc : TypeId × Value → H} {W : World} {base b : Nat} {sp : Nat → Bool} {held : Bool} {v : Value} {d : DataW H} {p : List MemPlace}
    (hv : Value.okWide Try.prog W .any base 27 v) (h : DataW.Trod enc Try.prog W b sp held 27 v d p) : ∃ x y : Int, v = .agg #[.int .i64 x, .int .i64 y] ∧ I64 x ∧ I64 y := by
  obtain ⟨c0, c1, y0, y1, m, rfl, rfl, rfl, hy0, hy1⟩ := open_agg2 Try.underlying27 (by kernel_rfl) cells_s hv h
  obtain ⟨a, e0, rfl, wa⟩ := DataW.trod_int Try.underlying3 hy0
  obtain ⟨c, e1, rfl, wc⟩ := DataW.trod_int Try.underlying3 hy1
  simp at e0 e1
  subst e0 e1
  exact ⟨a, c, rfl, i64_of wa, i64_of wc⟩

theorem open_rect {H : Type} {enc : TypeId × Value → H} {W : World} {base b : Nat} {sp : Nat → Bool} {held : Bool} {v : Value} {d : DataW H} {p : List MemPlace}
    (hv : Value.okWide Try.prog W .any base 29 v) (h : DataW.Trod enc Try.prog W b sp held 29 v d p) : ∃ x y n m : Int, v = .agg #[.int .i64 x, .int .i64 y, .int .i64 n, .int .i64 m] ∧ I64 x ∧ I64 y ∧ I64 n ∧ I64 m := by
  obtain ⟨cs, rfl, hsz⟩ := okWide_struct Try.underlying29 hv
  obtain ⟨c0, c1, c2, c3, rfl⟩ := array4 (hsz.trans cells_r)
  obtain ⟨fuel, hf⟩ := h
  obtain ⟨y0, y1, n, hx, _, h0, h1⟩ := trod_struct2 Try.underlying29 hf
  simp [Value.cells, cells_p, cells_s] at h0 h1
  obtain ⟨y00, y01, n0, hx0, _, h00, h01⟩ := trod_struct2 Try.underlying25 h0
  obtain ⟨y10, y11, n1, hx1, _, h10, h11⟩ := trod_struct2 Try.underlying27 h1
  simp [cells_i] at h00 h01 h10 h11
  obtain ⟨a0, e0, _, w0⟩ := DataW.trod_int Try.underlying3 h00
  obtain ⟨a1, e1, _, w1⟩ := DataW.trod_int Try.underlying3 h01
  obtain ⟨a2, e2, _, w2⟩ := DataW.trod_int Try.underlying3 h10
  obtain ⟨a3, e3, _, w3⟩ := DataW.trod_int Try.underlying3 h11
  simp at e0 e1 e2 e3
  subst e0 e1 e2 e3
  exact ⟨a0, a1, a2, a3, rfl, i64_of w0, i64_of w1, i64_of w2, i64_of w3⟩

end Go.Proofs.Ytpeppbfkbijdiaa
