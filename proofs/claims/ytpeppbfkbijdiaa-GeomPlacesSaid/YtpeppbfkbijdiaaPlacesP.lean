/-
  The statement GeomPlaces holds: of any two small rectangles, place by place, Meet has what both have, the pieces of Less what the first has alone, each once, Join is the least one that has both; no condition.
-/
import Derived.Test.YtpeppbfkbijdiaaRows
import Derived.Test.YtpeppbfkbijdiaaOpen
import Derived.Test.YtpeppbfkbijdiaaPlaces
import Derived.ChangeOld
namespace Go.Proofs.Ytpeppbfkbijdiaa
open Go.ChangeShapes Go.WideShapes Go.ChangeAt Go.RowKit Go.Joins

theorem cells_f : Try.prog.cellsOf 50 = 4 := by kernel_rfl
theorem open_four {H : Type} {enc : TypeId × Value → H} {W : World} {base b : Nat} {sp : Nat → Bool} {held : Bool} {v : Value} {d : DataW H} {p : List MemPlace}
    (hv : Value.okWide Try.prog W .any base 50 v) (h : DataW.Trod enc Try.prog W b sp held 50 v d p) : ∃ x y n m : Int, v = .agg #[.int .i8 x, .int .i8 y, .int .i8 n, .int .i8 m] ∧ (-128 ≤ x ∧ x ≤ 127) ∧ (-128 ≤ y ∧ y ≤ 127) ∧ (-128 ≤ n ∧ n ≤ 127) ∧ (-128 ≤ m ∧ m ≤ 127) := by
  obtain ⟨c0, c1, c2, c3, y0, y1, y2, y3, m, rfl, rfl, rfl, hy0, hy1, hy2, hy3⟩ := open_agg4 Try.underlying50 (by kernel_rfl) cells_f hv h
  obtain ⟨a0, e0, _, w0⟩ := DataW.trod_int Try.underlying48 hy0
  obtain ⟨a1, e1, _, w1⟩ := DataW.trod_int Try.underlying48 hy1
  obtain ⟨a2, e2, _, w2⟩ := DataW.trod_int Try.underlying48 hy2
  obtain ⟨a3, e3, _, w3⟩ := DataW.trod_int Try.underlying48 hy3
  simp at e0 e1 e2 e3
  subst e0 e1 e2 e3
  exact ⟨a0, a1, a2, a3, rfl, bounds_i8 w0, bounds_i8 w1, bounds_i8 w2, bounds_i8 w3⟩

set_option maxRecDepth 100000 in
theorem places_lifted (os : Os) (started : os.Started) (H : Type) (enc : TypeId × Value → H) :
    ReturnsInHanded {} Try.checked os 7 .any (Rows.geomPlacesSpec.pre6 enc Try.prog Try.f7 Rows.geomPlacesRow.domain false) (Rows.geomPlacesSpec.post enc Try.prog Try.f7 false true false false) := by
  refine returnsInHanded_of_change (C := Try.checked) own started (by kernel_rfl) Try.func7
    (ChangeSpec.witness6 (enc := enc) (C := Try.checked) false ⟨#[], #[.agg #[.int .i8 0, .int .i8 0, .int .i8 0, .int .i8 0], .agg #[.int .i8 0, .int .i8 0, .int .i8 0, .int .i8 0]], []⟩ 8 (by kernel_rfl) (by kernel_rfl) (by kernel_rfl) (by kernel_rfl)) ?_
  intro W base args ds gs before hval0 hW _ _
  have hval : ∀ (j : Nat) t v, Try.f7.params[j]? = some t → args[j]? = some v → Value.okWide Try.prog W .any base t v := hval0
  have hW' := hW
  obtain ⟨p, q, hA0, hV, rfl, _, _⟩ := hW
  have hA : DataW.TrodAll enc Try.prog W 0 (fun _ => true) true Try.f7.params.toList args.toList ds p := hA0
  rw [Try.params7] at hA hval
  obtain ⟨v0, v1, d0, d1, p0, p1, rfl, rfl, rfl, h0, h1⟩ := trodAll_two hA
  obtain ⟨rfl, rfl⟩ := trodVars_none hV
  have k0 := h0
  have k1 := h1
  have lt0 : ∀ x ∈ p0, x.block < W.heap.size := by obtain ⟨m, hm⟩ := k0; exact DataW.trod_lt m _ _ _ hm
  have lt1 : ∀ x ∈ p1, x.block < W.heap.size := by obtain ⟨m, hm⟩ := k1; exact DataW.trod_lt m _ _ _ hm
  obtain ⟨p0', p1', p2', p3', rfl, u0, u1, u2, u3⟩ := open_four (hval 0 50 v0 rfl rfl) h0
  obtain ⟨q0', q1', q2', q3', rfl, s0, s1, s2, s3⟩ := open_four (hval 1 50 v1 rfl rfl) h1
  clear hA0 hval0
  refine (places_walk p0' p1' p2' p3' q0' q1' q2' q3' W u0.1 u0.2 u1.1 u1.2 u2.1 u2.2 u3.1 u3.2 s0.1 s0.2 s1.1 s1.2 s2.1 s2.2 s3.1 s3.2).mono fun e W' ⟨he, bel⟩ => ?_
  subst he
  exact ⟨_, rfl, _, _, _, [], _, [], hW', trodAll_mk1 (shut_bool Try.underlying4 _), (trodAll_mk2 (Below.trod laidOut (by kernel_rfl) (of_decide_eq_true (by kernel_rfl)) k0 bel lt0) (Below.trod laidOut (by kernel_rfl) (of_decide_eq_true (by kernel_rfl)) k1 bel lt1)), rfl, bel.frame _, fun h => by cases h⟩

theorem places_holds : Rows.GeomPlacesSaid :=
  OpenClaim.holds_of_wide 7 Try.f7 rfl rfl rfl rfl rfl rfl rfl ⟨rfl, rfl, rfl, rfl, rfl⟩ rfl rfl rfl rfl rfl (by kernel_rfl) Try.func7 (by kernel_rfl)
    (of_decide_eq_true (by kernel_rfl)) (by unfold Func.isWrapper; first | (rw [if_pos (by decide +kernel)]; kernel_rfl) | (rw [if_neg (by decide +kernel)]; exact ⟨rfl, rfl⟩))
    (fun os started H enc _ => places_lifted os started H enc)

#print axioms places_holds
end Go.Proofs.Ytpeppbfkbijdiaa
