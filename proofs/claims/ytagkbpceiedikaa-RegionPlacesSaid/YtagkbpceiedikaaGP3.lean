/-
  The statement RegionPlaces: plain facts, and the calls that go well.
-/
import Derived.Test.YtagkbpceiedikaaGP2
import Derived.Test.YtagkbpceiedikaaGZ5
namespace Go.Proofs.Ytagkbpceiedikaa
open Go.RowKit Go.Shelf

theorem hasC_cov (l : List Rc) (x y : Int) : hasC l x y = true ↔ cov l x y := by
  unfold hasC cov
  rw [List.any_eq_true]
  constructor
  · rintro ⟨r, hr, h⟩
    unfold hasB at h
    simp only [Bool.and_eq_true, decide_eq_true_eq] at h
    exact ⟨r, hr, by unfold keepE; exact h.1, h.2.1, h.2.2.1, h.2.2.2.1, h.2.2.2.2⟩
  · rintro ⟨r, hr, h0, h1, h2, h3, h4⟩
    refine ⟨r, hr, ?_⟩
    unfold hasB
    unfold keepE at h0
    simp only [Bool.and_eq_true, decide_eq_true_eq]
    exact ⟨h0, h1, h2, h3, h4⟩
theorem pl_join (a b : List Rc) (x y : Int) : hasC (formF false (a ++ b) []) x y = (hasC a x y || hasC b x y) := by
  rw [Bool.eq_iff_iff, hasC_cov, form_cov, Bool.or_eq_true, hasC_cov, hasC_cov, kp_nil, cov_app]
theorem pl_meet2 (a b : List Rc) (x y : Int) : hasC (formF true a b) x y = (hasC a x y && hasC b x y) := by
  rw [Bool.eq_iff_iff, hasC_cov, form_cov, Bool.and_eq_true, hasC_cov, hasC_cov, kp_true]
theorem pl_less (a b : List Rc) (x y : Int) : hasC (formF false a b) x y = (hasC a x y && !hasC b x y) := by
  rw [Bool.eq_iff_iff, hasC_cov, form_cov, Bool.and_eq_true, hasC_cov, kp_false, ← hasC_cov b]
  simp
theorem pl_of (a : List Rc) (x y : Int) : hasC (formF false a []) x y = hasC a x y := by
  rw [Bool.eq_iff_iff, hasC_cov, form_cov, hasC_cov, kp_nil]
theorem chk_form (k : Bool) (a b : List Rc) (h : (formF k a b).length ≤ 1024) : chkE (formF k a b) = 0 := by
  unfold chkE
  rw [if_pos (lis_keep h (form_keep k a b)), form_form, if_pos ((sameB_iff _ _).2 rfl)]
theorem check_ok {W : World} {v : Value} {F : List Rc} (h : Lsx W v F) (e : chkE F = 0) : Calls Try.prog 13 #[v] W fun e w' => e = .returned (.int .i64 0) ∧ Below W.heap.size W w' := by
  have q := checkL_any F v W h.1 h.2.2.1
  rwa [e] at q
theorem has_ok {W : World} {v : Value} {l : List Rc} (h : Lsx W v l) (x y : Int) : Calls Try.prog 29 #[v, .agg #[.int .i64 x, .int .i64 y]] W fun e w' => e = .returned (.tuple #[.bool (hasC l x y), .int .i64 0]) ∧ Below W.heap.size W w' := by
  have q := hasL_any l v x y W h.1 h.2.2.1
  rwa [h.2.2.2, decide_eq_true rfl, Bool.true_and] at q
theorem cov_ok {W : World} {v : Value} {l : List Rc} (h : Lsx W v l) (x y : Int) (b : Bool) (e : hasC l x y = b) : Calls Try.prog 38 #[v, .agg #[.int .i64 x, .int .i64 y]] W fun e w' => e = .returned (.bool b) ∧ Below W.heap.size W w' := by
  have q := covered_any l v x y W h.1 h.2.2.1 (by have := (lisE_zero h.2.2.2).1; omega)
  rwa [e] at q
theorem corn_ok {W : World} {v : Value} {l : List Rc} (h : Lsx W v l) (hl : l.length ≤ 16) : Calls Try.prog 37 #[v] W fun e w' => ∃ u ps, e = .returned u ∧ ps.length ≤ 320 ∧ w'.ownsRow W.heap.size 31 2 u ps.length (flatS ps) ∧ Below W.heap.size W w' :=
  corners_any l v W h.1 (lisE_zero h.2.2.2).2 (by omega)
theorem ones_S (l : List Sp) : ∀ u ∈ flatS l, u.oneCell' = true := by
  intro u hu
  induction l with
  | nil => cases hu
  | cons s t ih =>
    simp only [flatS, List.mem_cons] at hu
    rcases hu with rfl | rfl | hu
    · rfl
    · rfl
    · exact ih hu
/-- What is known of memory behind the calls. -/
structure Pl (a b J M L O : List Rc) (va vb vj vm vl vo : Value) (W : World) : Prop where
  a : Lsx W va a
  b : Lsx W vb b
  j : Lsx W vj J
  m : Lsx W vm M
  l : Lsx W vl L
  o : Lsx W vo O
theorem Pl.below {a b J M L O : List Rc} {va vb vj vm vl vo : Value} {W W' : World} (h : Pl a b J M L O va vb vj vm vl vo W) (hb : Below W.heap.size W W') : Pl a b J M L O va vb vj vm vl vo W' :=
  ⟨h.a.below hb, h.b.below hb, h.j.below hb, h.m.below hb, h.l.below hb, h.o.below hb⟩

end Go.Proofs.Ytagkbpceiedikaa
