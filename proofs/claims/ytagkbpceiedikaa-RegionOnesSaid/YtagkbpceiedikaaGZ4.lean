/-
  RegionRules, in plain lists.
-/
import Derived.Test.YtagkbpceiedikaaGZ2
import Derived.Test.YtagkbpceiedikaaGZ3
namespace Go.Proofs.Ytagkbpceiedikaa

theorem lis_keep {l : List Rc} (h : l.length ≤ 1024) (hk : ∀ r ∈ l, keepE r = true) : lisE l = 0 := by
  unfold lisE
  rw [if_neg (by omega), if_pos]
  rw [List.all_eq_true]
  intro r hr
  have := (keepE_iff r).1 (hk r hr)
  rw [may_iff]
  omega
theorem i64_keep {l : List Rc} (hk : ∀ r ∈ l, keepE r = true) : I64s l := by
  intro r hr
  have := (keepE_iff r).1 (hk r hr)
  unfold I64
  omega
theorem ans_ok {F : List Rc} (h : F.length ≤ 1024) : ansL 0 F = F ∧ ansE 0 F = 0 := by
  unfold ansL ansE
  rw [if_pos ⟨rfl, h⟩, if_pos rfl, if_neg (by omega)]
  exact ⟨rfl, rfl⟩
theorem kp_nil (A : Prop) (x y : Int) : keepP false A (cov [] x y) ↔ A := by unfold keepP; simp [cov_nil]
theorem kp_true (A B : Prop) : keepP true A B ↔ A ∧ B := by unfold keepP; simp
theorem kp_false (A B : Prop) : keepP false A B ↔ A ∧ ¬ B := by unfold keepP; simp
theorem cov_congr {l m : List Rc} (h : ∀ r, r ∈ l ↔ r ∈ m) (x y : Int) : cov l x y ↔ cov m x y := by
  unfold cov
  constructor
  · rintro ⟨r, hr, q⟩; exact ⟨r, (h r).1 hr, q⟩
  · rintro ⟨r, hr, q⟩; exact ⟨r, (h r).2 hr, q⟩
theorem ru_back (a : List Rc) : formF false (bckL a) [] = formF false a [] := by
  refine form_same fun x y => keepP_congr (cov_congr (fun r => ?_) x y) Iff.rfl
  unfold bckL
  rw [List.mem_append, List.mem_reverse]
  exact ⟨fun h => h.elim id List.mem_of_mem_take, .inl⟩
theorem ru_join (a b : List Rc) : formF false (a ++ b) [] = formF false (b ++ a) [] := by
  refine form_same fun x y => keepP_congr ?_ Iff.rfl
  rw [cov_app, cov_app]
  exact Or.comm
theorem ru_meet (a b : List Rc) : formF true a b = formF true b a := by
  refine form_same fun x y => ?_
  rw [kp_true, kp_true]
  exact And.comm
theorem ru_left (a b c : List Rc) : formF false (formF false (a ++ b) [] ++ c) [] = formF false (a ++ b ++ c) [] := by
  refine form_same fun x y => keepP_congr ?_ Iff.rfl
  rw [cov_app, cov_app, form_cov, kp_nil]
theorem ru_right (a b c : List Rc) : formF false (a ++ formF false (b ++ c) []) [] = formF false (a ++ b ++ c) [] := by
  refine form_same fun x y => keepP_congr ?_ Iff.rfl
  rw [cov_app, form_cov, kp_nil, List.append_assoc, cov_app, cov_app, cov_app]
theorem ru_whole (a b : List Rc) : formF false (formF true a b ++ formF false a b) [] = formF false a [] := by
  refine form_same fun x y => keepP_congr ?_ Iff.rfl
  rw [cov_app, form_cov, form_cov, kp_true, kp_false]
  constructor
  · rintro (h | h) <;> exact h.1
  · intro h
    by_cases q : cov b x y
    · exact .inl ⟨h, q⟩
    · exact .inr ⟨h, q⟩
theorem form_none {k : Bool} {a b : List Rc} (h : ∀ x y, ¬ keepP k (cov a x y) (cov b x y)) : formF k a b = [] := by
  have e : formF k a b = formF false [] [] := form_same fun x y => ⟨fun q => absurd q (h x y), fun q => absurd q.1 (cov_nil x y)⟩
  rw [e]
  exact (sameB_iff _ _).1 (by decide +kernel)
theorem ru_none (a b : List Rc) : formF true (formF false a b) b = [] := by
  refine form_none fun x y => ?_
  rw [kp_true, form_cov, kp_false]
  rintro ⟨h, q⟩
  exact h.2 q
theorem ru_area (a b : List Rc) : arS (formF false (formF false (a ++ b) []) []) + arS (formF false (formF true a b) []) = arS (formF false a []) + arS (formF false b []) := by
  rw [form_form, form_form]
  exact area_two_ways a b
/-- Lists of ten at most: nothing is too long. -/
theorem ru_len {a b c : List Rc} (ha : a.length ≤ 10) (hb : b.length ≤ 10) (hc : c.length ≤ 10) : (∀ k, (formF k a []).length ≤ 100) ∧ (∀ k, (formF k a b).length ≤ 400) ∧ (formF false (a ++ b) []).length ≤ 400 ∧ (formF false (a ++ b ++ c) []).length ≤ 900 := by
  refine ⟨fun k => ?_, fun k => ?_, ?_, ?_⟩
  · have h := form_count k a []
    have := Nat.mul_le_mul (show a.length + ([] : List Rc).length ≤ 10 by simpa using ha) (show a.length + ([] : List Rc).length ≤ 10 by simpa using ha)
    omega
  · have h := form_count k a b
    have := Nat.mul_le_mul (show a.length + b.length ≤ 20 by omega) (show a.length + b.length ≤ 20 by omega)
    omega
  · have h := form_count false (a ++ b) []
    have q : (a ++ b).length + ([] : List Rc).length ≤ 20 := by simp; omega
    have := Nat.mul_le_mul q q
    omega
  · have h := form_count false (a ++ b ++ c) []
    have q : (a ++ b ++ c).length + ([] : List Rc).length ≤ 30 := by simp; omega
    have := Nat.mul_le_mul q q
    omega

end Go.Proofs.Ytagkbpceiedikaa
