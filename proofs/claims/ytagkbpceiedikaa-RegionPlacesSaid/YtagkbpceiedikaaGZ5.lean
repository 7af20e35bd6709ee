/-
  The walk of the statement RegionRules, where nothing is too long or wrong.
-/
import Derived.Test.YtagkbpceiedikaaGZ4
namespace Go.Proofs.Ytagkbpceiedikaa
open Go.RowKit Go.Sort Go.Shelf

/-- A list in memory, as the calls want it. -/
def Lsx (W : World) (v : Value) (l : List Rc) : Prop := LsR W v l ∧ NoNil v ∧ I64s l ∧ lisE l = 0
theorem Lsx.below {W W' : World} {v : Value} {l : List Rc} (h : Lsx W v l) (hb : Below W.heap.size W W') : Lsx W' v l := ⟨h.1.below hb, h.2⟩
theorem lsx_ans {W W' : World} {v : Value} {k : Bool} {a b F : List Rc} (e : formF k a b = F) (hn : F.length ≤ 1024) (h : W'.ownsRow W.heap.size 35 4 v F.length (flat F)) : Lsx W' v F :=
  ⟨lsr_own h, own_nil h, by rw [← e]; exact i64_keep (form_keep k a b), by rw [← e] at hn ⊢; exact lis_keep hn (form_keep k a b)⟩
theorem two_ok {a b : List Rc} (ha : lisE a = 0) (hb : lisE b = 0) : twoE a b = 0 := by unfold twoE; rw [if_pos ha, hb]
theorem of_ok {W : World} {v : Value} {l F : List Rc} (h : Lsx W v l) (e : formF false l [] = F) (hn : F.length ≤ 1024) : Calls Try.prog 11 #[v] W fun e w' => ∃ u, e = .returned (.tuple #[u, .int .i64 0]) ∧ Lsx w' u F ∧ Below W.heap.size W w' := by
  have q := of_any l v W h.1 h.2.2.1
  rw [h.2.2.2, e, (ans_ok hn).1, (ans_ok hn).2] at q
  exact q.mono fun _ _ ⟨u, he, hv, hb⟩ => ⟨u, he, lsx_ans e hn hv, hb⟩
theorem join_ok {W : World} {v u : Value} {l m F : List Rc} (h : Lsx W v l) (h' : Lsx W u m) (e : formF false (l ++ m) [] = F) (hn : F.length ≤ 1024) : Calls Try.prog 12 #[v, u] W fun e w' => ∃ u, e = .returned (.tuple #[u, .int .i64 0]) ∧ Lsx w' u F ∧ Below W.heap.size W w' := by
  have q := joinL_any l m v u W h.1 h'.1 h.2.2.1 h'.2.2.1 h.2.1 h'.2.1
  rw [two_ok h.2.2.2 h'.2.2.2, e, (ans_ok hn).1, (ans_ok hn).2] at q
  exact q.mono fun _ _ ⟨u, he, hv, hb⟩ => ⟨u, he, lsx_ans e hn hv, hb⟩
theorem meet_ok {W : World} {v u : Value} {l m F : List Rc} (h : Lsx W v l) (h' : Lsx W u m) (e : formF true l m = F) (hn : F.length ≤ 1024) : Calls Try.prog 21 #[v, u] W fun e w' => ∃ u, e = .returned (.tuple #[u, .int .i64 0]) ∧ Lsx w' u F ∧ Below W.heap.size W w' := by
  have q := meetL_any l m v u W h.1 h'.1 h.2.2.1 h'.2.2.1
  rw [two_ok h.2.2.2 h'.2.2.2, e, (ans_ok hn).1, (ans_ok hn).2] at q
  exact q.mono fun _ _ ⟨u, he, hv, hb⟩ => ⟨u, he, lsx_ans e hn hv, hb⟩
theorem less_ok {W : World} {v u : Value} {l m F : List Rc} (h : Lsx W v l) (h' : Lsx W u m) (e : formF false l m = F) (hn : F.length ≤ 1024) : Calls Try.prog 22 #[v, u] W fun e w' => ∃ u, e = .returned (.tuple #[u, .int .i64 0]) ∧ Lsx w' u F ∧ Below W.heap.size W w' := by
  have q := lessL_any l m v u W h.1 h'.1 h.2.2.1 h'.2.2.1
  rw [two_ok h.2.2.2 h'.2.2.2, e, (ans_ok hn).1, (ans_ok hn).2] at q
  exact q.mono fun _ _ ⟨u, he, hv, hb⟩ => ⟨u, he, lsx_ans e hn hv, hb⟩
theorem same_ok {W : World} {v u : Value} {l m : List Rc} (h : Lsx W v l) (h' : Lsx W u m) : Calls Try.prog 16 #[v, u] W fun e w' => e = .returned (.tuple #[.bool (sameB (formF false l []) (formF false m [])), .int .i64 0]) ∧ Below W.heap.size W w' := by
  have q := sameS_any l m v u W h.1 h'.1 h.2.2.1 h'.2.2.1
  unfold samR at q
  rw [two_ok h.2.2.2 h'.2.2.2] at q
  simpa using q
theorem area_ok {W : World} {v : Value} {l : List Rc} (h : Lsx W v l) : Calls Try.prog 14 #[v] W fun e w' => e = .returned (.tuple #[.int .i64 (arS (formF false l [])), .int .i64 0]) ∧ Below W.heap.size W w' := by
  have q := areaL_any l v W h.1 h.2.2.1
  unfold areA at q
  rw [h.2.2.2, if_pos rfl] at q
  exact q
theorem back_ok {W : World} {v : Value} {l : List Rc} (h : Lsx W v l) (hn : l.length ≤ 10) : Calls Try.prog 39 #[v] W fun e w' => ∃ u, e = .returned u ∧ Lsx w' u (bckL l) ∧ Below W.heap.size W w' := by
  refine (back_any l v W h.1 (by omega)).mono fun _ _ ⟨u, he, hv, hb⟩ => ⟨u, he, ⟨lsr_own hv, own_nil hv, ?_, ?_⟩, hb⟩
  · intro r hr
    unfold bckL at hr
    rw [List.mem_append, List.mem_reverse] at hr
    exact h.2.2.1 r (hr.elim id List.mem_of_mem_take)
  · have h0 := h.2.2.2
    have hz := lisE_zero h0
    unfold lisE
    rw [if_neg (by unfold bckL; simp; omega), if_pos]
    rw [List.all_eq_true]
    intro r hr
    unfold bckL at hr
    rw [List.mem_append, List.mem_reverse] at hr
    exact hz.2 r (hr.elim id List.mem_of_mem_take)

end Go.Proofs.Ytagkbpceiedikaa
