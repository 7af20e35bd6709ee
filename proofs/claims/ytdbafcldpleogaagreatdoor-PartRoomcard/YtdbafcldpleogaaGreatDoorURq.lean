/-
  What is painted lies in the rectangle; what is measured is bounded: plain facts of the statement PartRoom, and less.
-/
import Derived.Test.YtdbafcldpleogaaGreatDoorUO
import Derived.Test.YtdbafcldpleogaaGreatDoorI
import Derived.Test.YtdbafcldpleogaaGreatDoorUJ
namespace Go.Proofs.YtdbafcldpleogaaGreatDoor
open Go.RowKit

theorem r_in_mk {x y n m bx by' bw bh : Int} (e : emptyB bx by' bw bh = false) (h : emptyB x y n m = false) (h1 : bx ≤ x) (h2 : x + n ≤ bx + bw) (h3 : by' ≤ y) (h4 : y + m ≤ by' + bh) : inB x y n m bx by' bw bh = true := by
  obtain ⟨a1, a2, a3, a4, a5, a6, a7, a8, a9, a10⟩ := bounds_of h
  have hm : meetR x y n m bx by' bw bh = ⟨x, y, n, m⟩ := by
    unfold meetR
    rw [h, e]
    simp only [Bool.or_self, Bool.false_eq_true, if_false]
    rw [btw_yes (by omega) (by omega)]
    congr 1 <;> omega
  simp [inB, hm, eqB]
theorem zr_empty : emptyB zr.x zr.y zr.w zr.h = true := by decide
theorem ins_in (r : Rc) (k : Int) (h0 : 0 ≤ k) (he : emptyB (insR r.x r.y r.w r.h k).x (insR r.x r.y r.w r.h k).y (insR r.x r.y r.w r.h k).w (insR r.x r.y r.w r.h k).h = false) :
    emptyB r.x r.y r.w r.h = false ∧ r.x ≤ (insR r.x r.y r.w r.h k).x ∧ (insR r.x r.y r.w r.h k).x + (insR r.x r.y r.w r.h k).w ≤ r.x + r.w ∧ r.y ≤ (insR r.x r.y r.w r.h k).y ∧ (insR r.x r.y r.w r.h k).y + (insR r.x r.y r.w r.h k).h ≤ r.y + r.h := by
  unfold insR at he ⊢
  split at he
  · rename_i hc
    rw [if_pos hc]
    have hemp : emptyB r.x r.y r.w r.h = false := by
      simp only [Bool.and_eq_true, Bool.not_eq_true'] at hc
      exact hc.2.2
    unfold szR at he ⊢
    split at he
    · rename_i hm
      rw [if_pos hm]
      unfold btw at he ⊢
      split at he
      · rw [zr_empty] at he; cases he
      · rename_i hd
        rw [if_neg hd]
        refine ⟨hemp, ?_, ?_, ?_, ?_⟩ <;> dsimp only <;> omega
    · rw [zr_empty] at he; cases he
  · rw [zr_empty] at he; cases he

theorem lef_in (r : Rc) (k : Lk) (hp : 0 ≤ k.pad) (he : emptyB (lefR r k).x (lefR r k).y (lefR r k).w (lefR r k).h = false) (hr : emptyB r.x r.y r.w r.h = false) : inB (lefR r k).x (lefR r k).y (lefR r k).w (lefR r k).h r.x r.y r.w r.h = true := by
  have h1 : ∀ (_ : emptyB (lef1 r k).x (lef1 r k).y (lef1 r k).w (lef1 r k).h = false), r.x ≤ (lef1 r k).x ∧ (lef1 r k).x + (lef1 r k).w ≤ r.x + r.w ∧ r.y ≤ (lef1 r k).y ∧ (lef1 r k).y + (lef1 r k).h ≤ r.y + r.h := by
    intro h
    unfold lef1 at h ⊢
    split at h
    · rename_i hc
      rw [if_pos hc]
      exact (ins_in r 1 (by decide) h).2
    · rename_i hc
      rw [if_neg hc]
      exact ⟨by omega, by omega, by omega, by omega⟩
  refine r_in_mk hr he ?_ ?_ ?_ ?_ <;> unfold lefR at he ⊢ <;> split at he <;> rename_i hc
  all_goals first | rw [if_pos hc] | rw [if_neg hc]
  all_goals first
    | (have g := ins_in (lef1 r k) k.pad hp he
       have g1 := h1 g.1
       omega)
    | (have g1 := h1 he
       omega)

/-- A stroke as it must be. -/
structure StOk (r : Rc) (s : Sk) : Prop where
  inn : inB s.x s.y s.n s.m r.x r.y r.w r.h = true
  fit : I64 s.x ∧ I64 s.y
  knd : (s.kind = 1 ∧ s.tx = ⟨#[]⟩) ∨ (s.kind = 2 ∧ s.tx = ⟨#[]⟩) ∨ (s.kind = 3 ∧ s.tx.size ≠ 0)
  nod : s.nd = 0

theorem pai_ok (p : Pt) (r : Rc) (k : Lk) (hx : I64 r.x) (hy : I64 r.y) : (strL p r k).length ≤ 3 ∧ ∀ s ∈ strL p r k, strE p.t r k = 0 ∧ StOk r s := by
  unfold strL
  by_cases h0 : strE p.t r k = 0
  · rw [if_pos h0]
    unfold paiL
    cases he : emptyB r.x r.y r.w r.h
    · simp only [Bool.false_eq_true, if_false]
      have hpad : 0 ≤ k.pad := by
        unfold strE at h0
        split at h0
        · cases h0
        · split at h0
          · cases h0
          · split at h0
            · cases h0
            · rename_i hf
              simp only [fromTo, Bool.and_eq_false_iff, not_or, Bool.not_eq_false, decide_eq_true_eq] at hf
              exact hf.1
      have hself : inB r.x r.y r.w r.h r.x r.y r.w r.h = true := r_in_mk he he (by omega) (by omega) (by omega) (by omega)
      refine ⟨?_, fun s hs => ⟨h0, ?_⟩⟩
      · unfold filS fraS wriS
        simp only [List.length_append]
        split <;> split <;> split <;> simp
      · simp only [List.mem_append] at hs
        rcases hs with (hs | hs) | hs
        · unfold filS at hs
          split at hs
          · simp only [List.mem_singleton] at hs
            subst hs
            exact ⟨hself, ⟨hx, hy⟩, .inl ⟨rfl, rfl⟩, rfl⟩
          · cases hs
        · unfold fraS at hs
          split at hs
          · simp only [List.mem_singleton] at hs
            subst hs
            exact ⟨hself, ⟨hx, hy⟩, .inr (.inl ⟨rfl, rfl⟩), rfl⟩
          · cases hs
        · unfold wriS at hs
          split at hs
          · rename_i hw
            simp only [List.mem_singleton] at hs
            subst hs
            simp only [wriB, Bool.and_eq_true, Bool.not_eq_true', beq_eq_false_iff_ne] at hw
            exact ⟨lef_in r k hpad hw.2 he, lef_i64 r k hx hy, .inr (.inr ⟨rfl, hw.1⟩), rfl⟩
          · cases hs
    · simp
  · rw [if_neg h0]
    simp

theorem less_true (s t u a b : Int) (w : World) (hs : s = lim u a) (ht : t = lim u b) (hab : a ≤ b) :
    Calls Tryz.prog 35 #[.int .i64 s, .int .i64 t, .int .i64 u, .int .i64 a, .int .i64 b] w fun e w' => e = .returned (.bool true) ∧ w' = w := by
  have f3 : ¬ u < s := by rw [hs]; unfold lim; split <;> omega
  have f4 : ¬ u < t := by rw [ht]; unfold lim; split <;> omega
  by_cases h0 : 0 < a
  · have f1 : ¬ t < s := by rw [hs, ht]; unfold lim; rw [if_pos h0, if_pos (by omega)]; omega
    have f2 : ¬ a < s := by rw [hs]; unfold lim; rw [if_pos h0]; omega
    have h2 : 0 < b := by omega
    by_cases h1 : a < u
    · by_cases h3 : b < u
      · clear hs ht hab
        go_enter Tryz.func35, Tryz.ntmps35
        go_wp2
        go_ret
        exact ⟨rfl, rfl⟩
      · have g : (t == u) = true := beq_iff_eq.2 (by rw [ht]; unfold lim; rw [if_pos h2]; omega)
        clear hs ht hab
        go_enter Tryz.func35, Tryz.ntmps35
        go_wp2
        go_ret
        exact ⟨rfl, rfl⟩
    · have g : (t == u) = true := beq_iff_eq.2 (by rw [ht]; unfold lim; rw [if_pos h2]; omega)
      have g' : (s == u) = true := beq_iff_eq.2 (by rw [hs]; unfold lim; rw [if_pos h0]; omega)
      have h3 : ¬ b < u := by omega
      clear hs ht hab
      go_enter Tryz.func35, Tryz.ntmps35
      go_wp2
      go_ret
      exact ⟨rfl, rfl⟩
  · have g' : (s == u) = true := beq_iff_eq.2 (by rw [hs]; unfold lim; rw [if_neg h0])
    by_cases h2 : 0 < b
    · by_cases h3 : b < u
      · clear hs ht hab
        go_enter Tryz.func35, Tryz.ntmps35
        go_wp2
        go_ret
        exact ⟨rfl, rfl⟩
      · have g : (t == u) = true := beq_iff_eq.2 (by rw [ht]; unfold lim; rw [if_pos h2]; omega)
        clear hs ht hab
        go_enter Tryz.func35, Tryz.ntmps35
        go_wp2
        go_ret
        exact ⟨rfl, rfl⟩
    · have g : (t == u) = true := beq_iff_eq.2 (by rw [ht]; unfold lim; rw [if_neg h2])
      clear hs ht hab
      go_enter Tryz.func35, Tryz.ntmps35
      go_wp2
      go_ret
      exact ⟨rfl, rfl⟩

/-- What is measured without a room, against least and most. -/
theorem u_ok (n : Nd) (ho : okN n = true) : ¬ lim (lim (askW n) n.maxW) 0 < n.minW ∧ ¬ lim (lim (askH n) n.maxH) 0 < n.minH ∧ (0 < n.maxW → ¬ n.maxW < lim (lim (askW n) n.maxW) 0) ∧ (0 < n.maxH → ¬ n.maxH < lim (lim (askH n) n.maxH) 0) := by
  have h : (n.maxW = 0 ∨ n.minW ≤ n.maxW) ∧ (n.maxH = 0 ∨ n.minH ≤ n.maxH) := by
    simp only [okN, moB, Bool.and_eq_true, Bool.or_eq_true, beq_iff_eq, decide_eq_true_eq] at ho
    exact ⟨ho.2.2.2.2.2.1, ho.2.2.2.2.2.2.1⟩
  have e1 : ∀ z : Int, lim z 0 = z := fun z => by unfold lim; rw [if_neg (by omega)]
  rw [e1, e1]
  unfold lim askW askH
  refine ⟨?_, ?_, fun hp => ?_, fun hp => ?_⟩
  · split <;> omega
  · split <;> omega
  · rw [if_pos hp]; omega
  · rw [if_pos hp]; omega
theorem lim_room (n : Int) (a : Int) : lim n a = lim (lim n 0) a := by
  have e1 : lim n 0 = n := by unfold lim; rw [if_neg (by omega)]
  rw [e1]

end Go.Proofs.YtdbafcldpleogaaGreatDoor
