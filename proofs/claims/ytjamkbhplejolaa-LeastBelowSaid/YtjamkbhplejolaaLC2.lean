/-
  What package least calls of Go's library: slices.Reverse, Min, Index, Grow, Concat.
-/
import Derived.Test.YtjamkbhplejolaaLC
import Derived.Test.YtjamkbhplejolaaLS
namespace Go.Proofs.Ytjamkbhplejolaa
open Go.RowKit Go.Shelf
attribute [local go_sem] ite_max ite_min

/-- A list whose first and last k numbers have changed places. -/
def rvs (xs : List Int) (k : Nat) : List Int := (xs.reverse.take k) ++ ((xs.drop k).take (xs.length - 2 * k) ++ xs.reverse.drop (xs.length - k))
theorem rvs_at {xs : List Int} {k : Nat} (hk : 2 * k ≤ xs.length) (i : Nat) : (rvs xs k)[i]? = if i < k ∨ xs.length - k ≤ i then xs.reverse[i]? else xs[i]? := by
  unfold rvs
  by_cases h1 : i < k
  · rw [List.getElem?_append_left (by simp; omega), List.getElem?_take_of_lt h1, if_pos (.inl h1)]
  · rw [List.getElem?_append_right (by simp; omega)]
    have e1 : (xs.reverse.take k).length = k := by simp; omega
    rw [e1]
    by_cases h2 : i < xs.length - k
    · rw [List.getElem?_append_left (by simp; omega), List.getElem?_take_of_lt (by omega), List.getElem?_drop, if_neg (by omega)]
      congr 1; omega
    · rw [List.getElem?_append_right (by simp; omega), if_pos (.inr (by omega)), List.getElem?_drop]
      congr 1
      simp
      omega
theorem rvs_len {xs : List Int} {k : Nat} (hk : 2 * k ≤ xs.length) : (rvs xs k).length = xs.length := by
  unfold rvs
  simp
  omega
theorem rvs_step {xs : List Int} {k : Nat} (hk : k < xs.length - 1 - k) (h1 : k < xs.length) (h2 : xs.length - 1 - k < xs.length) : ((rvs xs k).set k xs[xs.length - 1 - k]).set (xs.length - 1 - k) xs[k] = rvs xs (k + 1) := by
  refine List.ext_getElem? fun i => ?_
  rw [rvs_at (by omega), List.getElem?_set, List.getElem?_set, List.length_set, rvs_len (by omega)]
  by_cases c1 : xs.length - 1 - k = i
  · subst c1
    rw [if_pos rfl, if_pos h2, if_pos (.inr (by omega)), List.getElem?_reverse h2]
    rw [show xs.length - 1 - (xs.length - 1 - k) = k by omega, List.getElem?_eq_getElem h1]
  · rw [if_neg c1]
    by_cases c2 : k = i
    · subst c2
      rw [if_pos rfl, if_pos h1, if_pos (.inl (by omega)), List.getElem?_reverse h1, List.getElem?_eq_getElem h2]
    · rw [if_neg c2, rvs_at (by omega)]
      by_cases c3 : i < k ∨ xs.length - k ≤ i
      · rw [if_pos c3, if_pos (by omega)]
      · rw [if_neg c3, if_neg (by omega)]
theorem rvs_end {xs : List Int} {k : Nat} (hk : ¬ k < xs.length - 1 - k) (h2 : 2 * k ≤ xs.length) : rvs xs k = xs.reverse := by
  refine List.ext_getElem? fun i => ?_
  rw [rvs_at h2]
  split
  · rfl
  · next h =>
    have : i = k ∧ xs.length = 2 * k + 1 := by omega
    obtain ⟨rfl, e⟩ := this
    rw [List.getElem?_reverse (by omega)]
    congr 1
    omega
theorem rvs_zero (xs : List Int) : rvs xs 0 = xs := by simp [rvs]
theorem rvs_mid {xs : List Int} {k i : Nat} (hk : 2 * k ≤ xs.length) (h1 : ¬ i < k) (h2 : i < xs.length - k) (h : i < (rvs xs k).length) : (rvs xs k)[i] = xs[i]'(by rw [rvs_len hk] at h; exact h) := by
  have e := rvs_at hk i
  rw [if_neg (by omega), List.getElem?_eq_getElem h, List.getElem?_eq_getElem (by rw [rvs_len hk] at h; exact h)] at e
  injection e

set_option maxRecDepth 10000 in
set_option maxHeartbeats 4000000 in
theorem reverse_any (xs : List Int) (g cap lo : Nat) (w : World) (ho : OwI lo w (.slice (some ⟨g, 0, none⟩) xs.length cap) xs) (hl : xs.length ≤ 4096) (hp : 0 < xs.length) :
    Calls Try.prog 39 #[.slice (some ⟨g, 0, none⟩) xs.length cap] w fun e w' => e = .returned (.tuple #[]) ∧ OwI lo w' (.slice (some ⟨g, 0, none⟩) xs.length cap) xs.reverse ∧ w.grownBy w' (some g) := by
  have hc : xs.length ≤ cap := by
    obtain ⟨oa, c2, e, h, _⟩ := row_val ho
    injection e with _ _ e
    subst e
    exact h
  have H0 : Hid (OwI lo w (.slice (some ⟨g, 0, none⟩) xs.length cap) (rvs xs 0) ∧ w.grownBy w (some g)) := by rw [rvs_zero]; exact ⟨ho, World.grownBy.refl _ _⟩
  obtain ⟨m, Hm⟩ : ∃ m : Nat, Hid (m + 1 = xs.length) := ⟨xs.length - 1, by unfold Hid; omega⟩
  have hm1 : (xs.length : Int) - 1 = m := by have := Hm.out; omega
  clear ho
  go_enter Try.func39, Try.ntmps39
  go_wp2_with fail
  go_loopw [2, 3] (fun i j wr => ∃ (k : Nat) (q : Int), i = .int .i64 k ∧ j = .int .i64 q ∧ q = (xs.length : Int) - 1 - k ∧ 2 * k ≤ xs.length ∧ Hid (OwI lo wr (.slice (some ⟨g, 0, none⟩) xs.length cap) (rvs xs k) ∧ w.grownBy wr (some g))) (fun i _ _ => xs.length - (intOf i).toNat)
  case atStart => exact ⟨0, m, rfl, rfl, by have := Hm.out; omega, by omega, H0⟩
  case round =>
    obtain ⟨k, q, rfl, rfl, hq, hk, HR⟩ := hrel
    clear H0
    by_cases hlt : (k : Int) < q
    · obtain ⟨t, rfl⟩ : ∃ t : Nat, q = t := ⟨q.toNat, by omega⟩
      have ht : t = xs.length - 1 - k := by omega
      have hkl : k < xs.length := by omega
      have htl : t < xs.length := by omega
      have ikl : (k : Int) < xs.length := by omega
      have itl : (t : Int) < xs.length := by omega
      have hown : wr.ownsRow lo 3 1 (.slice (some ⟨g, 0, none⟩) xs.length cap) xs.length (flatI (rvs xs k)) := by have h := HR.out.1; unfold OwI at h; rw [rvs_len hk] at h; exact h
      have x0 : wr.cell? ⟨g, k, none⟩ = some (.int .i64 xs[k]) := by
        rw [own_cell hown k (by omega), flatI_at _ _ (by rw [rvs_len hk]; omega), rvs_mid hk (by omega) (by omega)]
      have x1 : wr.cell? ⟨g, t, none⟩ = some (.int .i64 xs[t]) := by
        rw [own_cell hown t (by omega), flatI_at _ _ (by rw [rvs_len hk]; omega), rvs_mid hk (by omega) (by omega)]
      have f0 := own_frozen hown k
      have f1 := own_frozen hown t
      have hkt : ¬ k = t := by omega
      have hS := rvs_step (xs := xs) (k := k) (by omega) hkl (by omega)
      simp only [← ht] at hS
      have HN : Hid (∀ n, OwI lo (((wr.drewN n).setCell ⟨g, k, none⟩ (.int .i64 xs[t])).setCell ⟨g, t, none⟩ (.int .i64 xs[k])) (.slice (some ⟨g, 0, none⟩) xs.length cap) (rvs xs (k + 1)) ∧ w.grownBy (((wr.drewN n).setCell ⟨g, k, none⟩ (.int .i64 xs[t])).setCell ⟨g, t, none⟩ (.int .i64 xs[k])) (some g)) := by
        intro n
        refine ⟨?_, grow_tr (grow_tr (⟨HR.out.2.os, HR.out.2.tape, HR.out.2.output, HR.out.2.size, HR.out.2.block⟩ : w.grownBy (wr.drewN n) (some g)) (grow_set _ _ _ _) (.inl rfl)) (grow_set _ _ _ _) (.inl rfl)⟩
        have hd : (wr.drewN n).ownsRow lo 3 1 (.slice (some ⟨g, 0, none⟩) xs.length cap) xs.length (flatI (rvs xs k)) := hown
        have q := own_set (own_set hd k (.int .i64 xs[t])) t (.int .i64 xs[k])
        rw [← flatI_set, ← flatI_set, hS] at q
        unfold OwI
        rw [rvs_len (by omega)]
        exact q
      have hi1 : (t : Int) - 1 = (xs.length : Int) - 1 - ((k + 1 : Nat) : Int) := by omega
      generalize xs[k] = p at *
      generalize xs[t] = r at *
      have HQ : Hid (t = xs.length - 1 - k ∧ (t : Int) = (xs.length : Int) - 1 - k ∧ (t : Int) - 1 = (xs.length : Int) - 1 - ((k + 1 : Nat) : Int)) := ⟨ht, hq, hi1⟩
      have hk2 : 2 * (k + 1) ≤ xs.length := by omega
      clear hown HR hS ht hq hi1 hm1
      go_wp2_with fail
      go_big_region
      all_goals
        go_wp2
        exact ⟨⟨k + 1, (t : Int) - 1, by go_num, rfl, HQ.out.2.2, hk2, HN.out _⟩, by simp [intOf]; omega⟩
    · have HF : Hid (OwI lo wr (.slice (some ⟨g, 0, none⟩) xs.length cap) xs.reverse ∧ w.grownBy wr (some g)) := by
        have h := HR.out
        rw [rvs_end (by omega) hk] at h
        exact h
      clear HR
      go_wp2
      go_end0
      exact ⟨rfl, HF.out⟩

end Go.Proofs.Ytjamkbhplejolaa
