/-
  Calls of the library for package least.
-/
import Derived.Test.YthnhcphkpffkfaaGreatLC
import Derived.Test.YthnhcphkpffkfaaGreatLS
namespace Go.Proofs.YthnhcphkpffkfaaGreat
open Go.RowKit Go.Shelf
attribute [local go_sem] ite_maxK ite_minK

/-- A list whose first and last k numbers have changed places. -/
def rvs (xs : List Int) (k : Nat) : List Int := (xs.reverse.take k) ++ ((xs.drop k).take (xs.length - 2 * k) ++ xs.reverse.drop (xs.length - k))
theorem rvs_at {xs : List Int} {k : Nat} (hk : 2 * k ≤ xs.length) (i : Nat) : (rvs xs k)[i]? = if i < k ∨ xs.length - k ≤ i then xs.reverse[i]? else xs[i]? := by
  unfold rvs
  by_cases h1 : i < k
  · rw [List.getElem?_append_left (by simp; omega), List.getElem?_take_of_lt h1, if_pos (.inl h1)]
  · rw [List.getElem?_append_right (by simp; omega)]
    have e1 : (xs.reverse.take k).length = k := by simp; omega
    rw [e1]
    by_cases h2 : i < xs.length - k
    · rw [List.getElem?_append_left (by simp; omega), List.getElem?_take_of_lt (by omega), List.getElem?_drop, if_neg (by omega)]
      congr 1; omega
    · rw [List.getElem?_append_right (by simp; omega), if_pos (.inr (by omega)), List.getElem?_drop]
      congr 1
      simp
      omega
theorem rvs_len {xs : List Int} {k : Nat} (hk : 2 * k ≤ xs.length) : (rvs xs k).length = xs.length := by
  unfold rvs
  simp
  omega
theorem rvs_step {xs : List Int} {k : Nat} (hk : k < xs.length - 1 - k) (h1 : k < xs.length) (h2 : xs.length - 1 - k < xs.length) : ((rvs xs k).set k xs[xs.length - 1 - k]).set (xs.length - 1 - k) xs[k] = rvs xs (k + 1) := by
  refine List.ext_getElem? fun i => ?_
  rw [rvs_at (by omega), List.getElem?_set, List.getElem?_set, List.length_set, rvs_len (by omega)]
  by_cases c1 : xs.length - 1 - k = i
  · subst c1
    rw [if_pos rfl, if_pos h2, if_pos (.inr (by omega)), List.getElem?_reverse h2]
    rw [show xs.length - 1 - (xs.length - 1 - k) = k by omega, List.getElem?_eq_getElem h1]
  · rw [if_neg c1]
    by_cases c2 : k = i
    · subst c2
      rw [if_pos rfl, if_pos h1, if_pos (.inl (by omega)), List.getElem?_reverse h1, List.getElem?_eq_getElem h2]
    · rw [if_neg c2, rvs_at (by omega)]
      by_cases c3 : i < k ∨ xs.length - k ≤ i
      · rw [if_pos c3, if_pos (by omega)]
      · rw [if_neg c3, if_neg (by omega)]
theorem rvs_end {xs : List Int} {k : Nat} (hk : ¬ k < xs.length - 1 - k) (h2 : 2 * k ≤ xs.length) : rvs xs k = xs.reverse := by
  refine List.ext_getElem? fun i => ?_
  rw [rvs_at h2]
  split
  · rfl
  · next h =>
    have : i = k ∧ xs.length = 2 * k + 1 := by omega
    obtain ⟨rfl, e⟩ := this
    rw [List.getElem?_reverse (by omega)]
    congr 1
    omega
theorem rvs_zero (xs : List Int) : rvs xs 0 = xs := by simp [rvs]
theorem rvs_mid {xs : List Int} {k i : Nat} (hk : 2 * k ≤ xs.length) (h1 : ¬ i < k) (h2 : i < xs.length - k) (h : i < (rvs xs k).length) : (rvs xs k)[i] = xs[i]'(by rw [rvs_len hk] at h; exact h) := by
  have e := rvs_at hk i
  rw [if_neg (by omega), List.getElem?_eq_getElem h, List.getElem?_eq_getElem (by rw [rvs_len hk] at h; exact h)] at e
  injection e

end Go.Proofs.YthnhcphkpffkfaaGreat

namespace Go.Proofs.YthnhcphkpffkfaaGreat
open Go.RowKit Go.Shelf
attribute [local go_sem] ite_maxK ite_minK

def COut (A B : List Int) (w : World) (hb : Nat) (va vb : Value) (k : Nat) (v : Value) (wr : World) : Prop :=
  k ≤ 2 ∧ OwI w.heap.size wr v (([A, B].take k).flatten) ∧ Below w.heap.size w wr ∧ Bk wr hb #[va, vb] 22

end Go.Proofs.YthnhcphkpffkfaaGreat

namespace Go.Proofs.YthnhcphkpffkfaaGreat
open Go.RowKit Go.Shelf

theorem is_from {w : World} {g cap f : Nat} {xs : List Int} (h : IS w (.slice (some ⟨g, 0, none⟩) xs.length cap) xs) (hf : f < xs.length) : IS w (.slice (some ⟨g, f, none⟩) (xs.length - f) (cap - f)) (xs.drop f) := by
  obtain ⟨oa, c2, e, hc, hg⟩ := h
  injection e with e1 _ e3
  subst e1 e3
  obtain ⟨g', o, e4, hl, hat⟩ := hg (by omega)
  injection e4 with e4
  injection e4 with e5 e6 _
  subst e5 e6
  refine ⟨_, cap - f, by rw [List.length_drop], by rw [List.length_drop]; omega, fun _ => ⟨g, f, rfl, hl, fun i hi => ?_⟩⟩
  rw [List.length_drop] at hi
  rw [List.getElem_drop, ← hat (f + i) (by omega), Nat.zero_add]
theorem is_upto {w : World} {g cap f : Nat} {xs : List Int} (h : IS w (.slice (some ⟨g, 0, none⟩) xs.length cap) xs) (hf : f < xs.length) : IS w (.slice (some ⟨g, 0, none⟩) f cap) (xs.take f) := by
  obtain ⟨oa, c2, e, hc, hg⟩ := h
  injection e with e1 _ e3
  subst e1 e3
  obtain ⟨g', o, e4, hl, hat⟩ := hg (by omega)
  injection e4 with e4
  injection e4 with e5 e6 _
  subst e5 e6
  refine ⟨_, cap, by rw [List.length_take]; congr 1; omega, by rw [List.length_take]; omega, fun _ => ⟨g, 0, rfl, hl, fun i hi => ?_⟩⟩
  rw [List.length_take] at hi
  rw [List.getElem_take, ← hat i (by omega)]

end Go.Proofs.YthnhcphkpffkfaaGreat
