/-
  There and back: the plain mathematics of moving, of a size in itself, of what is smaller on all sides.
-/
import Derived.Test.YtpeppbfkbijdiaaPlain3
namespace Go.Proofs.Ytpeppbfkbijdiaa

theorem may_mk {x y w h : Int} (h1 : 0 ≤ w ∧ -16384 ≤ x ∧ w ≤ 16384 - x) (h2 : 0 ≤ h ∧ -16384 ≤ y ∧ h ≤ 16384 - y) : mayB x y w h = true := may_iff.2 ⟨h1, h2⟩
theorem empty_mk {x y w h : Int} (h1 : 0 < w ∧ -16384 ≤ x ∧ w ≤ 16384 - x) (h2 : 0 < h ∧ -16384 ≤ y ∧ h ≤ 16384 - y) : emptyB x y w h = false := by
  unfold emptyB
  rw [may_mk (by omega) (by omega)]
  have e1 : (w == 0) = false := beq_eq_false_iff_ne.2 (by omega)
  have e2 : (h == 0) = false := beq_eq_false_iff_ne.2 (by omega)
  rw [e1, e2]; rfl
theorem mov_cases {x y n m p q : Int} (he : emptyB x y n m = false) : (movE x y n m p q = 9) ∨
    (movE x y n m p q = 0 ∧ movR x y n m p q = ⟨x + p, y + q, n, m⟩ ∧ -32768 ≤ p ∧ p ≤ 32768 ∧ -32768 ≤ q ∧ q ≤ 32768 ∧ -16384 ≤ x + p ∧ x + p ≤ 16384 ∧ -16384 ≤ y + q ∧ y + q ≤ 16384 ∧
      movE (x + p) (y + q) n m (-p) (-q) = 0 ∧ movR (x + p) (y + q) n m (-p) (-q) = ⟨x, y, n, m⟩) := by
  have hm := may_of he
  obtain ⟨a1, a2, a3, a4, a5, a6, a7, a8, a9, a10⟩ := bounds_of he
  cases hw : (witB p (-32768) 32768 && witB q (-32768) 32768)
  · exact .inl (by simp [movE, hm, he, hw])
  · cases hs : mayB (x + p) (y + q) n m
    · exact .inl (by simp [movE, hm, he, hw, szE, hs])
    · refine .inr ?_
      have hs' := may_iff.1 hs
      rw [Bool.and_eq_true, wit_iff, wit_iff] at hw
      have hw' : (witB p (-32768) 32768 && witB q (-32768) 32768) = true := by rw [Bool.and_eq_true, wit_iff, wit_iff]; exact hw
      have e2 : emptyB (x + p) (y + q) n m = false := empty_mk (by omega) (by omega)
      have w2 : (witB (-p) (-32768) 32768 && witB (-q) (-32768) 32768) = true := by rw [Bool.and_eq_true, wit_iff, wit_iff]; omega
      have z1 : x + p + -p = x := by omega
      have z2 : y + q + -q = y := by omega
      refine ⟨by simp [movE, hm, he, hw', szE, hs], by simp [movR, he, hw', szR, hs], by omega, by omega, by omega, by omega, by omega, by omega, by omega, by omega, ?_, ?_⟩
      · simp only [movE, hs, e2, w2, szE, z1, z2, hm]; simp
      · simp only [movR, e2, w2, szR, z1, z2, hm]; simp
theorem ali_self {x y n m u v : Int} (he : emptyB x y n m = false) (u2 : u ≤ 2) (v2 : v ≤ 2) : aliR x y n m n m u v = ⟨x, y, n, m⟩ ∧ aliE x y n m n m u v = 0 := by
  have hm := may_of he
  obtain ⟨a1, a2, a3, a4, a5, a6, a7, a8, a9, a10⟩ := bounds_of he
  have b1 : ∀ p r w : Int, begI p r r w = p := fun p r w => by unfold begI; split <;> (try split) <;> simp
  have k1 : witB n 0 32768 = true := wit_iff.2 (by omega)
  have k2 : witB m 0 32768 = true := wit_iff.2 (by omega)
  have k3 : decide (2 < u) = false := by simp; omega
  have k4 : decide (2 < v) = false := by simp; omega
  have e1 : (n == 0) = false := beq_eq_false_iff_ne.2 (by omega)
  have e2 : (m == 0) = false := beq_eq_false_iff_ne.2 (by omega)
  constructor
  · simp only [aliR, aliB, aliO, szR, b1, hm, k1, k2, k3, k4, e1, e2]; simp
  · simp only [aliE, aliB, aliO, szE, b1, hm, k1, k2, k3, k4, e1, e2]; simp
theorem ins_in {x y n m k : Int} (he : emptyB x y n m = false) (k0 : 0 ≤ k) (k2 : k ≤ 16384) : insE x y n m k = 0 ∧ inB (insR x y n m k).x (insR x y n m k).y (insR x y n m k).w (insR x y n m k).h x y n m = true ∧
    -100000 ≤ (insR x y n m k).x ∧ (insR x y n m k).x ≤ 100000 ∧ -100000 ≤ (insR x y n m k).y ∧ (insR x y n m k).y ≤ 100000 := by
  have hm := may_of he
  obtain ⟨a1, a2, a3, a4, a5, a6, a7, a8, a9, a10⟩ := bounds_of he
  have hw : witB k (-16384) 16384 = true := wit_iff.2 (by omega)
  have e1 : insR x y n m k = szR (btw (x + k) (y + k) (x + n - k) (y + m - k)) := by simp [insR, hm, hw, he]
  have e2 : insE x y n m k = szE (btw (x + k) (y + k) (x + n - k) (y + m - k)) := by simp [insE, hm, hw, he]
  rw [e1, e2]
  by_cases hc : x + n - k ≤ x + k ∨ y + m - k ≤ y + k
  · rw [btw_no hc]
    refine ⟨rfl, ?_, by decide, by decide, by decide, by decide⟩
    show inB 0 0 0 0 x y n m = true
    unfold inB
    rw [show emptyB 0 0 0 0 = true from rfl]
    rfl
  · rw [btw_yes (by omega) (by omega)]
    have hs : mayB (x + k) (y + k) (x + n - k - (x + k)) (y + m - k - (y + k)) = true := may_mk (by omega) (by omega)
    have hr : szR ⟨x + k, y + k, x + n - k - (x + k), y + m - k - (y + k)⟩ = ⟨x + k, y + k, x + n - k - (x + k), y + m - k - (y + k)⟩ := by simp [szR, hs]
    rw [hr]
    refine ⟨by simp [szE, hs], ?_, by simp only; omega, by simp only; omega, by simp only; omega, by simp only; omega⟩
    have h3 : emptyB (x + k) (y + k) (x + n - k - (x + k)) (y + m - k - (y + k)) = false := empty_mk (by omega) (by omega)
    have h4 : meetR (x + k) (y + k) (x + n - k - (x + k)) (y + m - k - (y + k)) x y n m = ⟨x + k, y + k, x + n - k - (x + k), y + m - k - (y + k)⟩ := by
      unfold meetR
      rw [h3, he]
      simp only [Bool.or_self, Bool.false_eq_true, if_false]
      rw [btw_yes (by omega) (by omega)]
      congr 1 <;> omega
    simp [inB, h4, eqB]

end Go.Proofs.Ytpeppbfkbijdiaa
