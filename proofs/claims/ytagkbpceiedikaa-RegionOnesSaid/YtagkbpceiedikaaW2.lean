/-
  Contracts of package geom: areas, places, what two have together.
-/
import Derived.Test.YtagkbpceiedikaaW1
namespace Go.Proofs.Ytagkbpceiedikaa
open Go.RowKit

set_option maxHeartbeats 400000 in
theorem area_any (x y n m : Int) (w : World) (hx : I64 x) (hy : I64 y) :
    Calls Try.prog 48 #[.agg #[.int .i64 x, .int .i64 y, .int .i64 n, .int .i64 m]] w fun e w' => e = .returned (.int .i64 (areaI x y n m)) ∧ Below w.heap.size w w' := by
  cases h1 : emptyB x y n m
  · obtain ⟨b1, b2, b3, b4, b5, b6, b7, b8, b9, b10⟩ := bounds_of h1
    have hm : n * m ≤ 32768 * 32768 := Int.mul_le_mul b6 b8 (by omega) (by omega)
    have hm0 : 0 ≤ n * m := Int.mul_nonneg (by omega) (by omega)
    go_enter Try.func48, Try.ntmps48
    go_wp2_with fail
    refine (empty_any _ _ _ _ _ (by assumption) (by assumption)).mono ?_
    rintro e w1 ⟨rfl, hb⟩
    obtain ⟨hc, hf⟩ := bcell hb
    go_wp2
    go_ret
    exact ⟨by simp [areaI, h1], ((Below.refl _ _).alloc (Nat.le_refl _) _).trans (hb.mono (by simp))⟩
  · go_enter Try.func48, Try.ntmps48
    go_wp2_with fail
    refine (empty_any _ _ _ _ _ (by assumption) (by assumption)).mono ?_
    rintro e w1 ⟨rfl, hb⟩
    obtain ⟨hc, hf⟩ := bcell hb
    go_wp2
    go_ret
    exact ⟨by simp [areaI, h1], ((Below.refl _ _).alloc (Nat.le_refl _) _).trans (hb.mono (by simp))⟩

set_option maxHeartbeats 800000 in
theorem has_any (x y n m px py : Int) (w : World) (hx : I64 x) (hy : I64 y) :
    Calls Try.prog 60 #[.agg #[.int .i64 x, .int .i64 y, .int .i64 n, .int .i64 m], .agg #[.int .i64 px, .int .i64 py]] w fun e w' => e = .returned (.bool (hasB x y n m px py)) ∧ Below w.heap.size w w' := by
  cases h1 : emptyB x y n m
  · obtain ⟨b1, b2, b3, b4, b5, b6, b7, b8, b9, b10⟩ := bounds_of h1
    have cs : ¬ x ≤ px ∨ (x ≤ px ∧ ¬ px < x + n) ∨ (x ≤ px ∧ px < x + n ∧ ¬ y ≤ py) ∨ (x ≤ px ∧ px < x + n ∧ y ≤ py ∧ ¬ py < y + m) ∨ (x ≤ px ∧ px < x + n ∧ y ≤ py ∧ py < y + m) := by omega
    rcases cs with c1 | ⟨c1, c2⟩ | ⟨c1, c2, c3⟩ | ⟨c1, c2, c3, c4⟩ | ⟨c1, c2, c3, c4⟩
    all_goals
      go_enter Try.func60, Try.ntmps60
      go_wp2_with fail
      obtain ⟨A, B, L⟩ := boxes_rp w x y n m px py 35 31
      refine (empty_any _ _ _ _ _ (by assumption) (by assumption)).mono ?_
      rintro e w1 ⟨rfl, hb⟩
      replace L := L.trans (hb.mono L.size)
      replace A := A.below hb
      replace B := B.below hb
      clear hb
      obtain ⟨d0, d1, d2, d3⟩ := id A
      go_wp2_with fail
      clear d0 d1 d2 d3
      refine (end_any _ _ _ _ _ (by omega) (by omega) (by omega) (by omega) (by omega) (by omega) (by omega) (by omega)).mono ?_
      rintro e w2 ⟨rfl, hb⟩
      replace L := L.trans (hb.mono L.size)
      replace A := A.below hb
      replace B := B.below hb
      clear hb
      have la := A.lt
      have lb := B.lt
      obtain ⟨d0, d1, d2, d3⟩ := A
      obtain ⟨e0, e1⟩ := B
      go_wp2
      go_ret
      refine ⟨ret_bool ?_, L.alloc L.size _⟩
      simp [hasB, h1]
      try omega
  · go_enter Try.func60, Try.ntmps60
    go_wp2_with fail
    refine (empty_any _ _ _ _ _ (by assumption) (by assumption)).mono ?_
    rintro e w1 ⟨rfl, hb⟩
    go_wp2
    go_ret
    exact ⟨by simp [hasB, h1], (((Below.refl _ _).alloc (Nat.le_refl _) _).alloc (by simp) _).trans (hb.mono (by simp; omega))⟩

end Go.Proofs.Ytagkbpceiedikaa
