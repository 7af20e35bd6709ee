/-
  Contracts of package geom: areas, places, what two have together.
-/
import Derived.Test.YtfknfcmabeahhabW1
namespace Go.Proofs.Ytfknfcmabeahhab
open Go.RowKit

set_option maxHeartbeats 400000 in
theorem area_any (x y n m : Int) (w : World) (hx : I64 x) (hy : I64 y) :
    Calls Try.prog 14 #[.agg #[.int .i64 x, .int .i64 y, .int .i64 n, .int .i64 m]] w fun e w' => e = .returned (.int .i64 (areaI x y n m)) ∧ Below w.heap.size w w' := by
  cases h1 : emptyB x y n m
  · obtain ⟨b1, b2, b3, b4, b5, b6, b7, b8, b9, b10⟩ := bounds_of h1
    have hm : n * m ≤ 32768 * 32768 := Int.mul_le_mul b6 b8 (by omega) (by omega)
    have hm0 : 0 ≤ n * m := Int.mul_nonneg (by omega) (by omega)
    go_enter Try.func14, Try.ntmps14
    go_wp2_with fail
    refine (empty_any _ _ _ _ _ (by assumption) (by assumption)).mono ?_
    rintro e w1 ⟨rfl, hb⟩
    obtain ⟨hc, hf⟩ := bcell hb
    go_wp2
    go_ret
    exact ⟨by simp [areaI, h1], ((Below.refl _ _).alloc (Nat.le_refl _) _).trans (hb.mono (by simp))⟩
  · go_enter Try.func14, Try.ntmps14
    go_wp2_with fail
    refine (empty_any _ _ _ _ _ (by assumption) (by assumption)).mono ?_
    rintro e w1 ⟨rfl, hb⟩
    obtain ⟨hc, hf⟩ := bcell hb
    go_wp2
    go_ret
    exact ⟨by simp [areaI, h1], ((Below.refl _ _).alloc (Nat.le_refl _) _).trans (hb.mono (by simp))⟩

end Go.Proofs.Ytfknfcmabeahhab
