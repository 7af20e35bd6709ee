/-
  Contracts: two corners make a rectangle, by the program and by the document's answer.
-/
import Derived.Test.YtpeppbfkbijdiaaW2
import Derived.Test.YtpeppbfkbijdiaaW3
namespace Go.Proofs.Ytpeppbfkbijdiaa
open Go.RowKit

set_option maxHeartbeats 400000 in
theorem corner_any (x y : Int) (w : World) :
    Calls Try.prog 41 #[.agg #[.int .i64 x, .int .i64 y]] w fun e w' => e = .returned (.bool (cornB x y)) ∧ Below w.heap.size w w' := by
  cases h1 : witB x (-16384) 16384
  all_goals
    go_enter Try.func41, Try.ntmps41
    go_wp2_with (go_at_call 44; refine (within_any _ _ _ _).mono ?_; rintro e w' ⟨rfl, rfl⟩)
    go_ret
    exact ⟨by simp [cornB, h1], (Below.refl _ _).alloc (Nat.le_refl _) _⟩

set_option maxHeartbeats 400000 in
theorem from_any (x y r b : Int) (w : World) (b1 : -1000000 ≤ x) (b2 : x ≤ 1000000) (b3 : -1000000 ≤ y) (b4 : y ≤ 1000000) (b5 : -1000000 ≤ r) (b6 : r ≤ 1000000) (b7 : -1000000 ≤ b) (b8 : b ≤ 1000000) :
    Calls Try.prog 48 #[.int .i64 x, .int .i64 y, .int .i64 r, .int .i64 b] w fun e w' => e = .returned (.agg #[.int .i64 (btw x y r b).x, .int .i64 (btw x y r b).y, .int .i64 (btw x y r b).w, .int .i64 (btw x y r b).h]) ∧ Below w.heap.size w w' := by
  by_cases c1 : r ≤ x
  · rw [btw_no (.inl c1)]
    go_enter Try.func48, Try.ntmps48
    go_wp2
    exact bodyPost_ret (v := .agg #[.int .i64 0, .int .i64 0, .int .i64 0, .int .i64 0]) (by simp [results, Try.results48, go_sem]) rfl ⟨rfl, (Below.refl _ _).alloc (Nat.le_refl _) _⟩
  · by_cases c2 : b ≤ y
    · rw [btw_no (.inr c2)]
      go_enter Try.func48, Try.ntmps48
      go_wp2
      exact bodyPost_ret (v := .agg #[.int .i64 0, .int .i64 0, .int .i64 0, .int .i64 0]) (by simp [results, Try.results48, go_sem]) rfl ⟨rfl, (Below.refl _ _).alloc (Nat.le_refl _) _⟩
    · rw [btw_yes (by omega) (by omega)]
      go_enter Try.func48, Try.ntmps48
      go_wp2
      exact bodyPost_ret (v := .agg #[.int .i64 x, .int .i64 y, .int .i64 (r - x), .int .i64 (b - y)]) (by simp [results, Try.results48, go_sem]) rfl ⟨rfl, (Below.refl _ _).alloc (Nat.le_refl _) _⟩

theorem corn_bd {x y : Int} (h : cornB x y = true) : -16384 ≤ x ∧ x ≤ 16384 ∧ -16384 ≤ y ∧ y ≤ 16384 := by
  unfold cornB at h
  rw [Bool.and_eq_true, wit_iff, wit_iff] at h
  omega

theorem mnmx (a b : Int) : (a ≤ b ∧ a < b ∧ min a b = a ∧ max a b = b) ∨ (a ≤ b ∧ b ≤ a ∧ min a b = a ∧ max a b = a) ∨ (b ≤ a ∧ b < a ∧ min a b = b ∧ max a b = a) := by omega

set_option maxHeartbeats 1000000 in
theorem make_any (ax ay bx by' : Int) (w : World) :
    Calls Try.prog 11 #[.agg #[.int .i64 ax, .int .i64 ay], .agg #[.int .i64 bx, .int .i64 by']] w fun e w' => e = .returned (.tuple #[.agg #[.int .i64 (mkR ax ay bx by').x, .int .i64 (mkR ax ay bx by').y, .int .i64 (mkR ax ay bx by').w, .int .i64 (mkR ax ay bx by').h], .int .i64 (mkE ax ay bx by')]) ∧ Below w.heap.size w w' := by
  cases h1 : cornB ax ay
  · rw [show mkR ax ay bx by' = zr by simp [mkR, mkB, h1], show mkE ax ay bx by' = 2 by simp [mkE, mkB, h1]]
    go_enter Try.func11, Try.ntmps11
    go_wp2_with fail
    obtain ⟨A, B, C, L⟩ := boxes_ppr w ax ay bx by' 25 25 29
    refine (corner_any _ _ _).mono ?_
    rintro e w1 ⟨rfl, hb⟩
    replace L := L.trans (hb.mono L.size)
    replace C := C.below hb
    have F := ((fr2 w _ _ _ _).below hb).2
    clear A B hb
    obtain ⟨d0, d1, d2, d3⟩ := id C
    go_wp2
    exact bodyPost_ret (v := .tuple #[.agg #[.int .i64 0, .int .i64 0, .int .i64 0, .int .i64 0], .int .i64 2]) (by simp [results, Try.results11, go_sem, d0, d1, d2, d3]) rfl ⟨rfl, set4_below L (by omega) _ _ _ _⟩
  · cases h2 : cornB bx by'
    · rw [show mkR ax ay bx by' = zr by simp [mkR, mkB, h2], show mkE ax ay bx by' = 2 by simp [mkE, mkB, h2]]
      go_enter Try.func11, Try.ntmps11
      go_wp2_with fail
      obtain ⟨A, B, C, L⟩ := boxes_ppr w ax ay bx by' 25 25 29
      refine (corner_any _ _ _).mono ?_
      rintro e w1 ⟨rfl, hb⟩
      replace L := L.trans (hb.mono L.size)
      replace B := B.below hb
      replace C := C.below hb
      have F := (fr2 w _ _ _ _).below hb
      clear A hb
      obtain ⟨d0, d1⟩ := id B
      go_wp2_with fail
      clear d0 d1
      refine (corner_any _ _ _).mono ?_
      rintro e w2 ⟨rfl, hb⟩
      replace L := L.trans (hb.mono L.size)
      replace C := C.below hb
      replace F := (F.below hb).2
      clear B hb
      obtain ⟨d0, d1, d2, d3⟩ := id C
      go_wp2
      exact bodyPost_ret (v := .tuple #[.agg #[.int .i64 0, .int .i64 0, .int .i64 0, .int .i64 0], .int .i64 2]) (by simp [results, Try.results11, go_sem, d0, d1, d2, d3]) rfl ⟨rfl, set4_below L (by omega) _ _ _ _⟩
    · rw [show mkR ax ay bx by' = btw (min ax bx) (min ay by') (max ax bx) (max ay by') by simp [mkR, mkB, h1, h2], show mkE ax ay bx by' = 0 by simp [mkE, mkB, h1, h2]]
      obtain ⟨a1, a2, a3, a4⟩ := corn_bd h1
      obtain ⟨b1, b2, b3, b4⟩ := corn_bd h2
      rcases mnmx ax bx with ⟨k1, c1, m1, m2⟩ | ⟨k1, c1, m1, m2⟩ | ⟨k1, c1, m1, m2⟩ <;> rcases mnmx ay by' with ⟨k2, c2, m3, m4⟩ | ⟨k2, c2, m3, m4⟩ | ⟨k2, c2, m3, m4⟩
      all_goals
        rw [m1, m2, m3, m4]
        clear m1 m2 m3 m4
        go_enter Try.func11, Try.ntmps11
        go_wp2_with fail
        obtain ⟨A, B, C, L⟩ := boxes_ppr w ax ay bx by' 25 25 29
        refine (corner_any _ _ _).mono ?_
        rintro e w1 ⟨rfl, hb⟩
        replace L := L.trans (hb.mono L.size)
        replace A := A.below hb
        replace B := B.below hb
        replace C := C.below hb
        have F := (fr2 w _ _ _ _).below hb
        clear hb
        obtain ⟨d0, d1⟩ := id B
        go_wp2_with fail
        clear d0 d1
        refine (corner_any _ _ _).mono ?_
        rintro e w2 ⟨rfl, hb⟩
        replace L := L.trans (hb.mono L.size)
        replace A := A.below hb
        replace B := B.below hb
        replace C := C.below hb
        replace F := F.below hb
        clear hb
        have la := A.lt
        have lb := B.lt
        have lc := C.lt
        obtain ⟨d0, d1⟩ := id A
        obtain ⟨e0, e1⟩ := id B
        go_wp2_with fail
        clear d0 d1 e0 e1 A B
        refine (between_any _ _ _ _ _ (by omega) (by omega) (by omega) (by omega) (by omega) (by omega) (by omega) (by omega)).mono ?_
        rintro e w3 ⟨rfl, hb⟩
        replace C := ((C.alloc _).alloc _).below hb
        replace F := (((F.alloc _).alloc _).below hb).2
        replace L := ((L.alloc L.size _).alloc (by have := L.size; simp; omega) _).trans (hb.mono (by have := L.size; simp; omega))
        clear hb
        obtain ⟨d0, d1, d2, d3⟩ := id C
        go_wp2
        exact bodyPost_ret (v := .tuple #[.agg #[.int .i64 _, .int .i64 _, .int .i64 _, .int .i64 _], .int .i64 0]) (by simp [results, Try.results11, go_sem, d0, d1, d2, d3]) rfl ⟨rfl, set4_below L (by omega) _ _ _ _⟩

end Go.Proofs.Ytpeppbfkbijdiaa
