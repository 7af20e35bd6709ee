/-
  The walk of the statement GeomOnes: it answers true; of what was there nothing turns.
-/
import Derived.Test.YtfknfcmabeahhaaW5
namespace Go.Proofs.Ytfknfcmabeahhaa
open Go.RowKit

set_option maxHeartbeats 2000000 in
theorem ones_walk (x y n m ax ay bx by' : Int) (w : World) (hx : I64 x) (hy : I64 y) :
    Calls Try.prog 4 #[.agg #[.int .i64 x, .int .i64 y, .int .i64 n, .int .i64 m], .agg #[.int .i64 ax, .int .i64 ay], .agg #[.int .i64 bx, .int .i64 by']] w fun e w' => e = .returned (.bool true) ∧ Below w.heap.size w w' := by
  go_enter Try.func4, Try.ntmps4
  go_wp2_with fail
  refine (make_any _ _ _ _ _).mono ?_
  rintro e w1 ⟨rfl, hb⟩
  have A := (((At4.new w x y n m 29).alloc _).alloc _).below hb
  have B := ((At2.new' (w.alloc _) (w.heap.size + 1) ax ay 25 (by simp)).alloc _).below hb
  have C := (At2.new' ((w.alloc _).alloc _) (w.heap.size + 1 + 1) bx by' 25 (by simp)).below hb
  have L := ((((Below.refl w.heap.size w).alloc (Nat.le_refl _) _).alloc (by simp) _).alloc (by simp; omega) _).trans (hb.mono (by simp; omega))
  clear hb
  have la := A.lt
  have lb := B.lt
  have lc := C.lt
  obtain ⟨e0, e1⟩ := id B
  obtain ⟨f0, f1⟩ := id C
  go_wp2_with fail
  clear e0 e1 f0 f1
  refine (rmake_any _ _ _ _ _).mono ?_
  rintro e w2 ⟨rfl, hb⟩
  replace A := (A.alloc _).below hb
  replace B := (B.alloc _).below hb
  replace C := (C.alloc _).below hb
  have D := (At4.new w1 (mkR ax ay bx by').x (mkR ax ay bx by').y (mkR ax ay bx by').w (mkR ax ay bx by').h 29).below hb
  replace L := (L.alloc L.size _).trans (hb.mono (by have := L.size; simp; omega))
  clear hb la lb lc
  have la := A.lt
  have lb := B.lt
  have lc := C.lt
  have ld := D.lt
  go_wp2_with fail
  have E := At4.new w2 (mkR ax ay bx by').x (mkR ax ay bx by').y (mkR ax ay bx by').w (mkR ax ay bx by').h 29
  replace A := A.alloc (.cells #[.int .i64 (mkR ax ay bx by').x, .int .i64 (mkR ax ay bx by').y, .int .i64 (mkR ax ay bx by').w, .int .i64 (mkR ax ay bx by').h] 29)
  replace B := B.alloc (.cells #[.int .i64 (mkR ax ay bx by').x, .int .i64 (mkR ax ay bx by').y, .int .i64 (mkR ax ay bx by').w, .int .i64 (mkR ax ay bx by').h] 29)
  replace C := C.alloc (.cells #[.int .i64 (mkR ax ay bx by').x, .int .i64 (mkR ax ay bx by').y, .int .i64 (mkR ax ay bx by').w, .int .i64 (mkR ax ay bx by').h] 29)
  replace D := D.alloc (.cells #[.int .i64 (mkR ax ay bx by').x, .int .i64 (mkR ax ay bx by').y, .int .i64 (mkR ax ay bx by').w, .int .i64 (mkR ax ay bx by').h] 29)
  replace L := L.alloc L.size (.cells #[.int .i64 (mkR ax ay bx by').x, .int .i64 (mkR ax ay bx by').y, .int .i64 (mkR ax ay bx by').w, .int .i64 (mkR ax ay bx by').h] 29)
  have ne := gw_ne L
  have a0 := fun t => (gw4 A t).1
  have a1 := fun t => (gw4 A t).2.1
  have a2 := fun t => (gw4 A t).2.2.1
  have a3 := fun t => (gw4 A t).2.2.2
  have b0 := fun t => (gw2 B t).1
  have b1 := fun t => (gw2 B t).2
  have c0 := fun t => (gw2 C t).1
  have c1 := fun t => (gw2 C t).2
  have d0 := fun t => (gw4 D t).1
  have d1 := fun t => (gw4 D t).2.1
  have d2 := fun t => (gw4 D t).2.2.1
  have d3 := fun t => (gw4 D t).2.2.2
  have e0 := fun t => (gw4 E t).1
  have e1 := fun t => (gw4 E t).2.1
  have e2 := fun t => (gw4 E t).2.2.1
  have e3 := fun t => (gw4 E t).2.2.2
  have HL : Hid (Below w.heap.size w (w2.alloc (.cells #[.int .i64 (mkR ax ay bx by').x, .int .i64 (mkR ax ay bx by').y, .int .i64 (mkR ax ay bx by').w, .int .i64 (mkR ax ay bx by').h] 29))) := L
  clear A B C D E L la lb lc ld
  refine wp_region_gw (by kernel_rfl) (by kernel_rfl) ?_
  repeat (go_big_quiet_step (first
    | (go_at_call 9; exact gw_call (check_any _ _ _ _ _ hx hy))
    | (go_at_call 22; exact gw_call (rcheck_any _ _ _ _ _))
    | (go_at_call 12; exact gw_call (empty_any _ _ _ _ _ hx hy))
    | (go_at_call 23; exact gw_call (rempty_any _ _ _ _ _))
    | (go_at_call 24; exact gw_call (area_any _ _ _ _ _ hx hy))
    | (go_at_call 25; exact gw_call (rarea_any _ _ _ _ _))
    | (go_at_call 13; exact gw_call (has_any _ _ _ _ _ _ _ hx hy))
    | (go_at_call 26; exact gw_call (rhas_any _ _ _ _ _ _ _))))
  refine wpQuiet_nil ?_
  rintro _ ⟨t, rfl⟩
  go_wp2
  go_ret
  exact ⟨rfl, HL.out.trans (t.below.mono HL.out.size)⟩

end Go.Proofs.Ytfknfcmabeahhaa
