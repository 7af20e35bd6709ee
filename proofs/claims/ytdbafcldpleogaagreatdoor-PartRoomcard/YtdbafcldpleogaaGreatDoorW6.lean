/-
  Contracts of package geom: a rectangle inset, moved; a size within it.
-/
import Derived.Test.YtdbafcldpleogaaGreatDoorW4
import Derived.Test.YtdbafcldpleogaaGreatDoorReg2
namespace Go.Proofs.YtdbafcldpleogaaGreatDoor
open Go.RowKit

theorem i64_bd {x : Int} (h1 : -1000000 ≤ x) (h2 : x ≤ 1000000) : I64 x := ⟨by omega, by omega⟩

set_option maxHeartbeats 400000 in
theorem sized_any (x y n m : Int) (w : World) (hx : I64 x) (hy : I64 y) :
    Calls Tryz.prog 162 #[.agg #[.int .i64 x, .int .i64 y, .int .i64 n, .int .i64 m]] w fun e w' => e = .returned (.tuple #[.agg #[.int .i64 (szR ⟨x, y, n, m⟩).x, .int .i64 (szR ⟨x, y, n, m⟩).y, .int .i64 (szR ⟨x, y, n, m⟩).w, .int .i64 (szR ⟨x, y, n, m⟩).h], .int .i64 (szE ⟨x, y, n, m⟩)]) ∧ Below w.heap.size w w' := by
  have hk := chk_ne x y n m
  cases h1 : mayB x y n m
  · rw [show szR ⟨x, y, n, m⟩ = zr by simp [szR, h1], show szE ⟨x, y, n, m⟩ = 9 by simp [szE, h1]]
    go_enter Tryz.func162, Tryz.ntmps162
    go_wp2_with fail
    refine (check_any _ _ _ _ _ hx hy).mono ?_
    rintro e w1 ⟨rfl, hb⟩
    have F := ((fr1 w _ _ _).below hb).2
    obtain ⟨d0, d1, d2, d3⟩ := (At4.new' (w.alloc _) (w.heap.size + 1) 0 0 0 0 63 (by simp)).below hb
    have L := (((Below.refl w.heap.size w).alloc (Nat.le_refl _) _).alloc (by simp) _).trans (hb.mono (by simp; omega))
    clear hb
    go_wp2
    exact bodyPost_ret (v := .tuple #[.agg #[.int .i64 0, .int .i64 0, .int .i64 0, .int .i64 0], .int .i64 9]) (by simp [results, Tryz.results162, go_sem, d0, d1, d2, d3]) rfl ⟨rfl, set4_below L (by omega) _ _ _ _⟩
  · rw [show szR ⟨x, y, n, m⟩ = ⟨x, y, n, m⟩ by simp [szR, h1], show szE ⟨x, y, n, m⟩ = 0 by simp [szE, h1]]
    go_enter Tryz.func162, Tryz.ntmps162
    go_wp2_with fail
    refine (check_any _ _ _ _ _ hx hy).mono ?_
    rintro e w1 ⟨rfl, hb⟩
    have F := ((fr1 w _ _ _).below hb).2
    obtain ⟨d0, d1, d2, d3⟩ := (At4.new' (w.alloc _) (w.heap.size + 1) 0 0 0 0 63 (by simp)).below hb
    obtain ⟨e0, e1, e2, e3⟩ := ((At4.new w x y n m 63).alloc _).below hb
    have L := (((Below.refl w.heap.size w).alloc (Nat.le_refl _) _).alloc (by simp) _).trans (hb.mono (by simp; omega))
    clear hb
    go_wp2
    exact bodyPost_ret (v := .tuple #[.agg #[.int .i64 x, .int .i64 y, .int .i64 n, .int .i64 m], .int .i64 0]) (by simp [results, Tryz.results162, go_sem, d0, d1, d2, d3]) rfl ⟨rfl, set4_below L (by omega) _ _ _ _⟩

set_option maxHeartbeats 1000000 in
theorem inset_any (x y n m k : Int) (w : World) (hx : I64 x) (hy : I64 y) :
    Calls Tryz.prog 160 #[.agg #[.int .i64 x, .int .i64 y, .int .i64 n, .int .i64 m], .int .i64 k] w fun e w' => e = .returned (.tuple #[.agg #[.int .i64 (insR x y n m k).x, .int .i64 (insR x y n m k).y, .int .i64 (insR x y n m k).w, .int .i64 (insR x y n m k).h], .int .i64 (insE x y n m k)]) ∧ Below w.heap.size w w' := by
  have hk := chk_ne x y n m
  have cs : mayB x y n m = false ∨ (mayB x y n m = true ∧ witB k (-16384) 16384 = false) ∨ (mayB x y n m = true ∧ witB k (-16384) 16384 = true ∧ emptyB x y n m = true) ∨ (mayB x y n m = true ∧ witB k (-16384) 16384 = true ∧ emptyB x y n m = false) := by
    cases mayB x y n m <;> cases witB k (-16384) 16384 <;> cases emptyB x y n m <;> simp
  rcases cs with h1 | ⟨h1, h2⟩ | ⟨h1, h2, h3⟩ | ⟨h1, h2, h3⟩
  · rw [show insR x y n m k = zr by simp [insR, h1], show insE x y n m k = 5 by simp [insE, h1]]
    go_enter Tryz.func160, Tryz.ntmps160
    go_wp2_with fail
    refine (check_any _ _ _ _ _ hx hy).mono ?_
    rintro e w1 ⟨rfl, hb⟩
    have F := (fr1 w _ _ _).below hb
    have C := (At4.new' (w.alloc _) (w.heap.size + 1) 0 0 0 0 63 (by simp)).below hb
    have A := ((At4.new w x y n m 63).alloc _).below hb
    have L := (((Below.refl w.heap.size w).alloc (Nat.le_refl _) _).alloc (by simp) _).trans (hb.mono (by simp; omega))
    clear hb
    replace F := F.2
    obtain ⟨d0, d1, d2, d3⟩ := id C
    go_wp2
    exact bodyPost_ret (v := .tuple #[.agg #[.int .i64 0, .int .i64 0, .int .i64 0, .int .i64 0], .int .i64 5]) (by simp [results, Tryz.results160, go_sem, d0, d1, d2, d3]) rfl ⟨rfl, set4_below L (by omega) _ _ _ _⟩
  · rw [show insR x y n m k = zr by simp [insR, h2], show insE x y n m k = 2 by simp [insE, h1, h2]]
    go_enter Tryz.func160, Tryz.ntmps160
    go_wp2_with fail
    refine (check_any _ _ _ _ _ hx hy).mono ?_
    rintro e w1 ⟨rfl, hb⟩
    have F := (fr1 w _ _ _).below hb
    have C := (At4.new' (w.alloc _) (w.heap.size + 1) 0 0 0 0 63 (by simp)).below hb
    have A := ((At4.new w x y n m 63).alloc _).below hb
    have L := (((Below.refl w.heap.size w).alloc (Nat.le_refl _) _).alloc (by simp) _).trans (hb.mono (by simp; omega))
    clear hb
    replace F := F.2
    obtain ⟨d0, d1, d2, d3⟩ := id C
    go_wp2_with (go_at_call 161; refine (within_any _ _ _ _).mono ?_; rintro e w' ⟨rfl, rfl⟩)
    exact bodyPost_ret (v := .tuple #[.agg #[.int .i64 0, .int .i64 0, .int .i64 0, .int .i64 0], .int .i64 2]) (by simp [results, Tryz.results160, go_sem, d0, d1, d2, d3]) rfl ⟨rfl, set4_below L (by omega) _ _ _ _⟩
  · rw [show insR x y n m k = zr by simp [insR, h3], show insE x y n m k = 0 by simp [insE, h1, h2, h3]]
    go_enter Tryz.func160, Tryz.ntmps160
    go_wp2_with fail
    refine (check_any _ _ _ _ _ hx hy).mono ?_
    rintro e w1 ⟨rfl, hb⟩
    have F := (fr1 w _ _ _).below hb
    have C := (At4.new' (w.alloc _) (w.heap.size + 1) 0 0 0 0 63 (by simp)).below hb
    have A := ((At4.new w x y n m 63).alloc _).below hb
    have L := (((Below.refl w.heap.size w).alloc (Nat.le_refl _) _).alloc (by simp) _).trans (hb.mono (by simp; omega))
    clear hb
    obtain ⟨e0, e1, e2, e3⟩ := id A
    go_wp2_with (go_at_call 161; refine (within_any _ _ _ _).mono ?_; rintro e w' ⟨rfl, rfl⟩)
    clear e0 e1 e2 e3
    refine (empty_any _ _ _ _ _ hx hy).mono ?_
    rintro e w2 ⟨rfl, hb⟩
    replace F := F.below hb
    replace C := C.below hb
    replace L := L.trans (hb.mono L.size)
    clear hb
    replace F := F.2
    obtain ⟨d0, d1, d2, d3⟩ := id C
    go_wp2
    exact bodyPost_ret (v := .tuple #[.agg #[.int .i64 0, .int .i64 0, .int .i64 0, .int .i64 0], .int .i64 0]) (by simp [results, Tryz.results160, go_sem, d0, d1, d2, d3]) rfl ⟨rfl, set4_below L (by omega) _ _ _ _⟩
  · rw [show insR x y n m k = szR (btw (x + k) (y + k) (x + n - k) (y + m - k)) by simp [insR, h1, h2, h3], show insE x y n m k = szE (btw (x + k) (y + k) (x + n - k) (y + m - k)) by simp [insE, h1, h2, h3]]
    obtain ⟨a1, a2, a3, a4, a5, a6, a7, a8, a9, a10⟩ := bounds_of h3
    obtain ⟨b1, b2⟩ := wit_iff.1 h2
    go_enter Tryz.func160, Tryz.ntmps160
    go_wp2_with fail
    refine (check_any _ _ _ _ _ hx hy).mono ?_
    rintro e w1 ⟨rfl, hb⟩
    have F := (fr1 w _ _ _).below hb
    have C := (At4.new' (w.alloc _) (w.heap.size + 1) 0 0 0 0 63 (by simp)).below hb
    have A := ((At4.new w x y n m 63).alloc _).below hb
    have L := (((Below.refl w.heap.size w).alloc (Nat.le_refl _) _).alloc (by simp) _).trans (hb.mono (by simp; omega))
    clear hb
    obtain ⟨e0, e1, e2, e3⟩ := id A
    go_wp2_with (go_at_call 161; refine (within_any _ _ _ _).mono ?_; rintro e w' ⟨rfl, rfl⟩)
    clear e0 e1 e2 e3
    refine (empty_any _ _ _ _ _ hx hy).mono ?_
    rintro e w2 ⟨rfl, hb⟩
    replace F := F.below hb
    replace A := A.below hb
    replace C := C.below hb
    replace L := L.trans (hb.mono L.size)
    clear hb
    obtain ⟨e0, e1, e2, e3⟩ := id A
    go_wp2_with fail
    clear e0 e1 e2 e3
    refine (end_any _ _ _ _ _ (by omega) (by omega) (by omega) (by omega) (by omega) (by omega) (by omega) (by omega)).mono ?_
    rintro e w3 ⟨rfl, hb⟩
    replace F := F.below hb
    replace A := A.below hb
    replace C := C.below hb
    replace L := L.trans (hb.mono L.size)
    clear hb
    have la := A.lt
    obtain ⟨e0, e1, e2, e3⟩ := id A
    go_wp2_with fail
    clear e0 e1 e2 e3 la
    refine (between_any _ _ _ _ _ (by omega) (by omega) (by omega) (by omega) (by omega) (by omega) (by omega) (by omega)).mono ?_
    rintro e w4 ⟨rfl, hb⟩
    replace F := (F.alloc _).below hb
    replace C := (C.alloc _).below hb
    replace L := (L.alloc L.size _).trans (hb.mono (by have := L.size; simp; omega))
    clear A hb
    go_wp2_with fail
    obtain ⟨g1, g2, g3, g4⟩ := btw_bd (x + k) (y + k) (x + n - k) (y + m - k) 100000 (by omega) (by omega) (by omega) (by omega) (by omega)
    refine (sized_any _ _ _ _ _ (i64_bd (by omega) (by omega)) (i64_bd (by omega) (by omega))).mono ?_
    rintro e w5 ⟨rfl, hb⟩
    replace F := (F.below hb).2
    replace C := C.below hb
    replace L := L.trans (hb.mono L.size)
    clear hb
    obtain ⟨d0, d1, d2, d3⟩ := id C
    go_wp2
    exact bodyPost_ret (v := .tuple #[.agg #[.int .i64 _, .int .i64 _, .int .i64 _, .int .i64 _], .int .i64 _]) (by simp [results, Tryz.results160, go_sem, d0, d1, d2, d3]) rfl ⟨rfl, set4_below L (by omega) _ _ _ _⟩

end Go.Proofs.YtdbafcldpleogaaGreatDoor
