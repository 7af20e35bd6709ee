/-
  Contracts of package geom: a rectangle moved.
-/
import Derived.Test.YtfknfcmabeahhabW6
namespace Go.Proofs.Ytfknfcmabeahhab
open Go.RowKit

set_option maxHeartbeats 1000000 in
theorem moved_any (x y n m p q : Int) (w : World) (hx : I64 x) (hy : I64 y) :
    Calls Try.prog 7 #[.agg #[.int .i64 x, .int .i64 y, .int .i64 n, .int .i64 m], .agg #[.int .i64 p, .int .i64 q]] w fun e w' => e = .returned (.tuple #[.agg #[.int .i64 (movR x y n m p q).x, .int .i64 (movR x y n m p q).y, .int .i64 (movR x y n m p q).w, .int .i64 (movR x y n m p q).h], .int .i64 (movE x y n m p q)]) ∧ Below w.heap.size w w' := by
  have hk := chk_ne x y n m
  have cs : mayB x y n m = false ∨ (mayB x y n m = true ∧ emptyB x y n m = true) ∨ (mayB x y n m = true ∧ emptyB x y n m = false ∧ witB p (-32768) 32768 = false) ∨ (mayB x y n m = true ∧ emptyB x y n m = false ∧ witB p (-32768) 32768 = true ∧ witB q (-32768) 32768 = false) ∨ (mayB x y n m = true ∧ emptyB x y n m = false ∧ witB p (-32768) 32768 = true ∧ witB q (-32768) 32768 = true) := by
    cases mayB x y n m <;> cases witB p (-32768) 32768 <;> cases witB q (-32768) 32768 <;> cases emptyB x y n m <;> simp
  rcases cs with h1 | ⟨h1, h2⟩ | ⟨h1, h2, h3⟩ | ⟨h1, h2, h3, h4⟩ | ⟨h1, h2, h3, h4⟩
  · rw [show movR x y n m p q = zr by simp [movR, emptyB, h1], show movE x y n m p q = 5 by simp [movE, h1]]
    go_enter Try.func7, Try.ntmps7
    go_wp2_with fail
    refine (check_any _ _ _ _ _ hx hy).mono ?_
    rintro e w1 ⟨rfl, hb⟩
    have F := (fr2 w _ _ _ _).below hb
    have C := (At4.new' ((w.alloc _).alloc _) (w.heap.size + 1 + 1) 0 0 0 0 27 (by simp)).below hb
    have A := (((At4.new w x y n m 27).alloc _).alloc _).below hb
    have B := ((At2.new' (w.alloc _) (w.heap.size + 1) p q 23 (by simp)).alloc _).below hb
    have L := ((((Below.refl w.heap.size w).alloc (Nat.le_refl _) _).alloc (by simp) _).alloc (by simp; omega) _).trans (hb.mono (by simp; omega))
    clear hb
    replace F := F.2
    obtain ⟨d0, d1, d2, d3⟩ := id C
    go_wp2
    exact bodyPost_ret (v := .tuple #[.agg #[.int .i64 0, .int .i64 0, .int .i64 0, .int .i64 0], .int .i64 5]) (by simp [results, Try.results7, go_sem, d0, d1, d2, d3]) rfl ⟨rfl, set4_below L (by omega) _ _ _ _⟩
  · rw [show movR x y n m p q = zr by simp [movR, h2], show movE x y n m p q = 0 by simp [movE, h1, h2]]
    go_enter Try.func7, Try.ntmps7
    go_wp2_with fail
    refine (check_any _ _ _ _ _ hx hy).mono ?_
    rintro e w1 ⟨rfl, hb⟩
    have F := (fr2 w _ _ _ _).below hb
    have C := (At4.new' ((w.alloc _).alloc _) (w.heap.size + 1 + 1) 0 0 0 0 27 (by simp)).below hb
    have A := (((At4.new w x y n m 27).alloc _).alloc _).below hb
    have B := ((At2.new' (w.alloc _) (w.heap.size + 1) p q 23 (by simp)).alloc _).below hb
    have L := ((((Below.refl w.heap.size w).alloc (Nat.le_refl _) _).alloc (by simp) _).alloc (by simp; omega) _).trans (hb.mono (by simp; omega))
    clear hb
    obtain ⟨e0, e1, e2, e3⟩ := id A
    go_wp2_with fail
    clear e0 e1 e2 e3
    refine (empty_any _ _ _ _ _ hx hy).mono ?_
    rintro e w2 ⟨rfl, hb⟩
    replace F := F.below hb
    replace A := A.below hb
    replace B := B.below hb
    replace C := C.below hb
    replace L := L.trans (hb.mono L.size)
    clear hb
    replace F := F.2
    obtain ⟨d0, d1, d2, d3⟩ := id C
    go_wp2
    exact bodyPost_ret (v := .tuple #[.agg #[.int .i64 0, .int .i64 0, .int .i64 0, .int .i64 0], .int .i64 0]) (by simp [results, Try.results7, go_sem, d0, d1, d2, d3]) rfl ⟨rfl, set4_below L (by omega) _ _ _ _⟩
  · rw [show movR x y n m p q = zr by simp [movR, h3], show movE x y n m p q = 9 by simp [movE, h1, h2, h3]]
    go_enter Try.func7, Try.ntmps7
    go_wp2_with fail
    refine (check_any _ _ _ _ _ hx hy).mono ?_
    rintro e w1 ⟨rfl, hb⟩
    have F := (fr2 w _ _ _ _).below hb
    have C := (At4.new' ((w.alloc _).alloc _) (w.heap.size + 1 + 1) 0 0 0 0 27 (by simp)).below hb
    have A := (((At4.new w x y n m 27).alloc _).alloc _).below hb
    have B := ((At2.new' (w.alloc _) (w.heap.size + 1) p q 23 (by simp)).alloc _).below hb
    have L := ((((Below.refl w.heap.size w).alloc (Nat.le_refl _) _).alloc (by simp) _).alloc (by simp; omega) _).trans (hb.mono (by simp; omega))
    clear hb
    obtain ⟨e0, e1, e2, e3⟩ := id A
    go_wp2_with fail
    clear e0 e1 e2 e3
    refine (empty_any _ _ _ _ _ hx hy).mono ?_
    rintro e w2 ⟨rfl, hb⟩
    replace F := F.below hb
    replace A := A.below hb
    replace B := B.below hb
    replace C := C.below hb
    replace L := L.trans (hb.mono L.size)
    clear hb
    replace F := F.2
    obtain ⟨d0, d1, d2, d3⟩ := id C
    obtain ⟨f0, f1⟩ := id B
    go_wp2_with (go_at_call 16; refine (within_any _ _ _ _).mono ?_; rintro e w' ⟨rfl, rfl⟩)
    exact bodyPost_ret (v := .tuple #[.agg #[.int .i64 0, .int .i64 0, .int .i64 0, .int .i64 0], .int .i64 9]) (by simp [results, Try.results7, go_sem, d0, d1, d2, d3]) rfl ⟨rfl, set4_below L (by omega) _ _ _ _⟩
  · rw [show movR x y n m p q = zr by simp [movR, h4], show movE x y n m p q = 9 by simp [movE, h1, h2, h4]]
    go_enter Try.func7, Try.ntmps7
    go_wp2_with fail
    refine (check_any _ _ _ _ _ hx hy).mono ?_
    rintro e w1 ⟨rfl, hb⟩
    have F := (fr2 w _ _ _ _).below hb
    have C := (At4.new' ((w.alloc _).alloc _) (w.heap.size + 1 + 1) 0 0 0 0 27 (by simp)).below hb
    have A := (((At4.new w x y n m 27).alloc _).alloc _).below hb
    have B := ((At2.new' (w.alloc _) (w.heap.size + 1) p q 23 (by simp)).alloc _).below hb
    have L := ((((Below.refl w.heap.size w).alloc (Nat.le_refl _) _).alloc (by simp) _).alloc (by simp; omega) _).trans (hb.mono (by simp; omega))
    clear hb
    obtain ⟨e0, e1, e2, e3⟩ := id A
    go_wp2_with fail
    clear e0 e1 e2 e3
    refine (empty_any _ _ _ _ _ hx hy).mono ?_
    rintro e w2 ⟨rfl, hb⟩
    replace F := F.below hb
    replace A := A.below hb
    replace B := B.below hb
    replace C := C.below hb
    replace L := L.trans (hb.mono L.size)
    clear hb
    replace F := F.2
    obtain ⟨d0, d1, d2, d3⟩ := id C
    obtain ⟨f0, f1⟩ := id B
    go_wp2_with (go_at_call 16; refine (within_any _ _ _ _).mono ?_; rintro e w' ⟨rfl, rfl⟩)
    exact bodyPost_ret (v := .tuple #[.agg #[.int .i64 0, .int .i64 0, .int .i64 0, .int .i64 0], .int .i64 9]) (by simp [results, Try.results7, go_sem, d0, d1, d2, d3]) rfl ⟨rfl, set4_below L (by omega) _ _ _ _⟩
  · rw [show movR x y n m p q = szR ⟨x + p, y + q, n, m⟩ by simp [movR, h2, h3, h4], show movE x y n m p q = szE ⟨x + p, y + q, n, m⟩ by simp [movE, h1, h2, h3, h4]]
    obtain ⟨a1, a2, a3, a4, a5, a6, a7, a8, a9, a10⟩ := bounds_of h2
    obtain ⟨b1, b2⟩ := wit_iff.1 h3
    obtain ⟨b3, b4⟩ := wit_iff.1 h4
    go_enter Try.func7, Try.ntmps7
    go_wp2_with fail
    refine (check_any _ _ _ _ _ hx hy).mono ?_
    rintro e w1 ⟨rfl, hb⟩
    have G := (((Fr.new w _ _).alloc _).alloc _).below hb
    have F := (fr2 w _ _ _ _).below hb
    have C := (At4.new' ((w.alloc _).alloc _) (w.heap.size + 1 + 1) 0 0 0 0 27 (by simp)).below hb
    have A := (((At4.new w x y n m 27).alloc _).alloc _).below hb
    have B := ((At2.new' (w.alloc _) (w.heap.size + 1) p q 23 (by simp)).alloc _).below hb
    have L := ((((Below.refl w.heap.size w).alloc (Nat.le_refl _) _).alloc (by simp) _).alloc (by simp; omega) _).trans (hb.mono (by simp; omega))
    clear hb
    obtain ⟨e0, e1, e2, e3⟩ := id A
    go_wp2_with fail
    clear e0 e1 e2 e3
    refine (empty_any _ _ _ _ _ hx hy).mono ?_
    rintro e w2 ⟨rfl, hb⟩
    replace F := F.below hb
    replace G := (G.below hb).2
    replace A := A.below hb
    replace B := B.below hb
    replace C := C.below hb
    replace L := L.trans (hb.mono L.size)
    clear hb
    obtain ⟨e0, e1, e2, e3⟩ := id A
    obtain ⟨f0, f1⟩ := id B
    go_wp2_with (go_at_call 16; refine (within_any _ _ _ _).mono ?_; rintro e w' ⟨rfl, rfl⟩)
    refine (sized_any _ _ _ _ _ (i64_bd (by omega) (by omega)) (i64_bd (by omega) (by omega))).mono ?_
    rintro e w5 ⟨rfl, hb⟩
    replace F := (((F.set _ _).set _ _).below hb).2
    replace C := ((C.set _ (by show w.heap.size ≠ _; omega)).set _ (by show w.heap.size ≠ _; omega)).below hb
    replace L := (L.setCell (by show w.heap.size ≤ w.heap.size; omega) _).setCell (by show w.heap.size ≤ w.heap.size; omega) _ |>.trans (hb.mono ((L.setCell (by show w.heap.size ≤ w.heap.size; omega) _).setCell (by show w.heap.size ≤ w.heap.size; omega) _).size)
    clear A B G hb e0 e1 e2 e3 f0 f1
    obtain ⟨d0, d1, d2, d3⟩ := id C
    go_wp2
    exact bodyPost_ret (v := .tuple #[.agg #[.int .i64 _, .int .i64 _, .int .i64 _, .int .i64 _], .int .i64 _]) (by simp [results, Try.results7, go_sem, d0, d1, d2, d3]) rfl ⟨rfl, set4_below L (by omega) _ _ _ _⟩

end Go.Proofs.Ytfknfcmabeahhab
