/-
  Contracts of the document's answer: a rectangle moved.
-/
import Derived.Test.YtfknfcmabeahhaaW9
namespace Go.Proofs.Ytfknfcmabeahhaa
open Go.RowKit

theorem far_of (p q : Int) : (witB p (-32768) 32768 && witB q (-32768) 32768) = ((!decide (p < -32768)) && ((!decide (32768 < p)) && ((!decide (q < -32768)) && (!decide (32768 < q))))) := by
  rw [Bool.eq_iff_iff, Bool.and_eq_true, wit_iff, wit_iff]
  simp
  omega

set_option maxHeartbeats 2000000 in
theorem rmoved_any (x y n m p q : Int) (w : World) :
    Calls Try.prog 36 #[.agg #[.int .i64 x, .int .i64 y, .int .i64 n, .int .i64 m], .agg #[.int .i64 p, .int .i64 q]] w fun e w' => e = .returned (.tuple #[.agg #[.int .i64 (movR x y n m p q).x, .int .i64 (movR x y n m p q).y, .int .i64 (movR x y n m p q).w, .int .i64 (movR x y n m p q).h], .int .i64 (movE x y n m p q)]) ∧ Below w.heap.size w w' := by
  have cs : mayB x y n m = false ∨ (mayB x y n m = true ∧ emptyB x y n m = true) ∨ (mayB x y n m = true ∧ emptyB x y n m = false) := by
    cases mayB x y n m <;> cases emptyB x y n m <;> simp
  rcases cs with h1 | ⟨h1, h2⟩ | ⟨h1, h2⟩
  · rw [show movR x y n m p q = zr by simp [movR, emptyB, h1], show movE x y n m p q = 5 by simp [movE, h1]]
    go_enter Try.func36, Try.ntmps36
    go_wp2_with fail
    refine (rmay_any _ _ _ _ _).mono ?_
    rintro e w1 ⟨rfl, hb⟩
    have F := (fr2 w _ _ _ _).below hb
    have C := (At4.new' ((w.alloc _).alloc _) (w.heap.size + 1 + 1) 0 0 0 0 29 (by simp)).below hb
    have A := (((At4.new w x y n m 29).alloc _).alloc _).below hb
    have B := ((At2.new' (w.alloc _) (w.heap.size + 1) p q 25 (by simp)).alloc _).below hb
    have L := ((((Below.refl w.heap.size w).alloc (Nat.le_refl _) _).alloc (by simp) _).alloc (by simp; omega) _).trans (hb.mono (by simp; omega))
    clear hb
    replace F := F.2
    obtain ⟨d0, d1, d2, d3⟩ := id C
    obtain ⟨f0, f1⟩ := id B
    go_wp2_with fail
    exact bodyPost_ret (v := .tuple #[.agg #[.int .i64 0, .int .i64 0, .int .i64 0, .int .i64 0], .int .i64 5]) (by simp [results, Try.results36, go_sem, d0, d1, d2, d3]) rfl ⟨rfl, set4_below L (by omega) _ _ _ _⟩
  · rw [show movR x y n m p q = zr by simp [movR, h2], show movE x y n m p q = 0 by simp [movE, h1, h2]]
    go_enter Try.func36, Try.ntmps36
    go_wp2_with fail
    refine (rmay_any _ _ _ _ _).mono ?_
    rintro e w1 ⟨rfl, hb⟩
    have F := (fr2 w _ _ _ _).below hb
    have C := (At4.new' ((w.alloc _).alloc _) (w.heap.size + 1 + 1) 0 0 0 0 29 (by simp)).below hb
    have A := (((At4.new w x y n m 29).alloc _).alloc _).below hb
    have B := ((At2.new' (w.alloc _) (w.heap.size + 1) p q 25 (by simp)).alloc _).below hb
    have L := ((((Below.refl w.heap.size w).alloc (Nat.le_refl _) _).alloc (by simp) _).alloc (by simp; omega) _).trans (hb.mono (by simp; omega))
    clear hb
    obtain ⟨e0, e1, e2, e3⟩ := id A
    go_wp2_with fail
    clear e0 e1 e2 e3
    refine (rempty_any _ _ _ _ _).mono ?_
    rintro e w2 ⟨rfl, hb⟩
    replace F := F.below hb
    replace A := A.below hb
    replace B := B.below hb
    replace C := C.below hb
    replace L := L.trans (hb.mono L.size)
    clear hb
    replace F := F.2
    obtain ⟨d0, d1, d2, d3⟩ := id C
    obtain ⟨f0, f1⟩ := id B
    go_wp2_with fail
    exact bodyPost_ret (v := .tuple #[.agg #[.int .i64 0, .int .i64 0, .int .i64 0, .int .i64 0], .int .i64 0]) (by simp [results, Try.results36, go_sem, d0, d1, d2, d3]) rfl ⟨rfl, set4_below L (by omega) _ _ _ _⟩
  rcases chain4 (!decide (p < -32768)) (!decide (32768 < p)) (!decide (q < -32768)) (!decide (32768 < q)) with k1 | ⟨k1, k2⟩ | ⟨k1, k2, k3⟩ | ⟨k1, k2, k3, k4⟩ | ⟨k1, k2, k3, k4⟩
  iterate 4
    · have hB : (witB p (-32768) 32768 && witB q (-32768) 32768) = false := by rw [far_of]; simp only [*]; simp
      rw [show movR x y n m p q = zr by simp [movR, hB], show movE x y n m p q = 9 by simp [movE, h1, h2, hB]]
      clear hB
      simp only [Bool.not_eq_true', Bool.not_eq_false'] at *
      go_enter Try.func36, Try.ntmps36
      go_wp2_with fail
      refine (rmay_any _ _ _ _ _).mono ?_
      rintro e w1 ⟨rfl, hb⟩
      have F := (fr2 w _ _ _ _).below hb
      have C := (At4.new' ((w.alloc _).alloc _) (w.heap.size + 1 + 1) 0 0 0 0 29 (by simp)).below hb
      have A := (((At4.new w x y n m 29).alloc _).alloc _).below hb
      have B := ((At2.new' (w.alloc _) (w.heap.size + 1) p q 25 (by simp)).alloc _).below hb
      have L := ((((Below.refl w.heap.size w).alloc (Nat.le_refl _) _).alloc (by simp) _).alloc (by simp; omega) _).trans (hb.mono (by simp; omega))
      clear hb
      obtain ⟨e0, e1, e2, e3⟩ := id A
      go_wp2_with fail
      clear e0 e1 e2 e3
      refine (rempty_any _ _ _ _ _).mono ?_
      rintro e w2 ⟨rfl, hb⟩
      replace F := F.below hb
      replace A := A.below hb
      replace B := B.below hb
      replace C := C.below hb
      replace L := L.trans (hb.mono L.size)
      clear hb
      replace F := F.2
      obtain ⟨d0, d1, d2, d3⟩ := id C
      obtain ⟨f0, f1⟩ := id B
      go_wp2_with fail
      exact bodyPost_ret (v := .tuple #[.agg #[.int .i64 0, .int .i64 0, .int .i64 0, .int .i64 0], .int .i64 9]) (by simp [results, Try.results36, go_sem, d0, d1, d2, d3]) rfl ⟨rfl, set4_below L (by omega) _ _ _ _⟩
  · have hB : (witB p (-32768) 32768 && witB q (-32768) 32768) = true := by rw [far_of]; simp only [*]; simp
    rw [show movR x y n m p q = szR ⟨x + p, y + q, n, m⟩ by simp [movR, h2, hB], show movE x y n m p q = szE ⟨x + p, y + q, n, m⟩ by simp [movE, h1, h2, hB]]
    rw [Bool.and_eq_true, wit_iff, wit_iff] at hB
    obtain ⟨⟨b1, b2⟩, b3, b4⟩ := hB
    obtain ⟨a1, a2, a3, a4, a5, a6, a7, a8, a9, a10⟩ := bounds_of h2
    simp only [Bool.not_eq_true'] at k1 k2 k3 k4
    cases hm : mayB (x + p) (y + q) n m
    · rw [show szR ⟨x + p, y + q, n, m⟩ = zr by simp [szR, hm], show szE ⟨x + p, y + q, n, m⟩ = 9 by simp [szE, hm]]
      go_enter Try.func36, Try.ntmps36
      go_wp2_with fail
      refine (rmay_any _ _ _ _ _).mono ?_
      rintro e w1 ⟨rfl, hb⟩
      have F := (fr2 w _ _ _ _).below hb
      have C := (At4.new' ((w.alloc _).alloc _) (w.heap.size + 1 + 1) 0 0 0 0 29 (by simp)).below hb
      have A := (((At4.new w x y n m 29).alloc _).alloc _).below hb
      have B := ((At2.new' (w.alloc _) (w.heap.size + 1) p q 25 (by simp)).alloc _).below hb
      have L := ((((Below.refl w.heap.size w).alloc (Nat.le_refl _) _).alloc (by simp) _).alloc (by simp; omega) _).trans (hb.mono (by simp; omega))
      clear hb
      obtain ⟨e0, e1, e2, e3⟩ := id A
      go_wp2_with fail
      clear e0 e1 e2 e3
      refine (rempty_any _ _ _ _ _).mono ?_
      rintro e w2 ⟨rfl, hb⟩
      replace F := F.below hb
      replace A := A.below hb
      replace B := B.below hb
      replace C := C.below hb
      replace L := L.trans (hb.mono L.size)
      clear hb
      have la := A.lt
      have lb := B.lt
      obtain ⟨e0, e1, e2, e3⟩ := id A
      obtain ⟨f0, f1⟩ := id B
      go_wp2_with fail
      clear e0 e1 e2 e3 f0 f1 la lb
      have z := At4.new w2 (x + p) (y + q) n m 29
      replace C := C.alloc (.cells #[.int .i64 (x + p), .int .i64 (y + q), .int .i64 n, .int .i64 m] 29)
      replace F := F.alloc (.cells #[.int .i64 (x + p), .int .i64 (y + q), .int .i64 n, .int .i64 m] 29)
      replace L := L.alloc L.size (.cells #[.int .i64 (x + p), .int .i64 (y + q), .int .i64 n, .int .i64 m] 29)
      refine (rmay_any _ _ _ _ _).mono ?_
      rintro e w5 ⟨rfl, hb⟩
      replace F := (F.below hb).2
      replace C := C.below hb
      replace z := z.below hb
      replace L := L.trans (hb.mono L.size)
      clear hb
      obtain ⟨d0, d1, d2, d3⟩ := id C
      obtain ⟨z0, z1, z2, z3⟩ := id z
      go_wp2
      exact bodyPost_ret (v := .tuple #[.agg #[.int .i64 0, .int .i64 0, .int .i64 0, .int .i64 0], .int .i64 9]) (by simp [results, Try.results36, go_sem, d0, d1, d2, d3]) rfl ⟨rfl, set4_below L (by omega) _ _ _ _⟩
    · rw [show szR ⟨x + p, y + q, n, m⟩ = ⟨x + p, y + q, n, m⟩ by simp [szR, hm], show szE ⟨x + p, y + q, n, m⟩ = 0 by simp [szE, hm]]
      go_enter Try.func36, Try.ntmps36
      go_wp2_with fail
      refine (rmay_any _ _ _ _ _).mono ?_
      rintro e w1 ⟨rfl, hb⟩
      have F := (fr2 w _ _ _ _).below hb
      have C := (At4.new' ((w.alloc _).alloc _) (w.heap.size + 1 + 1) 0 0 0 0 29 (by simp)).below hb
      have A := (((At4.new w x y n m 29).alloc _).alloc _).below hb
      have B := ((At2.new' (w.alloc _) (w.heap.size + 1) p q 25 (by simp)).alloc _).below hb
      have L := ((((Below.refl w.heap.size w).alloc (Nat.le_refl _) _).alloc (by simp) _).alloc (by simp; omega) _).trans (hb.mono (by simp; omega))
      clear hb
      obtain ⟨e0, e1, e2, e3⟩ := id A
      go_wp2_with fail
      clear e0 e1 e2 e3
      refine (rempty_any _ _ _ _ _).mono ?_
      rintro e w2 ⟨rfl, hb⟩
      replace F := F.below hb
      replace A := A.below hb
      replace B := B.below hb
      replace C := C.below hb
      replace L := L.trans (hb.mono L.size)
      clear hb
      have la := A.lt
      have lb := B.lt
      obtain ⟨e0, e1, e2, e3⟩ := id A
      obtain ⟨f0, f1⟩ := id B
      go_wp2_with fail
      clear e0 e1 e2 e3 f0 f1 la lb
      have z := At4.new w2 (x + p) (y + q) n m 29
      replace C := C.alloc (.cells #[.int .i64 (x + p), .int .i64 (y + q), .int .i64 n, .int .i64 m] 29)
      replace F := F.alloc (.cells #[.int .i64 (x + p), .int .i64 (y + q), .int .i64 n, .int .i64 m] 29)
      replace L := L.alloc L.size (.cells #[.int .i64 (x + p), .int .i64 (y + q), .int .i64 n, .int .i64 m] 29)
      refine (rmay_any _ _ _ _ _).mono ?_
      rintro e w5 ⟨rfl, hb⟩
      replace F := (F.below hb).2
      replace C := C.below hb
      replace z := z.below hb
      replace L := L.trans (hb.mono L.size)
      clear hb
      obtain ⟨d0, d1, d2, d3⟩ := id C
      obtain ⟨z0, z1, z2, z3⟩ := id z
      go_wp2
      exact bodyPost_ret (v := .tuple #[.agg #[.int .i64 (x + p), .int .i64 (y + q), .int .i64 n, .int .i64 m], .int .i64 0]) (by simp [results, Try.results36, go_sem, d0, d1, d2, d3]) rfl ⟨rfl, set4_below L (by omega) _ _ _ _⟩

end Go.Proofs.Ytfknfcmabeahhaa
