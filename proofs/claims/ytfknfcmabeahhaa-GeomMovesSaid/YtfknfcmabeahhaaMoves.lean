/-
  The walk of the statement GeomMoves: it answers true; of what was there nothing turns.
-/
import Derived.Test.YtfknfcmabeahhaaW11
namespace Go.Proofs.Ytfknfcmabeahhaa
open Go.RowKit

set_option maxHeartbeats 2000000 in
theorem moves_walk (x y n m p q sw sh ux uy : Int) (w : World) (hx : I64 x) (hy : I64 y) (u1 : 0 ≤ ux) (u2 : 0 ≤ uy) :
    Calls Try.prog 6 #[.agg #[.int .i64 x, .int .i64 y, .int .i64 n, .int .i64 m], .agg #[.int .i64 p, .int .i64 q], .agg #[.int .i64 sw, .int .i64 sh], .int .u8 ux, .int .u8 uy] w fun e w' => e = .returned (.bool true) ∧ Below w.heap.size w w' := by
  have hI : Hid (∀ w, Calls Try.prog 17 #[.agg #[.int .i64 x, .int .i64 y, .int .i64 n, .int .i64 m], .int .i64 p] w fun e w' => e = .returned (.tuple #[.agg #[.int .i64 (insR x y n m p).x, .int .i64 (insR x y n m p).y, .int .i64 (insR x y n m p).w, .int .i64 (insR x y n m p).h], .int .i64 (insE x y n m p)]) ∧ Below w.heap.size w w') := fun w => inset_any _ _ _ _ _ _ hx hy
  have hJ : Hid (∀ w, Calls Try.prog 35 #[.agg #[.int .i64 x, .int .i64 y, .int .i64 n, .int .i64 m], .int .i64 p] w fun e w' => e = .returned (.tuple #[.agg #[.int .i64 (insR x y n m p).x, .int .i64 (insR x y n m p).y, .int .i64 (insR x y n m p).w, .int .i64 (insR x y n m p).h], .int .i64 (insE x y n m p)]) ∧ Below w.heap.size w w') := fun w => rinset_any _ _ _ _ _ _
  have hM : Hid (∀ w, Calls Try.prog 18 #[.agg #[.int .i64 x, .int .i64 y, .int .i64 n, .int .i64 m], .agg #[.int .i64 p, .int .i64 q]] w fun e w' => e = .returned (.tuple #[.agg #[.int .i64 (movR x y n m p q).x, .int .i64 (movR x y n m p q).y, .int .i64 (movR x y n m p q).w, .int .i64 (movR x y n m p q).h], .int .i64 (movE x y n m p q)]) ∧ Below w.heap.size w w') := fun w => moved_any _ _ _ _ _ _ _ hx hy
  have hN : Hid (∀ w, Calls Try.prog 36 #[.agg #[.int .i64 x, .int .i64 y, .int .i64 n, .int .i64 m], .agg #[.int .i64 p, .int .i64 q]] w fun e w' => e = .returned (.tuple #[.agg #[.int .i64 (movR x y n m p q).x, .int .i64 (movR x y n m p q).y, .int .i64 (movR x y n m p q).w, .int .i64 (movR x y n m p q).h], .int .i64 (movE x y n m p q)]) ∧ Below w.heap.size w w') := fun w => rmoved_any _ _ _ _ _ _ _
  have hA : Hid (∀ w, Calls Try.prog 19 #[.agg #[.int .i64 x, .int .i64 y, .int .i64 n, .int .i64 m], .agg #[.int .i64 sw, .int .i64 sh], .int .u8 ux, .int .u8 uy] w fun e w' => e = .returned (.tuple #[.agg #[.int .i64 (aliR x y n m sw sh ux uy).x, .int .i64 (aliR x y n m sw sh ux uy).y, .int .i64 (aliR x y n m sw sh ux uy).w, .int .i64 (aliR x y n m sw sh ux uy).h], .int .i64 (aliE x y n m sw sh ux uy)]) ∧ Below w.heap.size w w') := fun w => align_any _ _ _ _ _ _ _ _ _ hx hy u1 u2
  have hB : Hid (∀ w, Calls Try.prog 37 #[.agg #[.int .i64 x, .int .i64 y, .int .i64 n, .int .i64 m], .agg #[.int .i64 sw, .int .i64 sh], .int .u8 ux, .int .u8 uy] w fun e w' => e = .returned (.tuple #[.agg #[.int .i64 (aliR x y n m sw sh ux uy).x, .int .i64 (aliR x y n m sw sh ux uy).y, .int .i64 (aliR x y n m sw sh ux uy).w, .int .i64 (aliR x y n m sw sh ux uy).h], .int .i64 (aliE x y n m sw sh ux uy)]) ∧ Below w.heap.size w w') := fun w => ralign_any _ _ _ _ _ _ _ _ _ u1 u2
  generalize insR x y n m p = r1 at *
  generalize insE x y n m p = e1 at *
  generalize movR x y n m p q = r2 at *
  generalize movE x y n m p q = e2 at *
  generalize aliR x y n m sw sh ux uy = r3 at *
  generalize aliE x y n m sw sh ux uy = e3 at *
  clear hx hy u1 u2
  go_enter Try.func6, Try.ntmps6
  go_wp2_with fail
  refine (hI.out _).mono ?_
  rintro e w1 ⟨rfl, hb⟩
  have A := (((At4.new w x y n m 29).alloc _).alloc _).below hb
  have B := ((At2.new' (w.alloc _) (w.heap.size + 1) p q 25 (by simp)).alloc _).below hb
  have S := (At2.new' ((w.alloc _).alloc _) (w.heap.size + 1 + 1) sw sh 27 (by simp)).below hb
  have L := ((((Below.refl w.heap.size w).alloc (Nat.le_refl _) _).alloc (by simp) _).alloc (by simp; omega) _).trans (hb.mono (by simp; omega))
  clear hb
  have la := A.lt
  have lb := B.lt
  have lc := S.lt
  obtain ⟨a0, a1, a2, a3⟩ := id A
  obtain ⟨b0, b1⟩ := id B
  obtain ⟨s0, s1⟩ := id S
  go_wp2_with fail
  clear a0 a1 a2 a3 b0 b1 s0 s1 la lb lc
  refine (hJ.out _).mono ?_
  rintro e w2 ⟨rfl, hb⟩
  replace A := (A.alloc _).below hb
  replace B := (B.alloc _).below hb
  replace S := (S.alloc _).below hb
  have D1 := (At4.new w1 r1.x r1.y r1.w r1.h 29).below hb
  replace L := (L.alloc L.size _).trans (hb.mono (by have := L.size; simp; omega))
  clear hb
  have la := A.lt
  have lb := B.lt
  have lc := S.lt
  obtain ⟨a0, a1, a2, a3⟩ := id A
  obtain ⟨b0, b1⟩ := id B
  obtain ⟨s0, s1⟩ := id S
  go_wp2_with fail
  clear a0 a1 a2 a3 b0 b1 s0 s1 la lb lc
  refine (hM.out _).mono ?_
  rintro e w3 ⟨rfl, hb⟩
  replace A := (A.alloc _).below hb
  replace B := (B.alloc _).below hb
  replace S := (S.alloc _).below hb
  replace D1 := (D1.alloc _).below hb
  have D2 := (At4.new w2 r1.x r1.y r1.w r1.h 29).below hb
  replace L := (L.alloc L.size _).trans (hb.mono (by have := L.size; simp; omega))
  clear hb
  have la := A.lt
  have lb := B.lt
  have lc := S.lt
  obtain ⟨a0, a1, a2, a3⟩ := id A
  obtain ⟨b0, b1⟩ := id B
  obtain ⟨s0, s1⟩ := id S
  go_wp2_with fail
  clear a0 a1 a2 a3 b0 b1 s0 s1 la lb lc
  refine (hN.out _).mono ?_
  rintro e w4 ⟨rfl, hb⟩
  replace A := (A.alloc _).below hb
  replace B := (B.alloc _).below hb
  replace S := (S.alloc _).below hb
  replace D1 := (D1.alloc _).below hb
  replace D2 := (D2.alloc _).below hb
  have D3 := (At4.new w3 r2.x r2.y r2.w r2.h 29).below hb
  replace L := (L.alloc L.size _).trans (hb.mono (by have := L.size; simp; omega))
  clear hb
  have la := A.lt
  have lb := B.lt
  have lc := S.lt
  obtain ⟨a0, a1, a2, a3⟩ := id A
  obtain ⟨b0, b1⟩ := id B
  obtain ⟨s0, s1⟩ := id S
  go_wp2_with fail
  clear a0 a1 a2 a3 b0 b1 s0 s1 la lb lc
  refine (hA.out _).mono ?_
  rintro e w5 ⟨rfl, hb⟩
  replace A := (A.alloc _).below hb
  replace B := (B.alloc _).below hb
  replace S := (S.alloc _).below hb
  replace D1 := (D1.alloc _).below hb
  replace D2 := (D2.alloc _).below hb
  replace D3 := (D3.alloc _).below hb
  have D4 := (At4.new w4 r2.x r2.y r2.w r2.h 29).below hb
  replace L := (L.alloc L.size _).trans (hb.mono (by have := L.size; simp; omega))
  clear hb
  have la := A.lt
  have lb := B.lt
  have lc := S.lt
  obtain ⟨a0, a1, a2, a3⟩ := id A
  obtain ⟨b0, b1⟩ := id B
  obtain ⟨s0, s1⟩ := id S
  go_wp2_with fail
  clear a0 a1 a2 a3 b0 b1 s0 s1 la lb lc
  refine (hB.out _).mono ?_
  rintro e w6 ⟨rfl, hb⟩
  replace A := (A.alloc _).below hb
  replace B := (B.alloc _).below hb
  replace S := (S.alloc _).below hb
  replace D1 := (D1.alloc _).below hb
  replace D2 := (D2.alloc _).below hb
  replace D3 := (D3.alloc _).below hb
  replace D4 := (D4.alloc _).below hb
  have D5 := (At4.new w5 r3.x r3.y r3.w r3.h 29).below hb
  replace L := (L.alloc L.size _).trans (hb.mono (by have := L.size; simp; omega))
  clear hb
  have l0 := D1.lt
  obtain ⟨d00, d01, d02, d03⟩ := id D1
  have l1 := D2.lt
  obtain ⟨d10, d11, d12, d13⟩ := id D2
  have l2 := D3.lt
  obtain ⟨d20, d21, d22, d23⟩ := id D3
  have l3 := D4.lt
  obtain ⟨d30, d31, d32, d33⟩ := id D4
  have l4 := D5.lt
  obtain ⟨d40, d41, d42, d43⟩ := id D5
  clear A B S D1 D2 D3 D4 D5 hI hJ hM hN hA hB
  go_wp2
  go_ret
  exact ⟨rfl, L.alloc L.size _⟩

end Go.Proofs.Ytfknfcmabeahhaa
