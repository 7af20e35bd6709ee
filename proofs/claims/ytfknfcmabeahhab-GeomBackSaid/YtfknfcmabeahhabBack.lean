/-
  The walk of the statement GeomBack: it answers true; of what was there nothing turns.
-/
import Derived.Test.YtfknfcmabeahhabAl
import Derived.Test.YtfknfcmabeahhabW8
import Derived.Test.YtfknfcmabeahhabPlain4
namespace Go.Proofs.Ytfknfcmabeahhab
open Go.RowKit
attribute [local go_sem] ite_max ite_min

set_option maxHeartbeats 4000000 in
theorem back_walk (x y n m p q ux uy : Int) (w : World) (hx : I64 x) (hy : I64 y) (u1 : 0 ≤ ux) (u2 : ux ≤ 255) (u3 : 0 ≤ uy) (u4 : uy ≤ 255) :
    Calls Try.prog 3 #[.agg #[.int .i64 x, .int .i64 y, .int .i64 n, .int .i64 m], .agg #[.int .i64 p, .int .i64 q], .int .u8 ux, .int .u8 uy] w fun e w' => e = .returned (.bool true) ∧ Below w.heap.size w w' := by
  have hk := chk_ne x y n m
  have cs : mayB x y n m = false ∨ (mayB x y n m = true ∧ emptyB x y n m = true) ∨ (mayB x y n m = true ∧ emptyB x y n m = false) := by
    cases mayB x y n m <;> cases emptyB x y n m <;> simp
  rcases cs with h1 | ⟨h1, he⟩ | ⟨h1, he⟩
  · skip
    go_enter Try.func3, Try.ntmps3
    go_wp2_with fail
    refine (alive_any _).mono ?_
    rintro e w1 ⟨rfl, hb⟩
    have A := ((At4.new w x y n m 27).alloc _).below hb
    have B := (At2.new' (w.alloc _) (w.heap.size + 1) p q 23 (by simp)).below hb
    have L := (((Below.refl w.heap.size w).alloc (Nat.le_refl _) _).alloc (by simp) _).trans (hb.mono (by simp; omega))
    clear hb
    obtain ⟨a0, a1, a2, a3⟩ := id A
    obtain ⟨b0, b1⟩ := id B
    go_wp2_with fail
    clear a0 a1 a2 a3 b0 b1
    refine (check_any _ _ _ _ _ hx hy).mono ?_
    rintro e w2 ⟨rfl, hb⟩
    replace A := A.below hb
    replace B := B.below hb
    replace L := L.trans (hb.mono L.size)
    clear hb
    go_wp2
    go_ret
    exact ⟨rfl, L⟩
  · skip
    go_enter Try.func3, Try.ntmps3
    go_wp2_with fail
    refine (alive_any _).mono ?_
    rintro e w1 ⟨rfl, hb⟩
    have A := ((At4.new w x y n m 27).alloc _).below hb
    have B := (At2.new' (w.alloc _) (w.heap.size + 1) p q 23 (by simp)).below hb
    have L := (((Below.refl w.heap.size w).alloc (Nat.le_refl _) _).alloc (by simp) _).trans (hb.mono (by simp; omega))
    clear hb
    obtain ⟨a0, a1, a2, a3⟩ := id A
    obtain ⟨b0, b1⟩ := id B
    go_wp2_with fail
    clear a0 a1 a2 a3 b0 b1
    refine (check_any _ _ _ _ _ hx hy).mono ?_
    rintro e w2 ⟨rfl, hb⟩
    replace A := A.below hb
    replace B := B.below hb
    replace L := L.trans (hb.mono L.size)
    clear hb
    obtain ⟨a0, a1, a2, a3⟩ := id A
    obtain ⟨b0, b1⟩ := id B
    go_wp2_with fail
    clear a0 a1 a2 a3 b0 b1
    refine (empty_any _ _ _ _ _ hx hy).mono ?_
    rintro e w3 ⟨rfl, hb⟩
    replace A := A.below hb
    replace B := B.below hb
    replace L := L.trans (hb.mono L.size)
    clear hb
    go_wp2
    go_ret
    exact ⟨rfl, L⟩
  · obtain ⟨i1, i2, i3, i4, i5, i6⟩ := ins_in (k := max 0 (min p 16384)) he (by omega) (by omega)
    generalize hri : insR x y n m (max 0 (min p 16384)) = ri at *
    have hI : Hid (∀ w, Calls Try.prog 9 #[.agg #[.int .i64 x, .int .i64 y, .int .i64 n, .int .i64 m], .int .i64 (max 0 (min p 16384))] w fun e w' => e = .returned (.tuple #[.agg #[.int .i64 ri.x, .int .i64 ri.y, .int .i64 ri.w, .int .i64 ri.h], .int .i64 0]) ∧ Below w.heap.size w w') := fun w => by
      have := inset_any x y n m (max 0 (min p 16384)) w hx hy
      rw [i1, hri] at this
      exact this
    have hN : Hid (∀ w, Calls Try.prog 10 #[.agg #[.int .i64 ri.x, .int .i64 ri.y, .int .i64 ri.w, .int .i64 ri.h], .agg #[.int .i64 x, .int .i64 y, .int .i64 n, .int .i64 m]] w fun e w' => e = .returned (.bool true) ∧ Below w.heap.size w w') := fun w => by
      have := in_any ri.x ri.y ri.w ri.h x y n m w (i64_bd (by omega) (by omega)) (i64_bd (by omega) (by omega)) hx hy
      rw [i2] at this
      exact this
    have hA : Hid (∀ w, Calls Try.prog 8 #[.agg #[.int .i64 x, .int .i64 y, .int .i64 n, .int .i64 m], .agg #[.int .i64 n, .int .i64 m], .int .u8 (ux % 3), .int .u8 (uy % 3)] w fun e w' => e = .returned (.tuple #[.agg #[.int .i64 x, .int .i64 y, .int .i64 n, .int .i64 m], .int .i64 0]) ∧ Below w.heap.size w w') := fun w => by
      have := align_any x y n m n m (ux % 3) (uy % 3) w hx hy (by omega) (by omega)
      rw [(ali_self he (by omega) (by omega)).1, (ali_self he (by omega) (by omega)).2] at this
      exact this
    clear i1 i2 i3 i4 i5 i6 hri
    rcases mov_cases (p := p) (q := q) he with hv | ⟨hv, hw, b1, b2, b3, b4, b5, b6, b7, b8, hv2, hw2⟩
    · have hM : Hid (∀ w, Calls Try.prog 7 #[.agg #[.int .i64 x, .int .i64 y, .int .i64 n, .int .i64 m], .agg #[.int .i64 p, .int .i64 q]] w fun e w' => e = .returned (.tuple #[.agg #[.int .i64 (movR x y n m p q).x, .int .i64 (movR x y n m p q).y, .int .i64 (movR x y n m p q).w, .int .i64 (movR x y n m p q).h], .int .i64 9]) ∧ Below w.heap.size w w') := fun w => by
        have := moved_any x y n m p q w hx hy
        rw [hv] at this
        exact this
      clear hv
      generalize movR x y n m p q = rm at *
      go_enter Try.func3, Try.ntmps3
      go_wp2_with fail
      refine (alive_any _).mono ?_
      rintro e w1 ⟨rfl, hb⟩
      have A := ((At4.new w x y n m 27).alloc _).below hb
      have B := (At2.new' (w.alloc _) (w.heap.size + 1) p q 23 (by simp)).below hb
      have L := (((Below.refl w.heap.size w).alloc (Nat.le_refl _) _).alloc (by simp) _).trans (hb.mono (by simp; omega))
      clear hb
      obtain ⟨a0, a1, a2, a3⟩ := id A
      obtain ⟨b0, b1⟩ := id B
      go_wp2_with fail
      clear a0 a1 a2 a3 b0 b1
      refine (check_any _ _ _ _ _ hx hy).mono ?_
      rintro e w2 ⟨rfl, hb⟩
      replace A := A.below hb
      replace B := B.below hb
      replace L := L.trans (hb.mono L.size)
      clear hb
      obtain ⟨a0, a1, a2, a3⟩ := id A
      obtain ⟨b0, b1⟩ := id B
      go_wp2_with fail
      clear a0 a1 a2 a3 b0 b1
      refine (empty_any _ _ _ _ _ hx hy).mono ?_
      rintro e w3 ⟨rfl, hb⟩
      replace A := A.below hb
      replace B := B.below hb
      replace L := L.trans (hb.mono L.size)
      clear hb
      obtain ⟨a0, a1, a2, a3⟩ := id A
      obtain ⟨b0, b1⟩ := id B
      go_wp2_with fail
      clear a0 a1 a2 a3 b0 b1
      refine (hM.out _).mono ?_
      rintro e w4 ⟨rfl, hb⟩
      replace A := A.below hb
      replace B := B.below hb
      replace L := L.trans (hb.mono L.size)
      clear hb
      obtain ⟨a0, a1, a2, a3⟩ := id A
      obtain ⟨b0, b1⟩ := id B
      have la := A.lt
      have lb := B.lt
      go_wp2_with fail
      clear a0 a1 a2 a3 b0 b1
      clear la lb
      refine (hA.out _).mono ?_
      rintro e w5 ⟨rfl, hb⟩
      replace A := (A.alloc _).below hb
      replace B := (B.alloc _).below hb
      have D := (At4.new w4 rm.x rm.y rm.w rm.h 27).below hb
      replace L := (L.alloc L.size _).trans (hb.mono (by have := L.size; simp; omega))
      clear hb
      obtain ⟨a0, a1, a2, a3⟩ := id A
      obtain ⟨b0, b1⟩ := id B
      have la := A.lt
      have lb := B.lt
      go_wp2_with fail
      clear a0 a1 a2 a3 b0 b1
      clear la lb
      refine (hI.out _).mono ?_
      rintro e w6 ⟨rfl, hb⟩
      replace A := (A.alloc _).below hb
      replace B := (B.alloc _).below hb
      have S := (At4.new w5 x y n m 27).below hb
      replace L := (L.alloc L.size _).trans (hb.mono (by have := L.size; simp; omega))
      clear hb
      obtain ⟨a0, a1, a2, a3⟩ := id A
      obtain ⟨b0, b1⟩ := id B
      have la := A.lt
      have lb := B.lt
      have ls := S.lt
      obtain ⟨s0, s1, s2, s3⟩ := id S
      go_wp2_with fail
      clear a0 a1 a2 a3 b0 b1
      clear la lb ls
      clear s0 s1 s2 s3
      refine (hN.out _).mono ?_
      rintro e w7 ⟨rfl, hb⟩
      replace L := (L.alloc L.size _).trans (hb.mono (by have := L.size; simp; omega))
      clear hb
      go_wp2
      go_ret
      exact ⟨rfl, L⟩
    · have hM : Hid (∀ w, Calls Try.prog 7 #[.agg #[.int .i64 x, .int .i64 y, .int .i64 n, .int .i64 m], .agg #[.int .i64 p, .int .i64 q]] w fun e w' => e = .returned (.tuple #[.agg #[.int .i64 (x + p), .int .i64 (y + q), .int .i64 n, .int .i64 m], .int .i64 0]) ∧ Below w.heap.size w w') := fun w => by
        have := moved_any x y n m p q w hx hy
        rw [hv, hw] at this
        exact this
      have hK : Hid (∀ w, Calls Try.prog 7 #[.agg #[.int .i64 (x + p), .int .i64 (y + q), .int .i64 n, .int .i64 m], .agg #[.int .i64 (-p), .int .i64 (-q)]] w fun e w' => e = .returned (.tuple #[.agg #[.int .i64 x, .int .i64 y, .int .i64 n, .int .i64 m], .int .i64 0]) ∧ Below w.heap.size w w') := fun w => by
        have := moved_any (x + p) (y + q) n m (-p) (-q) w (i64_bd (by omega) (by omega)) (i64_bd (by omega) (by omega))
        rw [hv2, hw2] at this
        exact this
      clear hv hw hv2 hw2
      go_enter Try.func3, Try.ntmps3
      go_wp2_with fail
      refine (alive_any _).mono ?_
      rintro e w1 ⟨rfl, hb⟩
      have A := ((At4.new w x y n m 27).alloc _).below hb
      have B := (At2.new' (w.alloc _) (w.heap.size + 1) p q 23 (by simp)).below hb
      have L := (((Below.refl w.heap.size w).alloc (Nat.le_refl _) _).alloc (by simp) _).trans (hb.mono (by simp; omega))
      clear hb
      obtain ⟨a0, a1, a2, a3⟩ := id A
      obtain ⟨b0, b1⟩ := id B
      go_wp2_with fail
      clear a0 a1 a2 a3 b0 b1
      refine (check_any _ _ _ _ _ hx hy).mono ?_
      rintro e w2 ⟨rfl, hb⟩
      replace A := A.below hb
      replace B := B.below hb
      replace L := L.trans (hb.mono L.size)
      clear hb
      obtain ⟨a0, a1, a2, a3⟩ := id A
      obtain ⟨b0, b1⟩ := id B
      go_wp2_with fail
      clear a0 a1 a2 a3 b0 b1
      refine (empty_any _ _ _ _ _ hx hy).mono ?_
      rintro e w3 ⟨rfl, hb⟩
      replace A := A.below hb
      replace B := B.below hb
      replace L := L.trans (hb.mono L.size)
      clear hb
      obtain ⟨a0, a1, a2, a3⟩ := id A
      obtain ⟨b0, b1⟩ := id B
      go_wp2_with fail
      clear a0 a1 a2 a3 b0 b1
      refine (hM.out _).mono ?_
      rintro e w4 ⟨rfl, hb⟩
      replace A := A.below hb
      replace B := B.below hb
      replace L := L.trans (hb.mono L.size)
      clear hb
      obtain ⟨a0, a1, a2, a3⟩ := id A
      obtain ⟨b0, b1⟩ := id B
      have la := A.lt
      have lb := B.lt
      go_wp2_with fail
      clear a0 a1 a2 a3 b0 b1
      clear la lb
      refine (hK.out _).mono ?_
      rintro e w5 ⟨rfl, hb⟩
      replace A := (A.alloc _).below hb
      replace B := (B.alloc _).below hb
      have D := (At4.new w4 (x + p) (y + q) n m 27).below hb
      replace L := (L.alloc L.size _).trans (hb.mono (by have := L.size; simp; omega))
      clear hb
      have ld := D.lt
      obtain ⟨f0, f1, f2, f3⟩ := id D
      obtain ⟨a0, a1, a2, a3⟩ := id A
      obtain ⟨b0, b1⟩ := id B
      have la := A.lt
      have lb := B.lt
      go_wp2_with fail
      clear a0 a1 a2 a3 b0 b1
      clear f0 f1 f2 f3 ld
      clear la lb
      refine (hA.out _).mono ?_
      rintro e w6 ⟨rfl, hb⟩
      replace A := (A.alloc _).below hb
      replace B := (B.alloc _).below hb
      replace D := (D.alloc _).below hb
      have E := (At4.new w5 x y n m 27).below hb
      replace L := (L.alloc L.size _).trans (hb.mono (by have := L.size; simp; omega))
      clear hb
      obtain ⟨a0, a1, a2, a3⟩ := id A
      obtain ⟨b0, b1⟩ := id B
      have la := A.lt
      have lb := B.lt
      go_wp2_with fail
      clear a0 a1 a2 a3 b0 b1
      clear la lb
      refine (hI.out _).mono ?_
      rintro e w7 ⟨rfl, hb⟩
      replace A := (A.alloc _).below hb
      replace B := (B.alloc _).below hb
      have S := (At4.new w6 x y n m 27).below hb
      replace L := (L.alloc L.size _).trans (hb.mono (by have := L.size; simp; omega))
      clear hb
      obtain ⟨a0, a1, a2, a3⟩ := id A
      obtain ⟨b0, b1⟩ := id B
      have la := A.lt
      have lb := B.lt
      have ls := S.lt
      obtain ⟨s0, s1, s2, s3⟩ := id S
      go_wp2_with fail
      clear a0 a1 a2 a3 b0 b1
      clear la lb ls
      clear s0 s1 s2 s3
      refine (hN.out _).mono ?_
      rintro e w8 ⟨rfl, hb⟩
      replace L := (L.alloc L.size _).trans (hb.mono (by have := L.size; simp; omega))
      clear hb
      go_wp2
      go_ret
      exact ⟨rfl, L⟩

end Go.Proofs.Ytfknfcmabeahhab
