/-
  Contract of package geom: a size within a rectangle.
-/
import Derived.Test.YtfknfcmabeahhabW7
namespace Go.Proofs.Ytfknfcmabeahhab
open Go.RowKit

theorem beg_add (p r len u : Int) : p + begI 0 (r - len) 0 u = begI p r len u := by
  unfold begI
  split
  · simp
  · split <;> simp
theorem beg_bd (s u M : Int) (_hM : 0 ≤ M) (h1 : -M ≤ s) (h2 : s ≤ M) : -M ≤ begI 0 s 0 u ∧ begI 0 s 0 u ≤ M := by
  unfold begI
  split
  · omega
  · split <;> omega

set_option maxHeartbeats 2000000 in
theorem align_any (x y n m sw sh ux uy : Int) (w : World) (hx : I64 x) (hy : I64 y) (u1 : 0 ≤ ux) (u2 : 0 ≤ uy) :
    Calls Try.prog 8 #[.agg #[.int .i64 x, .int .i64 y, .int .i64 n, .int .i64 m], .agg #[.int .i64 sw, .int .i64 sh], .int .u8 ux, .int .u8 uy] w fun e w' => e = .returned (.tuple #[.agg #[.int .i64 (aliR x y n m sw sh ux uy).x, .int .i64 (aliR x y n m sw sh ux uy).y, .int .i64 (aliR x y n m sw sh ux uy).w, .int .i64 (aliR x y n m sw sh ux uy).h], .int .i64 (aliE x y n m sw sh ux uy)]) ∧ Below w.heap.size w w' := by
  have hk := chk_ne x y n m
  cases h1 : mayB x y n m
  · rw [show aliR x y n m sw sh ux uy = zr by simp [aliR, h1], show aliE x y n m sw sh ux uy = 5 by simp [aliE, h1]]
    go_enter Try.func8, Try.ntmps8
    go_wp2_with fail
    refine (check_any _ _ _ _ _ hx hy).mono ?_
    rintro e w1 ⟨rfl, hb⟩
    have F := (fr2 w _ _ _ _).below hb
    have C := (At4.new' ((w.alloc _).alloc _) (w.heap.size + 1 + 1) 0 0 0 0 27 (by simp)).below hb
    have A := (((At4.new w x y n m 27).alloc _).alloc _).below hb
    have B := ((At2.new' (w.alloc _) (w.heap.size + 1) sw sh 25 (by simp)).alloc _).below hb
    have L := ((((Below.refl w.heap.size w).alloc (Nat.le_refl _) _).alloc (by simp) _).alloc (by simp; omega) _).trans (hb.mono (by simp; omega))
    clear hb
    replace F := F.2
    obtain ⟨d0, d1, d2, d3⟩ := id C
    obtain ⟨f0, f1⟩ := id B
    go_wp2_with (go_at_call 16; refine (within_any _ _ _ _).mono ?_; rintro e w' ⟨rfl, rfl⟩)
    exact bodyPost_ret (v := .tuple #[.agg #[.int .i64 0, .int .i64 0, .int .i64 0, .int .i64 0], .int .i64 5]) (by simp [results, Try.results8, go_sem, d0, d1, d2, d3]) rfl ⟨rfl, set4_below L (by omega) _ _ _ _⟩
  rcases chain4 (witB sw 0 32768) (witB sh 0 32768) (!decide (2 < ux)) (!decide (2 < uy)) with k1 | ⟨k1, k2⟩ | ⟨k1, k2, k3⟩ | ⟨k1, k2, k3, k4⟩ | ⟨k1, k2, k3, k4⟩
  iterate 4
    · have hB : aliB sw sh ux uy = false := by simp only [aliB, *]; simp
      rw [show aliR x y n m sw sh ux uy = zr by simp [aliR, hB], show aliE x y n m sw sh ux uy = 2 by simp [aliE, h1, hB]]
      clear hB
      try replace k3 : decide (2 < ux) = false := by simpa using k3
      try replace k3 : decide (2 < ux) = true := by simpa using k3
      try replace k4 : decide (2 < uy) = true := by simpa using k4
      go_enter Try.func8, Try.ntmps8
      go_wp2_with fail
      refine (check_any _ _ _ _ _ hx hy).mono ?_
      rintro e w1 ⟨rfl, hb⟩
      have F := (fr2 w _ _ _ _).below hb
      have C := (At4.new' ((w.alloc _).alloc _) (w.heap.size + 1 + 1) 0 0 0 0 27 (by simp)).below hb
      have A := (((At4.new w x y n m 27).alloc _).alloc _).below hb
      have B := ((At2.new' (w.alloc _) (w.heap.size + 1) sw sh 25 (by simp)).alloc _).below hb
      have L := ((((Below.refl w.heap.size w).alloc (Nat.le_refl _) _).alloc (by simp) _).alloc (by simp; omega) _).trans (hb.mono (by simp; omega))
      clear hb
      replace F := F.2
      obtain ⟨d0, d1, d2, d3⟩ := id C
      obtain ⟨f0, f1⟩ := id B
      go_wp2_with (go_at_call 16; refine (within_any _ _ _ _).mono ?_; rintro e w' ⟨rfl, rfl⟩)
      exact bodyPost_ret (v := .tuple #[.agg #[.int .i64 0, .int .i64 0, .int .i64 0, .int .i64 0], .int .i64 2]) (by simp [results, Try.results8, go_sem, d0, d1, d2, d3]) rfl ⟨rfl, set4_below L (by omega) _ _ _ _⟩
  · have hB : aliB sw sh ux uy = true := by simp only [aliB, *]; simp
    have k3 : decide (2 < ux) = false := by simpa using k3
    have k4 : decide (2 < uy) = false := by simpa using k4
    have cs : (sw == 0) = true ∨ ((sw == 0) = false ∧ (sh == 0) = true) ∨ ((sw == 0) = false ∧ (sh == 0) = false) := by cases (sw == 0) <;> cases (sh == 0) <;> simp
    rcases cs with c1 | ⟨c1, c2⟩ | ⟨c1, c2⟩
    iterate 2
      · rw [show aliR x y n m sw sh ux uy = zr by simp only [aliR, *]; simp, show aliE x y n m sw sh ux uy = 0 by simp only [aliE, *]; simp]
        clear hB
        go_enter Try.func8, Try.ntmps8
        go_wp2_with fail
        refine (check_any _ _ _ _ _ hx hy).mono ?_
        rintro e w1 ⟨rfl, hb⟩
        have F := (fr2 w _ _ _ _).below hb
        have C := (At4.new' ((w.alloc _).alloc _) (w.heap.size + 1 + 1) 0 0 0 0 27 (by simp)).below hb
        have A := (((At4.new w x y n m 27).alloc _).alloc _).below hb
        have B := ((At2.new' (w.alloc _) (w.heap.size + 1) sw sh 25 (by simp)).alloc _).below hb
        have L := ((((Below.refl w.heap.size w).alloc (Nat.le_refl _) _).alloc (by simp) _).alloc (by simp; omega) _).trans (hb.mono (by simp; omega))
        clear hb
        replace F := F.2
        obtain ⟨d0, d1, d2, d3⟩ := id C
        obtain ⟨f0, f1⟩ := id B
        go_wp2_with (go_at_call 16; refine (within_any _ _ _ _).mono ?_; rintro e w' ⟨rfl, rfl⟩)
        exact bodyPost_ret (v := .tuple #[.agg #[.int .i64 0, .int .i64 0, .int .i64 0, .int .i64 0], .int .i64 0]) (by simp [results, Try.results8, go_sem, d0, d1, d2, d3]) rfl ⟨rfl, set4_below L (by omega) _ _ _ _⟩
    · rw [show aliR x y n m sw sh ux uy = szR (aliO x y n m sw sh ux uy) by simp only [aliR, *]; simp, show aliE x y n m sw sh ux uy = szE (aliO x y n m sw sh ux uy) by simp only [aliE, *]; simp]
      clear hB
      obtain ⟨b1, b2, b3, b4, b5, b6, b7, b8⟩ := may_bd h1
      obtain ⟨s1, s2⟩ := wit_iff.1 k1
      obtain ⟨s3, s4⟩ := wit_iff.1 k2
      have x3 : ux ≤ 2 := by simpa using k3
      have x4 : uy ≤ 2 := by simpa using k4
      obtain ⟨g1, g2⟩ := beg_bd (n - sw) ux 100000 (by omega) (by omega) (by omega)
      obtain ⟨g3, g4⟩ := beg_bd (m - sh) uy 100000 (by omega) (by omega) (by omega)
      unfold aliO
      rw [← beg_add x n sw ux, ← beg_add y m sh uy]
      go_enter Try.func8, Try.ntmps8
      go_wp2_with fail
      refine (check_any _ _ _ _ _ hx hy).mono ?_
      rintro e w1 ⟨rfl, hb⟩
      have F := (fr2 w _ _ _ _).below hb
      have C := (At4.new' ((w.alloc _).alloc _) (w.heap.size + 1 + 1) 0 0 0 0 27 (by simp)).below hb
      have A := (((At4.new w x y n m 27).alloc _).alloc _).below hb
      have B := ((At2.new' (w.alloc _) (w.heap.size + 1) sw sh 25 (by simp)).alloc _).below hb
      have L := ((((Below.refl w.heap.size w).alloc (Nat.le_refl _) _).alloc (by simp) _).alloc (by simp; omega) _).trans (hb.mono (by simp; omega))
      clear hb
      obtain ⟨f0, f1⟩ := id B
      go_wp2_with (go_at_call 16; refine (within_any _ _ _ _).mono ?_; rintro e w' ⟨rfl, rfl⟩)
      clear f0 f1
      have HL : Hid (At4 w' w.heap.size x y n m ∧ At2 w' (w.heap.size + 1) sw sh ∧ At4 w' (w.heap.size + 1 + 1) 0 0 0 0 ∧ Fr w' (w.heap.size + 1 + 1) ∧ Below w.heap.size w w') := ⟨A, B, C, F, L⟩
      clear A B C F L hk h1 k1 k2 k3 k4 c1 c2 hx hy
      refine wp_region_lit 25 1 1 (fun _ => .cells #[.int .i64 0, .int .i64 0] 23) [10] (by kernel_rfl) (by kernel_rfl) rfl ?_ rfl ?_ ?_
      · intro k hk
        have hc : k = 0 := by omega
        subst hc; rfl
      · intro i h1 h2
        have hc : i = 25 := by omega
        subst hc
        exact ⟨_, rfl, rfl, fun _ _ => rfl⟩
      apply Exists.intro
      refine ⟨fun bs ne => ?_, ?_⟩
      · obtain ⟨A, B, _⟩ := HL.out
        have d0 := fun t : Gb w' bs => (A.below t.below).1
        have d1 := fun t : Gb w' bs => (A.below t.below).2.1
        have d2 := fun t : Gb w' bs => (A.below t.below).2.2.1
        have d3 := fun t : Gb w' bs => (A.below t.below).2.2.2
        have e0 := fun t : Gb w' bs => (B.below t.below).1
        have e1 := fun t : Gb w' bs => (B.below t.below).2
        clear A B
        simp only [List.take_succ_cons, List.take_zero]
        repeat (go_big_quiet_step (first | (go_at_call 18; exact gb_same (ahead_any _ _ _ (by assumption) (by assumption)))))
        exact wpQuiet_nil rfl
      · intro bl wr hb hlo hinj
        obtain ⟨q1, q2⟩ := hlo 25 (by omega) (by omega)
        obtain ⟨v1, v2, v3⟩ := heap_cells q2
        simp only [layL, ptr]
        generalize bl 25 = g at *
        clear hlo hinj q2
        obtain ⟨A, B, C, F, L⟩ := HL.out
        have lc0 := C.lt
        have lb0 := B.lt
        replace B := B.below hb
        replace C := C.below hb
        replace F := F.below hb
        replace L := L.trans (hb.mono L.size)
        have z : At2 wr g 0 0 := ⟨by rw [v1]; rfl, by rw [v1]; rfl⟩
        refine wpAny_one 26 (by kernel_rfl) rfl ?_
        intro K hK
        go_simp
        refine hK _ _ ?_
        clear hK K
        refine wpAny_done (by kernel_rfl) ?_ _
        replace B := (B.set (p := ⟨g, 0, none⟩) (.int .i64 (x + begI 0 (n - sw) 0 ux)) (by show g ≠ _; omega)).set (p := ⟨g, 1, none⟩) (.int .i64 (y + begI 0 (m - sh) 0 uy)) (by show g ≠ _; omega)
        replace C := (C.set (p := ⟨g, 0, none⟩) (.int .i64 (x + begI 0 (n - sw) 0 ux)) (by show g ≠ _; omega)).set (p := ⟨g, 1, none⟩) (.int .i64 (y + begI 0 (m - sh) 0 uy)) (by show g ≠ _; omega)
        replace F := (F.set ⟨g, 0, none⟩ (.int .i64 (x + begI 0 (n - sw) 0 ux))).set ⟨g, 1, none⟩ (.int .i64 (y + begI 0 (m - sh) 0 uy))
        replace L := (L.setCell (p := ⟨g, 0, none⟩) (by show _ ≤ g; omega) (.int .i64 (x + begI 0 (n - sw) 0 ux))).setCell (p := ⟨g, 1, none⟩) (by show _ ≤ g; omega) (.int .i64 (y + begI 0 (m - sh) 0 uy))
        replace z := z.put (x + begI 0 (n - sw) 0 ux) (y + begI 0 (m - sh) 0 uy)
        generalize (wr.setCell ⟨g, 0, none⟩ (.int .i64 (x + begI 0 (n - sw) 0 ux))).setCell ⟨g, 1, none⟩ (.int .i64 (y + begI 0 (m - sh) 0 uy)) = wz at *
        clear v1 v2 v3 A HL hb
        obtain ⟨e0, e1⟩ := id B
        obtain ⟨z0, z1⟩ := id z
        go_wp2_with fail
        refine (sized_any _ _ _ _ _ (i64_bd (by omega) (by omega)) (i64_bd (by omega) (by omega))).mono ?_
        rintro e w5 ⟨rfl, hb⟩
        replace F := (F.below hb).2
        replace C := C.below hb
        replace L := L.trans (hb.mono L.size)
        clear B z hb e0 e1 z0 z1
        obtain ⟨d0, d1, d2, d3⟩ := id C
        go_wp2
        exact bodyPost_ret (v := .tuple #[.agg #[.int .i64 _, .int .i64 _, .int .i64 _, .int .i64 _], .int .i64 _]) (by simp [results, Try.results8, go_sem, d0, d1, d2, d3]) rfl ⟨rfl, set4_below L (by omega) _ _ _ _⟩

end Go.Proofs.Ytfknfcmabeahhab
