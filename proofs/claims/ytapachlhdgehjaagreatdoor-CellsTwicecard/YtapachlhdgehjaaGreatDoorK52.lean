/-
  Texts of this claim, one behind the other: what each is about stands ahead of it.
-/
import Derived.Test.YtapachlhdgehjaaGreatDoorK51
/-
  Package cells: how a teller writes: colours, cell, full.
-/
namespace Go.Proofs.YtapachlhdgehjaaGreatDoor
open Go.RowKit Go.Shelf Go.Lib

theorem col_at {W : World} {sb : Nat} {c : Ce} (h : Bk W sb (#[.int .i32 c.r, .int .u8 c.c.r, .int .u8 c.c.g, .int .u8 c.c.b, .int .u8 c.c.a, .int .u8 c.b.r, .int .u8 c.b.g, .int .u8 c.b.b, .int .u8 c.b.a, .bool c.wd, .bool c.tl]) 65) : W.cell? ⟨sb, 1, none⟩ = some (.int .u8 c.c.r) ∧ W.cell? ⟨sb, 2, none⟩ = some (.int .u8 c.c.g) ∧ W.cell? ⟨sb, 3, none⟩ = some (.int .u8 c.c.b) ∧ W.cell? ⟨sb, 4, none⟩ = some (.int .u8 c.c.a) ∧ W.cell? ⟨sb, 5, none⟩ = some (.int .u8 c.b.r) ∧ W.cell? ⟨sb, 6, none⟩ = some (.int .u8 c.b.g) ∧ W.cell? ⟨sb, 7, none⟩ = some (.int .u8 c.b.b) ∧ W.cell? ⟨sb, 8, none⟩ = some (.int .u8 c.b.a) := ⟨h.cell 1, h.cell 2, h.cell 3, h.cell 4, h.cell 5, h.cell 6, h.cell 7, h.cell 8⟩
theorem tel_at {B b : Nat} {bs : List Value} {w : World} {c k : Co} (h : IsBd 100 (rsT c k) B b bs w) : (w.cell? ⟨b, 2, none⟩ = some (.int .u8 c.r) ∧ w.cell? ⟨b, 3, none⟩ = some (.int .u8 c.g) ∧ w.cell? ⟨b, 4, none⟩ = some (.int .u8 c.b) ∧ w.cell? ⟨b, 5, none⟩ = some (.int .u8 c.a) ∧ w.cell? ⟨b, 6, none⟩ = some (.int .u8 k.r) ∧ w.cell? ⟨b, 7, none⟩ = some (.int .u8 k.g) ∧ w.cell? ⟨b, 8, none⟩ = some (.int .u8 k.b) ∧ w.cell? ⟨b, 9, none⟩ = some (.int .u8 k.a)) ∧ (w.frozen? ⟨b, 2, none⟩ = false ∧ w.frozen? ⟨b, 3, none⟩ = false ∧ w.frozen? ⟨b, 4, none⟩ = false ∧ w.frozen? ⟨b, 5, none⟩ = false ∧ w.frozen? ⟨b, 6, none⟩ = false ∧ w.frozen? ⟨b, 7, none⟩ = false ∧ w.frozen? ⟨b, 8, none⟩ = false ∧ w.frozen? ⟨b, 9, none⟩ = false) :=
  ⟨⟨(h.at 0).1, (h.at 1).1, (h.at 2).1, (h.at 3).1, (h.at 4).1, (h.at 5).1, (h.at 6).1, (h.at 7).1⟩, (h.at 0).2, (h.at 1).2, (h.at 2).2, (h.at 3).2, (h.at 4).2, (h.at 5).2, (h.at 6).2, (h.at 7).2⟩

set_option maxRecDepth 20000 in
set_option maxHeartbeats 8000000 in
theorem colours_any (B b : Nat) (xs : List UInt8) (s k : Co) (c : Ce) (w : World) (hI : IsBd 100 (rsT s k) B b (Lib.byteCells xs) w) (hB : B ≤ w.heap.size) (h1 : c.c.ok) (h2 : c.b.ok) (hx : xs.length ≤ 99999000) (P : PwC B w) :
    Calls Tryz.prog 117 #[.pointer (some ⟨b, 0, none⟩), (Value.agg #[.int .i32 c.r, .int .u8 c.c.r, .int .u8 c.c.g, .int .u8 c.c.b, .int .u8 c.c.a, .int .u8 c.b.r, .int .u8 c.b.g, .int .u8 c.b.b, .int .u8 c.b.a, .bool c.wd, .bool c.tl])] w fun e w' => e = .returned (.tuple #[]) ∧ TlW B b (c.c, c.b) (xs ++ colB (s, k) c) w w' := by
  have hb := hI.lt
  have H0 : Hid (∀ W, W = w.alloc (.cells (#[.int .i32 c.r, .int .u8 c.c.r, .int .u8 c.c.g, .int .u8 c.c.b, .int .u8 c.c.a, .int .u8 c.b.r, .int .u8 c.b.g, .int .u8 c.b.b, .int .u8 c.b.a, .bool c.wd, .bool c.tl]) 65) → TlW B b (s, k) xs w W ∧ Bk W w.heap.size (#[.int .i32 c.r, .int .u8 c.c.r, .int .u8 c.c.g, .int .u8 c.c.b, .int .u8 c.c.a, .int .u8 c.b.r, .int .u8 c.b.g, .int .u8 c.b.b, .int .u8 c.b.a, .bool c.wd, .bool c.tl]) 65 ∧ b < w.heap.size) := fun W hW => by
    subst hW
    exact ⟨⟨hI.below ((Below.refl _ _).alloc (Nat.le_refl _) _), KpD.of_below hB ((Below.refl _ _).alloc (Nat.le_refl _) _), by simp; omega⟩, Bk.new _ _ _, hb.2⟩
  have HPt : Hid (∀ (s k : Co) (ys : List UInt8) (of : Int) (d : Co) W, TlW B b (s, k) ys w W → d.ok → 0 ≤ of → of ≤ 255 → ys.length ≤ 100000000 → Calls Tryz.prog 151 #[.pointer (some ⟨b, 0, none⟩), .int .i64 of, (Value.agg #[.int .u8 d.r, .int .u8 d.g, .int .u8 d.b, .int .u8 d.a])] W fun e w' => e = .returned (.tuple #[]) ∧ TlW B b (s, k) (ys ++ pntB of d) w w' ∧ KpD B b W w') := fun s k ys of d W hW hd q1 q2 q3 => by
    refine (paint_any (rsT s k) (tel_tyh s k) B b ys of d W hW.bd hW.lo hd q1 q2 q3 (P.on hW.kp.bw)).mono ?_
    rintro e w' ⟨rfl, k1, k2⟩
    exact ⟨rfl, ⟨k1, hW.kp.trans k2, Nat.le_trans hW.lo k2.bw.size⟩, k2⟩
  have hBb : Hid (B ≤ b) := hb.1
  have HO : Hid (c.c.ok ∧ c.b.ok) := ⟨h1, h2⟩
  have HX : Hid (xs.length ≤ 99999000) := hx
  have HCb : Hid (colB (s, k) c = (if eqK c.c s = true then [] else pntB 38 c.c) ++ (if eqK c.b k = true then [] else pntB 48 c.b)) := rfl
  have n1 := neq_col c.c s
  have n2 := neq_col c.b k
  have HE1 : Hid (eqK c.c s = true → c.c = s) := eqK_eq
  have HE2 : Hid (eqK c.b k = true → c.b = k) := eqK_eq
  have HPl : Hid ((pntB 38 c.c).length ≤ 134) := pntB_len 38 c.c h1 (by decide) (by decide)
  obtain ⟨Z, hZ⟩ : ∃ Z, Z = colB (s, k) c := ⟨_, rfl⟩
  rw [← hZ] at HCb ⊢
  clear hI hB h1 h2 hx P hb hZ
  generalize hq1 : eqK c.c s = q1 at *
  generalize hq2 : eqK c.b k = q2 at *
  clear hq1 hq2
  go_enter Tryz.func117, Tryz.ntmps117
  go_wp2_with fail
  obtain ⟨W1, hW1⟩ : ∃ W1, W1 = w.alloc (.cells (#[.int .i32 c.r, .int .u8 c.c.r, .int .u8 c.c.g, .int .u8 c.c.b, .int .u8 c.c.a, .int .u8 c.b.r, .int .u8 c.b.g, .int .u8 c.b.b, .int .u8 c.b.a, .bool c.wd, .bool c.tl]) 65) := ⟨_, rfl⟩
  obtain ⟨sb, hsb⟩ : ∃ sb, sb = w.heap.size := ⟨_, rfl⟩
  have H1 : Hid (TlW B b (s, k) xs w W1 ∧ Bk W1 sb (#[.int .i32 c.r, .int .u8 c.c.r, .int .u8 c.c.g, .int .u8 c.c.b, .int .u8 c.c.a, .int .u8 c.b.r, .int .u8 c.b.g, .int .u8 c.b.b, .int .u8 c.b.a, .bool c.wd, .bool c.tl]) 65 ∧ b < sb) := by rw [hsb]; exact H0.out W1 hW1
  rw [← hW1, ← hsb]
  clear hW1 hsb H0
  obtain ⟨⟨t2, t3, t4, t5, _⟩, f2, f3, f4, f5, _⟩ := tel_at H1.out.1.bd
  obtain ⟨c1, c2, c3, c4, _⟩ := col_at H1.out.2.1
  cases q1
  · simp only [Bool.not_false] at n1
    go_wp2_with fail
    go_quiet (fail)
    have H1' : Hid (TlW B b (s, k) xs w (W1.drewN nq) ∧ Bk (W1.drewN nq) sb (#[.int .i32 c.r, .int .u8 c.c.r, .int .u8 c.c.g, .int .u8 c.c.b, .int .u8 c.c.a, .int .u8 c.b.r, .int .u8 c.b.g, .int .u8 c.b.b, .int .u8 c.b.a, .bool c.wd, .bool c.tl]) 65 ∧ b < sb) := ⟨H1.out.1.bel (below_drewN (Below.refl _ _)), H1.out.2.1.below (below_drewN (Below.refl _ _)), H1.out.2.2⟩
    generalize W1.drewN nq = W2 at *
    clear H1 t2 t3 t4 t5 f2 f3 f4 f5 c1 c2 c3 c4 n1 HE1
    obtain ⟨⟨t2, t3, t4, t5, _⟩, f2, f3, f4, f5, _⟩ := tel_at H1'.out.1.bd
    obtain ⟨c1, c2, c3, c4, _⟩ := col_at H1'.out.2.1
    have H3 : Hid (∀ W, W = (((W2.setCell ⟨b, 2, none⟩ (.int .u8 c.c.r)).setCell ⟨b, 3, none⟩ (.int .u8 c.c.g)).setCell ⟨b, 4, none⟩ (.int .u8 c.c.b)).setCell ⟨b, 5, none⟩ (.int .u8 c.c.a) → TlW B b (c.c, k) xs w W ∧ Bk W sb (#[.int .i32 c.r, .int .u8 c.c.r, .int .u8 c.c.g, .int .u8 c.c.b, .int .u8 c.c.a, .int .u8 c.b.r, .int .u8 c.b.g, .int .u8 c.b.b, .int .u8 c.b.a, .bool c.wd, .bool c.tl]) 65) := fun W hW => by
      have kk := kpb_four hBb.out W2 2 3 4 5 (.int .u8 c.c.r) (.int .u8 c.c.g) (.int .u8 c.c.b) (.int .u8 c.c.a)
      have bb := H1'.out.1.bd.fore c.c
      rw [← hW] at kk bb
      exact ⟨⟨bb, H1'.out.1.kp.trans kk, Nat.le_trans H1'.out.1.lo kk.bw.size⟩, kk.cell H1'.out.2.1 (by have := H1'.out.2.2; omega) (by decide)⟩
    have hlt := H1'.out.2.2
    have hne : sb ≠ b := by omega
    clear H1'
    go_wp2_with fail
    refine (HPt.out c.c k xs 38 c.c _ (H3.out _ rfl).1 HO.out.1 (by decide) (by decide) (by have := HX.out; omega)).mono ?_
    rintro e W4 ⟨rfl, h4, k4⟩
    have H4 : Hid (TlW B b (c.c, k) (xs ++ pntB 38 c.c) w W4 ∧ Bk W4 sb (#[.int .i32 c.r, .int .u8 c.c.r, .int .u8 c.c.g, .int .u8 c.c.b, .int .u8 c.c.a, .int .u8 c.b.r, .int .u8 c.b.g, .int .u8 c.b.b, .int .u8 c.b.a, .bool c.wd, .bool c.tl]) 65) := ⟨h4, k4.cell (H3.out _ rfl).2 hne (by decide)⟩
    clear h4 k4 H3 t2 t3 t4 t5 f2 f3 f4 f5 c1 c2 c3 c4
    obtain ⟨⟨_, _, _, _, t6, t7, t8, t9⟩, _, _, _, _, f6, f7, f8, f9⟩ := tel_at H4.out.1.bd
    obtain ⟨_, _, _, _, c5, c6, c7, c8⟩ := col_at H4.out.2
    cases q2
    · simp only [Bool.not_false] at n2
      go_wp2_with fail
      go_quiet (fail)
      have H6 : Hid (TlW B b (c.c, k) (xs ++ pntB 38 c.c) w (W4.drewN nq) ∧ Bk (W4.drewN nq) sb (#[.int .i32 c.r, .int .u8 c.c.r, .int .u8 c.c.g, .int .u8 c.c.b, .int .u8 c.c.a, .int .u8 c.b.r, .int .u8 c.b.g, .int .u8 c.b.b, .int .u8 c.b.a, .bool c.wd, .bool c.tl]) 65) := ⟨H4.out.1.bel (below_drewN (Below.refl _ _)), H4.out.2.below (below_drewN (Below.refl _ _))⟩
      generalize W4.drewN nq = W6 at *
      clear H4 t6 t7 t8 t9 f6 f7 f8 f9 c5 c6 c7 c8 n2
      obtain ⟨⟨_, _, _, _, t6, t7, t8, t9⟩, _, _, _, _, f6, f7, f8, f9⟩ := tel_at H6.out.1.bd
      obtain ⟨_, _, _, _, c5, c6, c7, c8⟩ := col_at H6.out.2
      have H7 : Hid (∀ W, W = (((W6.setCell ⟨b, 6, none⟩ (.int .u8 c.b.r)).setCell ⟨b, 7, none⟩ (.int .u8 c.b.g)).setCell ⟨b, 8, none⟩ (.int .u8 c.b.b)).setCell ⟨b, 9, none⟩ (.int .u8 c.b.a) → TlW B b (c.c, c.b) (xs ++ pntB 38 c.c) w W) := fun W hW => by
        have kk := kpb_four hBb.out W6 6 7 8 9 (.int .u8 c.b.r) (.int .u8 c.b.g) (.int .u8 c.b.b) (.int .u8 c.b.a)
        have bb := H6.out.1.bd.back c.b
        rw [← hW] at kk bb
        exact ⟨bb, H6.out.1.kp.trans kk, Nat.le_trans H6.out.1.lo kk.bw.size⟩
      clear H6
      go_wp2_with fail
      refine (HPt.out c.c c.b (xs ++ pntB 38 c.c) 48 c.b _ (H7.out _ rfl) HO.out.2 (by decide) (by decide) (by have a1 := HX.out; have a2 := HPl.out; first | omega | (simp only [List.length_append]; omega))).mono ?_
      rintro e W8 ⟨rfl, h8, _⟩
      have H8 : Hid (TlW B b (c.c, c.b) ((xs ++ pntB 38 c.c) ++ pntB 48 c.b) w W8) := h8
      clear h8 H7
      go_wp2
      go_end0
      exact ⟨rfl, by rw [HCb.out]; simpa [List.append_assoc] using H8.out⟩
    · have hk : Hid (c.b = k) := HE2.out (by first | rfl | trivial)
      have H6 : Hid (TlW B b (c.c, c.b) (xs ++ pntB 38 c.c) w W4) := by rw [hk.out]; exact H4.out.1
      simp only [Bool.not_true] at n2
      go_wp2_with fail
      go_quiet (fail)
      have H7 : Hid (TlW B b (c.c, c.b) (xs ++ pntB 38 c.c) w (W4.drewN nq)) := H6.out.bel (below_drewN (Below.refl _ _))
      generalize W4.drewN nq = W6 at *
      clear H6
      go_wp2
      go_end0
      exact ⟨rfl, by rw [HCb.out]; simpa [List.append_assoc] using H7.out⟩
  · have hlt := H1.out.2.2
    have hne : sb ≠ b := by omega
    have hk1 : Hid (c.c = s) := HE1.out (by first | rfl | trivial)
    simp only [Bool.not_true] at n1
    go_wp2_with fail
    go_quiet (fail)
    have H4 : Hid (TlW B b (c.c, k) xs w (W1.drewN nq) ∧ Bk (W1.drewN nq) sb (#[.int .i32 c.r, .int .u8 c.c.r, .int .u8 c.c.g, .int .u8 c.c.b, .int .u8 c.c.a, .int .u8 c.b.r, .int .u8 c.b.g, .int .u8 c.b.b, .int .u8 c.b.a, .bool c.wd, .bool c.tl]) 65) := ⟨by rw [hk1.out]; exact H1.out.1.bel (below_drewN (Below.refl _ _)), H1.out.2.1.below (below_drewN (Below.refl _ _))⟩
    generalize W1.drewN nq = W4 at *
    clear H1 t2 t3 t4 t5 f2 f3 f4 f5 c1 c2 c3 c4 n1 HE1 hk1
    obtain ⟨⟨_, _, _, _, t6, t7, t8, t9⟩, _, _, _, _, f6, f7, f8, f9⟩ := tel_at H4.out.1.bd
    obtain ⟨_, _, _, _, c5, c6, c7, c8⟩ := col_at H4.out.2
    cases q2
    · simp only [Bool.not_false] at n2
      go_wp2_with fail
      go_quiet (fail)
      have H6 : Hid (TlW B b (c.c, k) xs w (W4.drewN nq) ∧ Bk (W4.drewN nq) sb (#[.int .i32 c.r, .int .u8 c.c.r, .int .u8 c.c.g, .int .u8 c.c.b, .int .u8 c.c.a, .int .u8 c.b.r, .int .u8 c.b.g, .int .u8 c.b.b, .int .u8 c.b.a, .bool c.wd, .bool c.tl]) 65) := ⟨H4.out.1.bel (below_drewN (Below.refl _ _)), H4.out.2.below (below_drewN (Below.refl _ _))⟩
      generalize W4.drewN nq = W6 at *
      clear H4 t6 t7 t8 t9 f6 f7 f8 f9 c5 c6 c7 c8 n2
      obtain ⟨⟨_, _, _, _, t6, t7, t8, t9⟩, _, _, _, _, f6, f7, f8, f9⟩ := tel_at H6.out.1.bd
      obtain ⟨_, _, _, _, c5, c6, c7, c8⟩ := col_at H6.out.2
      have H7 : Hid (∀ W, W = (((W6.setCell ⟨b, 6, none⟩ (.int .u8 c.b.r)).setCell ⟨b, 7, none⟩ (.int .u8 c.b.g)).setCell ⟨b, 8, none⟩ (.int .u8 c.b.b)).setCell ⟨b, 9, none⟩ (.int .u8 c.b.a) → TlW B b (c.c, c.b) xs w W) := fun W hW => by
        have kk := kpb_four hBb.out W6 6 7 8 9 (.int .u8 c.b.r) (.int .u8 c.b.g) (.int .u8 c.b.b) (.int .u8 c.b.a)
        have bb := H6.out.1.bd.back c.b
        rw [← hW] at kk bb
        exact ⟨bb, H6.out.1.kp.trans kk, Nat.le_trans H6.out.1.lo kk.bw.size⟩
      clear H6
      go_wp2_with fail
      refine (HPt.out c.c c.b xs 48 c.b _ (H7.out _ rfl) HO.out.2 (by decide) (by decide) (by have a1 := HX.out; have a2 := HPl.out; first | omega | (simp only [List.length_append]; omega))).mono ?_
      rintro e W8 ⟨rfl, h8, _⟩
      have H8 : Hid (TlW B b (c.c, c.b) (xs ++ pntB 48 c.b) w W8) := h8
      clear h8 H7
      go_wp2
      go_end0
      exact ⟨rfl, by rw [HCb.out]; simpa [List.append_assoc] using H8.out⟩
    · have hk : Hid (c.b = k) := HE2.out (by first | rfl | trivial)
      have H6 : Hid (TlW B b (c.c, c.b) xs w W4) := by rw [hk.out]; exact H4.out.1
      simp only [Bool.not_true] at n2
      go_wp2_with fail
      go_quiet (fail)
      have H7 : Hid (TlW B b (c.c, c.b) xs w (W4.drewN nq)) := H6.out.bel (below_drewN (Below.refl _ _))
      generalize W4.drewN nq = W6 at *
      clear H6
      go_wp2
      go_end0
      exact ⟨rfl, by rw [HCb.out]; simpa [List.append_assoc] using H7.out⟩

set_option maxRecDepth 20000 in
set_option maxHeartbeats 8000000 in
theorem tcell_any (B b : Nat) (xs : List UInt8) (st : Co × Co) (c : Ce) (way : Int) (hway : way = 0 ∨ way = 1 ∨ way = 2 ∨ way = 3) (w : World) (hI : IsBd 100 (rsT st.1 st.2) B b (Lib.byteCells xs) w) (hB : B ≤ w.heap.size) (h1 : c.c.ok) (h2 : c.b.ok) (hr : 0 ≤ c.r ∧ c.r ≤ 1114111) (hx : xs.length ≤ 99990000) (P : PwC B w) :
    Calls Tryz.prog 83 #[.pointer (some ⟨b, 0, none⟩), (Value.agg #[.int .i32 c.r, .int .u8 c.c.r, .int .u8 c.c.g, .int .u8 c.c.b, .int .u8 c.c.a, .int .u8 c.b.r, .int .u8 c.b.g, .int .u8 c.b.b, .int .u8 c.b.a, .bool c.wd, .bool c.tl]), .int .i64 way] w fun e w' => e = .returned (.tuple #[]) ∧ TlW B b (stC st c way) (xs ++ telC st c way) w w' := by
  have hb := hI.lt
  have H0 : Hid (∀ W, W = w.alloc (.cells (#[.int .i32 c.r, .int .u8 c.c.r, .int .u8 c.c.g, .int .u8 c.c.b, .int .u8 c.c.a, .int .u8 c.b.r, .int .u8 c.b.g, .int .u8 c.b.b, .int .u8 c.b.a, .bool c.wd, .bool c.tl]) 65) → TlW B b st xs w W ∧ Bk W w.heap.size (#[.int .i32 c.r, .int .u8 c.c.r, .int .u8 c.c.g, .int .u8 c.c.b, .int .u8 c.c.a, .int .u8 c.b.r, .int .u8 c.b.g, .int .u8 c.b.b, .int .u8 c.b.a, .bool c.wd, .bool c.tl]) 65 ∧ b < w.heap.size) := fun W hW => by
    subst hW
    exact ⟨⟨hI.below ((Below.refl _ _).alloc (Nat.le_refl _) _), KpD.of_below hB ((Below.refl _ _).alloc (Nat.le_refl _) _), by simp; omega⟩, Bk.new _ _ _, hb.2⟩
  have HCl : Hid (∀ W, TlW B b st xs w W → Calls Tryz.prog 117 #[.pointer (some ⟨b, 0, none⟩), (Value.agg #[.int .i32 c.r, .int .u8 c.c.r, .int .u8 c.c.g, .int .u8 c.c.b, .int .u8 c.c.a, .int .u8 c.b.r, .int .u8 c.b.g, .int .u8 c.b.b, .int .u8 c.b.a, .bool c.wd, .bool c.tl])] W fun e w' => e = .returned (.tuple #[]) ∧ TlW B b (c.c, c.b) (xs ++ colB st c) W w') := fun W hW => colours_any B b xs st.1 st.2 c W hW.bd hW.lo h1 h2 (by omega) (P.on hW.kp.bw)
  have HLn : Hid ((xs ++ colB st c).length ≤ 99999000) := by
    have := colB_len st c h1 h2
    unfold Hid
    rw [List.length_append]
    omega
  clear hI hB h1 h2 hx P hb
  rcases hway with rfl | rfl | rfl | rfl
  · go_enter Tryz.func83, Tryz.ntmps83
    go_wp2_with fail
    obtain ⟨W1, hW1⟩ : ∃ W1, W1 = w.alloc (.cells (#[.int .i32 c.r, .int .u8 c.c.r, .int .u8 c.c.g, .int .u8 c.c.b, .int .u8 c.c.a, .int .u8 c.b.r, .int .u8 c.b.g, .int .u8 c.b.b, .int .u8 c.b.a, .bool c.wd, .bool c.tl]) 65) := ⟨_, rfl⟩
    obtain ⟨sb, hsb⟩ : ∃ sb, sb = w.heap.size := ⟨_, rfl⟩
    have H1 : Hid (TlW B b st xs w W1 ∧ Bk W1 sb (#[.int .i32 c.r, .int .u8 c.c.r, .int .u8 c.c.g, .int .u8 c.c.b, .int .u8 c.c.a, .int .u8 c.b.r, .int .u8 c.b.g, .int .u8 c.b.b, .int .u8 c.b.a, .bool c.wd, .bool c.tl]) 65 ∧ b < sb) := by rw [hsb]; exact H0.out W1 hW1
    rw [← hW1, ← hsb]
    clear hW1 hsb H0
    have c0 : W1.cell? ⟨sb, 0, none⟩ = some (.int .i32 c.r) := H1.out.2.1.cell 0
    obtain ⟨c1, c2, c3, c4, c5, c6, c7, c8⟩ := col_at H1.out.2.1
    have c9 : W1.cell? ⟨sb, 9, none⟩ = some (.bool c.wd) := H1.out.2.1.cell 9
    have c10 : W1.cell? ⟨sb, 10, none⟩ = some (.bool c.tl) := H1.out.2.1.cell 10
    go_wp2_with fail
    refine (HCl.out W1 H1.out.1).mono ?_
    rintro e W2 ⟨rfl, h2⟩
    have H2 : Hid (TlW B b (c.c, c.b) (xs ++ colB st c) w W2 ∧ Bk W2 sb (#[.int .i32 c.r, .int .u8 c.c.r, .int .u8 c.c.g, .int .u8 c.c.b, .int .u8 c.c.a, .int .u8 c.b.r, .int .u8 c.b.g, .int .u8 c.b.b, .int .u8 c.b.a, .bool c.wd, .bool c.tl]) 65) := ⟨H1.out.1.then h2, h2.kp.cell H1.out.2.1 (by have := H1.out.2.2; omega) (by decide)⟩
    have H2' : Hid (TlW B b (c.c, c.b) (xs ++ colB st c) w W2 ∧ Bk W2 sb (#[.int .i32 c.r, .int .u8 c.c.r, .int .u8 c.c.g, .int .u8 c.c.b, .int .u8 c.c.a, .int .u8 c.b.r, .int .u8 c.b.g, .int .u8 c.b.b, .int .u8 c.b.a, .bool c.wd, .bool c.tl]) 65 ∧ b < sb) := ⟨H2.out.1, H2.out.2, H1.out.2.2⟩
    clear h2 H1 H2 HCl c0 c1 c2 c3 c4 c5 c6 c7 c8 c9 c10
    go_wp2_with fail
    refine R4.wp_region_lit 5 0 1 (fun _ _ => undef) (fun _ => .cells #[] 0) [] (by kernel_rfl) (by kernel_rfl) rfl (fun k hk => absurd hk (by omega)) rfl ?_
    apply Exists.intro
    refine ⟨fun bs ne => ?_, fun i h1 h2 => absurd h2 (by omega), ?_⟩
    · have x0 := fun tt : Gb W2 bs => (show tt.wd.cell? ⟨sb, 0, none⟩ = some (.int .i32 c.r) from (H2'.out.2.1.below tt.below).cell 0)
      simp only [List.take_succ_cons, List.take_zero]
      repeat (go_big_quiet_step (fail))
      exact wpQuiet_nil rfl
    · intro bl wx hbl _ _
      have H9 : Hid (TlW B b (c.c, c.b) (xs ++ colB st c) w wx) := H2'.out.1.bel hbl
      simp only [R4.layL]
      clear hbl
      refine wpAny_one 5 (by kernel_rfl) rfl ?_
      intro K hK
      go_simp
      refine (dWriteRune_any 100 (rsT c.c c.b) B b _ c.r (by omega) (by omega) _ (tel_tyh _ _) H9.out.bd (by rw [Lib.byteCells_length]; have := HLn.out; simp only [List.length_append] at *; first | omega | (simp only [List.length_singleton]; omega)) H9.out.lo).mono ?_
      rintro e W5 ⟨⟨u5, rfl⟩, h5, k5⟩
      have H5 : Hid (TlW B b (c.c, c.b) ((xs ++ colB st c) ++ Lib.encodeRune c.r) w W5) := ⟨.inr (by rw [bcs_app, Lib.byteCells_encodeRune]; exact h5), H9.out.kp.trans k5, Nat.le_trans H9.out.lo k5.bw.size⟩
      clear h5 k5 H9
      refine hK _ _ ?_
      clear hK K
      refine wpAny_done (by kernel_rfl) ?_ _
      go_wp2
      go_end0
      exact ⟨rfl, by simpa [telC, stC, List.append_assoc] using H5.out⟩
  · go_enter Tryz.func83, Tryz.ntmps83
    go_wp2_with fail
    obtain ⟨W1, hW1⟩ : ∃ W1, W1 = w.alloc (.cells (#[.int .i32 c.r, .int .u8 c.c.r, .int .u8 c.c.g, .int .u8 c.c.b, .int .u8 c.c.a, .int .u8 c.b.r, .int .u8 c.b.g, .int .u8 c.b.b, .int .u8 c.b.a, .bool c.wd, .bool c.tl]) 65) := ⟨_, rfl⟩
    obtain ⟨sb, hsb⟩ : ∃ sb, sb = w.heap.size := ⟨_, rfl⟩
    have H1 : Hid (TlW B b st xs w W1 ∧ Bk W1 sb (#[.int .i32 c.r, .int .u8 c.c.r, .int .u8 c.c.g, .int .u8 c.c.b, .int .u8 c.c.a, .int .u8 c.b.r, .int .u8 c.b.g, .int .u8 c.b.b, .int .u8 c.b.a, .bool c.wd, .bool c.tl]) 65 ∧ b < sb) := by rw [hsb]; exact H0.out W1 hW1
    rw [← hW1, ← hsb]
    clear hW1 hsb H0
    have c0 : W1.cell? ⟨sb, 0, none⟩ = some (.int .i32 c.r) := H1.out.2.1.cell 0
    obtain ⟨c1, c2, c3, c4, c5, c6, c7, c8⟩ := col_at H1.out.2.1
    have c9 : W1.cell? ⟨sb, 9, none⟩ = some (.bool c.wd) := H1.out.2.1.cell 9
    have c10 : W1.cell? ⟨sb, 10, none⟩ = some (.bool c.tl) := H1.out.2.1.cell 10
    have HF : Hid (TlW B b st xs w W1) := H1.out.1
    clear H1 c0 c1 c2 c3 c4 c5 c6 c7 c8 c9 c10
    go_wp2
    (try simp only [Exit.inBlock, Exit.then])
    refine bodyPost_ret (results_none rfl _ _ _) rfl ?_
    exact ⟨rfl, by simpa [telC, stC] using HF.out⟩
  · go_enter Tryz.func83, Tryz.ntmps83
    go_wp2_with fail
    obtain ⟨W1, hW1⟩ : ∃ W1, W1 = w.alloc (.cells (#[.int .i32 c.r, .int .u8 c.c.r, .int .u8 c.c.g, .int .u8 c.c.b, .int .u8 c.c.a, .int .u8 c.b.r, .int .u8 c.b.g, .int .u8 c.b.b, .int .u8 c.b.a, .bool c.wd, .bool c.tl]) 65) := ⟨_, rfl⟩
    obtain ⟨sb, hsb⟩ : ∃ sb, sb = w.heap.size := ⟨_, rfl⟩
    have H1 : Hid (TlW B b st xs w W1 ∧ Bk W1 sb (#[.int .i32 c.r, .int .u8 c.c.r, .int .u8 c.c.g, .int .u8 c.c.b, .int .u8 c.c.a, .int .u8 c.b.r, .int .u8 c.b.g, .int .u8 c.b.b, .int .u8 c.b.a, .bool c.wd, .bool c.tl]) 65 ∧ b < sb) := by rw [hsb]; exact H0.out W1 hW1
    rw [← hW1, ← hsb]
    clear hW1 hsb H0
    have c0 : W1.cell? ⟨sb, 0, none⟩ = some (.int .i32 c.r) := H1.out.2.1.cell 0
    obtain ⟨c1, c2, c3, c4, c5, c6, c7, c8⟩ := col_at H1.out.2.1
    have c9 : W1.cell? ⟨sb, 9, none⟩ = some (.bool c.wd) := H1.out.2.1.cell 9
    have c10 : W1.cell? ⟨sb, 10, none⟩ = some (.bool c.tl) := H1.out.2.1.cell 10
    go_wp2_with fail
    refine (HCl.out W1 H1.out.1).mono ?_
    rintro e W2 ⟨rfl, h2⟩
    have H2 : Hid (TlW B b (c.c, c.b) (xs ++ colB st c) w W2 ∧ Bk W2 sb (#[.int .i32 c.r, .int .u8 c.c.r, .int .u8 c.c.g, .int .u8 c.c.b, .int .u8 c.c.a, .int .u8 c.b.r, .int .u8 c.b.g, .int .u8 c.b.b, .int .u8 c.b.a, .bool c.wd, .bool c.tl]) 65) := ⟨H1.out.1.then h2, h2.kp.cell H1.out.2.1 (by have := H1.out.2.2; omega) (by decide)⟩
    have H2' : Hid (TlW B b (c.c, c.b) (xs ++ colB st c) w W2 ∧ Bk W2 sb (#[.int .i32 c.r, .int .u8 c.c.r, .int .u8 c.c.g, .int .u8 c.c.b, .int .u8 c.c.a, .int .u8 c.b.r, .int .u8 c.b.g, .int .u8 c.b.b, .int .u8 c.b.a, .bool c.wd, .bool c.tl]) 65 ∧ b < sb) := ⟨H2.out.1, H2.out.2, H1.out.2.2⟩
    clear h2 H1 H2 HCl c0 c1 c2 c3 c4 c5 c6 c7 c8 c9 c10
    go_wp2_with fail
    refine (dWriteByte_any 100 (rsT c.c c.b) B b _ 14 _ (tel_tyh _ _) H2'.out.1.bd (by rw [Lib.byteCells_length]; have := HLn.out; omega) H2'.out.1.lo).mono ?_
    rintro e W3 ⟨⟨u3, rfl⟩, h3, k3⟩
    have H3 : Hid (TlW B b (c.c, c.b) (xs ++ colB st c ++ [14]) w W3 ∧ Bk W3 sb (#[.int .i32 c.r, .int .u8 c.c.r, .int .u8 c.c.g, .int .u8 c.c.b, .int .u8 c.c.a, .int .u8 c.b.r, .int .u8 c.b.g, .int .u8 c.b.b, .int .u8 c.b.a, .bool c.wd, .bool c.tl]) 65 ∧ b < sb) := ⟨⟨.inr (by rw [bcs_app]; exact h3), H2'.out.1.kp.trans k3, Nat.le_trans H2'.out.1.lo k3.bw.size⟩, k3.cell H2'.out.2.1 (by have := H2'.out.2.2; omega) (by decide), H2'.out.2.2⟩
    clear h3 k3 H2'
    go_wp2_with fail
    refine R4.wp_region_lit 5 0 1 (fun _ _ => undef) (fun _ => .cells #[] 0) [] (by kernel_rfl) (by kernel_rfl) rfl (fun k hk => absurd hk (by omega)) rfl ?_
    apply Exists.intro
    refine ⟨fun bs ne => ?_, fun i h1 h2 => absurd h2 (by omega), ?_⟩
    · have x0 := fun tt : Gb W3 bs => (show tt.wd.cell? ⟨sb, 0, none⟩ = some (.int .i32 c.r) from (H3.out.2.1.below tt.below).cell 0)
      simp only [List.take_succ_cons, List.take_zero]
      repeat (go_big_quiet_step (fail))
      exact wpQuiet_nil rfl
    · intro bl wx hbl _ _
      have H9 : Hid (TlW B b (c.c, c.b) (xs ++ colB st c ++ [14]) w wx) := H3.out.1.bel hbl
      simp only [R4.layL]
      clear hbl
      refine wpAny_one 5 (by kernel_rfl) rfl ?_
      intro K hK
      go_simp
      refine (dWriteRune_any 100 (rsT c.c c.b) B b _ c.r (by omega) (by omega) _ (tel_tyh _ _) H9.out.bd (by rw [Lib.byteCells_length]; have := HLn.out; simp only [List.length_append] at *; first | omega | (simp only [List.length_singleton]; omega)) H9.out.lo).mono ?_
      rintro e W5 ⟨⟨u5, rfl⟩, h5, k5⟩
      have H5 : Hid (TlW B b (c.c, c.b) ((xs ++ colB st c ++ [14]) ++ Lib.encodeRune c.r) w W5) := ⟨.inr (by rw [bcs_app, Lib.byteCells_encodeRune]; exact h5), H9.out.kp.trans k5, Nat.le_trans H9.out.lo k5.bw.size⟩
      clear h5 k5 H9
      refine hK _ _ ?_
      clear hK K
      refine wpAny_done (by kernel_rfl) ?_ _
      go_wp2
      go_end0
      exact ⟨rfl, by simpa [telC, stC, List.append_assoc] using H5.out⟩
  · go_enter Tryz.func83, Tryz.ntmps83
    go_wp2_with fail
    obtain ⟨W1, hW1⟩ : ∃ W1, W1 = w.alloc (.cells (#[.int .i32 c.r, .int .u8 c.c.r, .int .u8 c.c.g, .int .u8 c.c.b, .int .u8 c.c.a, .int .u8 c.b.r, .int .u8 c.b.g, .int .u8 c.b.b, .int .u8 c.b.a, .bool c.wd, .bool c.tl]) 65) := ⟨_, rfl⟩
    obtain ⟨sb, hsb⟩ : ∃ sb, sb = w.heap.size := ⟨_, rfl⟩
    have H1 : Hid (TlW B b st xs w W1 ∧ Bk W1 sb (#[.int .i32 c.r, .int .u8 c.c.r, .int .u8 c.c.g, .int .u8 c.c.b, .int .u8 c.c.a, .int .u8 c.b.r, .int .u8 c.b.g, .int .u8 c.b.b, .int .u8 c.b.a, .bool c.wd, .bool c.tl]) 65 ∧ b < sb) := by rw [hsb]; exact H0.out W1 hW1
    rw [← hW1, ← hsb]
    clear hW1 hsb H0
    have c0 : W1.cell? ⟨sb, 0, none⟩ = some (.int .i32 c.r) := H1.out.2.1.cell 0
    obtain ⟨c1, c2, c3, c4, c5, c6, c7, c8⟩ := col_at H1.out.2.1
    have c9 : W1.cell? ⟨sb, 9, none⟩ = some (.bool c.wd) := H1.out.2.1.cell 9
    have c10 : W1.cell? ⟨sb, 10, none⟩ = some (.bool c.tl) := H1.out.2.1.cell 10
    go_wp2_with fail
    refine (HCl.out W1 H1.out.1).mono ?_
    rintro e W2 ⟨rfl, h2⟩
    have H2 : Hid (TlW B b (c.c, c.b) (xs ++ colB st c) w W2 ∧ Bk W2 sb (#[.int .i32 c.r, .int .u8 c.c.r, .int .u8 c.c.g, .int .u8 c.c.b, .int .u8 c.c.a, .int .u8 c.b.r, .int .u8 c.b.g, .int .u8 c.b.b, .int .u8 c.b.a, .bool c.wd, .bool c.tl]) 65) := ⟨H1.out.1.then h2, h2.kp.cell H1.out.2.1 (by have := H1.out.2.2; omega) (by decide)⟩
    have H2' : Hid (TlW B b (c.c, c.b) (xs ++ colB st c) w W2 ∧ Bk W2 sb (#[.int .i32 c.r, .int .u8 c.c.r, .int .u8 c.c.g, .int .u8 c.c.b, .int .u8 c.c.a, .int .u8 c.b.r, .int .u8 c.b.g, .int .u8 c.b.b, .int .u8 c.b.a, .bool c.wd, .bool c.tl]) 65 ∧ b < sb) := ⟨H2.out.1, H2.out.2, H1.out.2.2⟩
    clear h2 H1 H2 HCl c0 c1 c2 c3 c4 c5 c6 c7 c8 c9 c10
    go_wp2_with fail
    refine (dWriteByte_any 100 (rsT c.c c.b) B b _ 15 _ (tel_tyh _ _) H2'.out.1.bd (by rw [Lib.byteCells_length]; have := HLn.out; omega) H2'.out.1.lo).mono ?_
    rintro e W3 ⟨⟨u3, rfl⟩, h3, k3⟩
    have H3 : Hid (TlW B b (c.c, c.b) (xs ++ colB st c ++ [15]) w W3 ∧ Bk W3 sb (#[.int .i32 c.r, .int .u8 c.c.r, .int .u8 c.c.g, .int .u8 c.c.b, .int .u8 c.c.a, .int .u8 c.b.r, .int .u8 c.b.g, .int .u8 c.b.b, .int .u8 c.b.a, .bool c.wd, .bool c.tl]) 65 ∧ b < sb) := ⟨⟨.inr (by rw [bcs_app]; exact h3), H2'.out.1.kp.trans k3, Nat.le_trans H2'.out.1.lo k3.bw.size⟩, k3.cell H2'.out.2.1 (by have := H2'.out.2.2; omega) (by decide), H2'.out.2.2⟩
    clear h3 k3 H2'
    go_wp2_with fail
    refine R4.wp_region_lit 5 0 1 (fun _ _ => undef) (fun _ => .cells #[] 0) [] (by kernel_rfl) (by kernel_rfl) rfl (fun k hk => absurd hk (by omega)) rfl ?_
    apply Exists.intro
    refine ⟨fun bs ne => ?_, fun i h1 h2 => absurd h2 (by omega), ?_⟩
    · have x0 := fun tt : Gb W3 bs => (show tt.wd.cell? ⟨sb, 0, none⟩ = some (.int .i32 c.r) from (H3.out.2.1.below tt.below).cell 0)
      simp only [List.take_succ_cons, List.take_zero]
      repeat (go_big_quiet_step (fail))
      exact wpQuiet_nil rfl
    · intro bl wx hbl _ _
      have H9 : Hid (TlW B b (c.c, c.b) (xs ++ colB st c ++ [15]) w wx) := H3.out.1.bel hbl
      simp only [R4.layL]
      clear hbl
      refine wpAny_one 5 (by kernel_rfl) rfl ?_
      intro K hK
      go_simp
      refine (dWriteRune_any 100 (rsT c.c c.b) B b _ c.r (by omega) (by omega) _ (tel_tyh _ _) H9.out.bd (by rw [Lib.byteCells_length]; have := HLn.out; simp only [List.length_append] at *; first | omega | (simp only [List.length_singleton]; omega)) H9.out.lo).mono ?_
      rintro e W5 ⟨⟨u5, rfl⟩, h5, k5⟩
      have H5 : Hid (TlW B b (c.c, c.b) ((xs ++ colB st c ++ [15]) ++ Lib.encodeRune c.r) w W5) := ⟨.inr (by rw [bcs_app, Lib.byteCells_encodeRune]; exact h5), H9.out.kp.trans k5, Nat.le_trans H9.out.lo k5.bw.size⟩
      clear h5 k5 H9
      refine hK _ _ ?_
      clear hK K
      refine wpAny_done (by kernel_rfl) ?_ _
      go_wp2
      go_end0
      exact ⟨rfl, by simpa [telC, stC, List.append_assoc] using H5.out⟩

theorem full_any (B b : Nat) (xs : List UInt8) (st : Co × Co) (w : World) (hI : IsBd 100 (rsT st.1 st.2) B b (Lib.byteCells xs) w) :
    Calls Tryz.prog 52 #[.pointer (some ⟨b, 0, none⟩)] w fun e w' => e = .returned (.bool (decide (1048576 < xs.length))) ∧ w' = w := by
  have HL : Hid (Calls Tryz.prog 85 #[.pointer (some ⟨b, 0, none⟩)] w fun e w' => e = .returned (.int .i64 xs.length) ∧ w' = w) := by
    have := dLen_any 100 _ B b _ w hI
    rw [Lib.byteCells_length] at this
    exact this
  clear hI
  go_enter Tryz.func52, Tryz.ntmps52
  go_wp2_with fail
  refine HL.out.mono ?_
  rintro e w2 ⟨rfl, rfl⟩
  clear HL
  go_wp2
  go_ret
  refine ⟨ret_bool ?_, rfl⟩
  simp
  try omega

end Go.Proofs.YtapachlhdgehjaaGreatDoor

/-
  Package cells: how a teller writes a run.
-/
namespace Go.Proofs.YtapachlhdgehjaaGreatDoor
open Go.RowKit Go.Shelf Go.Lib

def telS (cs : List Ce) (st : Co × Co) : Nat → List UInt8 × (Co × Co)
  | 0 => ([], st)
  | k + 1 => ((telS cs st k).1 ++ telC (telS cs st k).2 (cs.getD k ceZ) (wayF smL cs k), stC (telS cs st k).2 (cs.getD k ceZ) (wayF smL cs k))
def runB (st : Co × Co) (q : Ru) : List UInt8 := seqB 72 [q.y + 1, q.x + 1] ++ (telS q.cs st q.cs.length).1
def runT (st : Co × Co) (q : Ru) : Co × Co := (telS q.cs st q.cs.length).2
theorem telS_mono (cs : List Ce) (st : Co × Co) {k m : Nat} (h : k ≤ m) : (telS cs st k).1.length ≤ (telS cs st m).1.length := by
  induction m with
  | zero => obtain rfl : k = 0 := by omega
            exact Nat.le_refl _
  | succ m ih =>
    by_cases e : k = m + 1
    · subst e; exact Nat.le_refl _
    · have := ih (by omega)
      simp only [telS, List.length_append]
      omega
def TeC (c : Ce) : Prop := c.c.ok ∧ c.b.ok ∧ 0 ≤ c.r ∧ c.r ≤ 1114111

set_option maxRecDepth 20000 in
set_option maxHeartbeats 8000000 in
theorem trun_any (w0 : World) (b : Nat) (xs : List UInt8) (st : Co × Co) (x y : Int) (cs : List Ce) (ad : Option Addr) (n cap : Nat) (w : World) (hI : IsBd 100 (rsT st.1 st.2) w0.heap.size b (Lib.byteCells xs) w) (h0 : Below w0.heap.size w0 w) (hv : LsC w0 (.slice ad n cap) cs) (hn : n = cs.length) (hn2 : n ≤ 300000) (ht : ∀ c ∈ cs, TeC c)
    (hx : 0 ≤ x ∧ x ≤ 16384) (hy : 0 ≤ y ∧ y ≤ 16384) (hl : (xs ++ runB st ⟨x, y, cs⟩).length ≤ 1048576) (P : PwC w0.heap.size w) :
    Calls Tryz.prog 51 #[.pointer (some ⟨b, 0, none⟩), .agg #[.int .i64 x, .int .i64 y, .slice ad n cap]] w fun e w' => e = .returned (.tuple #[]) ∧ TlW w0.heap.size b (runT st ⟨x, y, cs⟩) (xs ++ runB st ⟨x, y, cs⟩) w w' := by
  have hb := hI.lt
  have eg := fun args (w : World) => enters_of (P := Tryz.prog) Tryz.func84 (by kernel_rfl) rfl args w
  obtain ⟨SQ, hSQ⟩ : ∃ SQ, SQ = seqB 72 [y + 1, x + 1] := ⟨_, rfl⟩
  have HV : Hid (∀ W, Below w0.heap.size w0 W → LsC W (.slice ad n cap) cs) := fun W h => hv.below h
  have hlen : xs.length + SQ.length + (telS cs st cs.length).1.length ≤ 1048576 := by
    have : (xs ++ runB st ⟨x, y, cs⟩).length = xs.length + (SQ.length + (telS cs st cs.length).1.length) := by rw [hSQ]; simp [runB]
    omega
  have HG : Hid (0 < n → ∃ g o, ad = some ⟨g, o, none⟩ ∧ g < w0.heap.size ∧ ∀ i (_ : i < n), CeAt w0 g (o + i * 11) (cs.getD i ceZ)) := fun h => by
    obtain ⟨oa, c, e, hc, hg⟩ := hv
    injection e with e1 e2 e3
    obtain ⟨g, o, e4, hlt, hat⟩ := hg (by omega)
    exact ⟨g, o, by rw [e1, e4], hlt, fun i hi => by rw [getD_atC (show i < cs.length by omega)]; exact hat i (by omega)⟩
  have HWy : Hid (∀ (k : Nat) W, k < n → Below w0.heap.size w0 W → Calls Tryz.prog 75 #[.slice ad n cap, .int .i64 k, .func (.func 84) #[] #[]] W fun e w' => e = .returned (.int .i64 (wayF smL cs k)) ∧ Below W.heap.size W w') := fun k W hk hW => way_any 84 smL cs _ k W (hv.below hW) (by omega) (by omega) eg smL_any
  have HCe : Hid (∀ (k : Nat), k < n → TeC (cs.getD k ceZ)) := fun k hk => by rw [getD_atC (show k < cs.length by omega)]; exact ht _ (List.getElem_mem _)
  have HLn : Hid (∀ k, k ≤ n → (xs ++ SQ ++ (telS cs st k).1).length ≤ 1048576) := fun k hk => by
    have := telS_mono cs st (show k ≤ cs.length by omega)
    simp only [List.length_append]
    omega
  have HP : Hid (PwC w0.heap.size w) := P
  have H0 : Hid (∀ W, W = w.alloc (.cells #[.int .i64 x, .int .i64 y, .slice ad n cap] 63) → Bk W w.heap.size #[.int .i64 x, .int .i64 y, .slice ad n cap] 63) := fun W hW => by subst hW; exact Bk.new _ _ _
  have HSq : Hid (∀ W, W = (w.alloc (.cells #[.int .i64 x, .int .i64 y, .slice ad n cap] 63)).alloc (.cells #[.int .i64 (y + 1), .int .i64 (x + 1)] 3) → Calls Tryz.prog 82 #[.pointer (some ⟨b, 0, none⟩), .int .u8 72, .slice (some ⟨w.heap.size + 1, 0, none⟩) 2 2] W fun e w' => e = .returned (.tuple #[]) ∧ TlW w0.heap.size b st (xs ++ SQ) w w' ∧ Bk w' w.heap.size #[.int .i64 x, .int .i64 y, .slice ad n cap] 63) := fun W hW => by
    have k1 := Bk.new w #[.int .i64 x, .int .i64 y, .slice ad n cap] 63
    have k2 := Bk.new (w.alloc (.cells #[.int .i64 x, .int .i64 y, .slice ad n cap] 63)) #[.int .i64 (y + 1), .int .i64 (x + 1)] 3
    have k3 := k1.below ((Below.refl _ _).alloc (Nat.le_refl _) (.cells #[.int .i64 (y + 1), .int .i64 (x + 1)] 3))
    have hbw : Below w.heap.size w ((w.alloc (.cells #[.int .i64 x, .int .i64 y, .slice ad n cap] 63)).alloc (.cells #[.int .i64 (y + 1), .int .i64 (x + 1)] 3)) := ((Below.refl _ w).alloc (Nat.le_refl _) _).alloc (by simp) _
    simp only [World.size_alloc] at k2
    rw [← hW] at k2 k3 hbw
    refine (seq_any (rsT st.1 st.2) (tel_tyh _ _) w0.heap.size b (w.heap.size + 1) xs 72 [y + 1, x + 1] W (hI.below hbw) (Nat.le_trans h0.size hbw.size) k2 (by omega) (fun m hm => ?_) (by simp) (by omega) (P.on (hbw.mono h0.size))).mono ?_
    · simp only [List.mem_cons, List.not_mem_nil, or_false] at hm
      rcases hm with rfl | rfl <;> omega
    · rintro e w' ⟨rfl, q1, q2⟩
      rw [← hSQ] at q1
      exact ⟨rfl, ⟨q1, (KpD.of_below h0.size hbw).trans q2, Nat.le_trans (Nat.le_trans h0.size hbw.size) q2.bw.size⟩, q2.cell k3 (by omega) (by decide)⟩
  have HF : Hid (runT st ⟨x, y, cs⟩ = (telS cs st n).2 ∧ xs ++ runB st ⟨x, y, cs⟩ = xs ++ SQ ++ (telS cs st n).1) := by
    refine ⟨by unfold runT; rw [hn], ?_⟩
    unfold runB
    rw [hSQ, hn, List.append_assoc]
  have HB0 : Hid (Below w0.heap.size w0 w ∧ b < w.heap.size) := ⟨h0, hb.2⟩
  clear hI h0 hv hn ht hl P hlen hSQ hb eg
  go_enter Tryz.func51, Tryz.ntmps51
  go_wp2_with fail
  refine (HSq.out _ rfl).mono ?_
  rintro e W2 ⟨rfl, h2, g2⟩
  obtain ⟨sb, hsb⟩ : ∃ sb, sb = w.heap.size := ⟨_, rfl⟩
  have H2 : Hid (TlW w0.heap.size b (telS cs st 0).2 (xs ++ SQ ++ (telS cs st 0).1) w W2 ∧ Bk W2 sb #[.int .i64 x, .int .i64 y, .slice ad n cap] 63 ∧ b < sb) := by
    rw [hsb]
    exact ⟨by simpa [telS] using h2, g2, HB0.out.2⟩
  rw [← hsb]
  clear h2 g2 HSq H0 hsb
  go_wp2_with fail
  go_loopw [4] (fun i wr => ∃ k : Nat, k ≤ n ∧ i = .int .i64 k ∧ Hid (TlW w0.heap.size b (telS cs st k).2 (xs ++ SQ ++ (telS cs st k).1) w wr ∧ Bk wr sb #[.int .i64 x, .int .i64 y, .slice ad n cap] 63 ∧ b < sb)) (fun i _ => n - (RowKit.intOf i).toNat)
  case atStart => exact ⟨0, Nat.zero_le _, rfl, H2.out⟩
  case round =>
    obtain ⟨k, hk, rfl, HK⟩ := hrel
    clear H2
    obtain ⟨r0, r1, r2⟩ := Bk.at3S HK.out.2.1
    by_cases hlt : k < n
    · have ik : (k : Int) < n := by omega
      have HFu : Hid (Calls Tryz.prog 52 #[.pointer (some ⟨b, 0, none⟩)] wr fun e w' => e = .returned (.bool false) ∧ w' = wr) := by
        have h1 := full_any w0.heap.size b _ _ wr HK.out.1.bd
        rw [show decide (1048576 < (xs ++ SQ ++ (telS cs st k).1).length) = false by have := HLn.out k (by omega); simp only [decide_eq_false_iff_not]; omega] at h1
        exact h1
      go_wp2_with fail
      refine HFu.out.mono ?_
      rintro e W3 ⟨rfl, hW3⟩
      obtain rfl := hW3.symm
      clear HFu
      have hce := HCe.out k hlt
      have HTel : Hid (telS cs st (k + 1) = ((telS cs st k).1 ++ telC (telS cs st k).2 (cs.getD k ceZ) (wayF smL cs k), stC (telS cs st k).2 (cs.getD k ceZ) (wayF smL cs k))) := rfl
      obtain ⟨g, o, rfl, hgl, hat⟩ := HG.out (by omega)
      have HAt : Hid (CeAt w0 g (o + k * 11) (cs.getD k ceZ) ∧ g < w0.heap.size) := ⟨hat k hlt, hgl⟩
      have HL1 := show Hid _ from HLn.out k (by omega)
      have HWk : Hid (∀ W, Below w0.heap.size w0 W → Calls Tryz.prog 75 #[.slice (some ⟨g, o, none⟩) n cap, .int .i64 k, .func (.func 84) #[] #[]] W fun e w' => e = .returned (.int .i64 (wayF smL cs k)) ∧ Below W.heap.size W w') := fun W hW => HWy.out k W hlt hW
      have HW4 := show Hid _ from way_four smL cs k
      clear hat
      generalize cs.getD k ceZ = c at *
      generalize wayF smL cs k = wy at *
      have HLo : Hid (Below w0.heap.size w0 wr) := HB0.out.1.trans HK.out.1.kp.bw
      go_wp2_with fail
      refine R4.wp_region_lit 10 0 1 (fun _ _ => undef) (fun _ => .cells #[] 0) [] (by kernel_rfl) (by kernel_rfl) rfl (fun k hk => absurd hk (by omega)) rfl ?_
      apply Exists.intro
      refine ⟨fun bs ne => ?_, fun i h1 h2 => absurd h2 (by omega), ?_⟩
      · have x0 := fun tt : Gb wr bs => (Bk.at3S (HK.out.2.1.below tt.below)).1
        have x1 := fun tt : Gb wr bs => (Bk.at3S (HK.out.2.1.below tt.below)).2.1
        have x2 := fun tt : Gb wr bs => (Bk.at3S (HK.out.2.1.below tt.below)).2.2
        have cf := fun tt : Gb wr bs => (HAt.out.1.kept (w' := tt.wd) fun j => (HLo.out.trans (tt.below.mono HLo.out.size)).cell (p := ⟨g, j, none⟩) HAt.out.2)
        have c0 := fun tt : Gb wr bs => (cf tt).1
        have c1 := fun tt : Gb wr bs => (cf tt).2.1
        have c2 := fun tt : Gb wr bs => (cf tt).2.2.1
        have c3 := fun tt : Gb wr bs => (cf tt).2.2.2.1
        have c4 := fun tt : Gb wr bs => (cf tt).2.2.2.2.1
        have c5 := fun tt : Gb wr bs => (cf tt).2.2.2.2.2.1
        have c6 := fun tt : Gb wr bs => (cf tt).2.2.2.2.2.2.1
        have c7 := fun tt : Gb wr bs => (cf tt).2.2.2.2.2.2.2.1
        have c8 := fun tt : Gb wr bs => (cf tt).2.2.2.2.2.2.2.2.1
        have c9 := fun tt : Gb wr bs => (cf tt).2.2.2.2.2.2.2.2.2.1
        have c10 := fun tt : Gb wr bs => (cf tt).2.2.2.2.2.2.2.2.2.2
        clear cf
        simp only [List.take_succ_cons, List.take_zero]
        repeat (go_big_quiet_step (first | (go_at_call 75; exact gb_call (HWk.out _ (HLo.out.trans ((Gb.below _).mono HLo.out.size))))))
        exact wpQuiet_nil rfl
      · intro bl wx hbl _ _
        have H9 : Hid (TlW w0.heap.size b (telS cs st k).2 (xs ++ SQ ++ (telS cs st k).1) w wx ∧ Bk wx sb #[.int .i64 x, .int .i64 y, .slice (some ⟨g, o, none⟩) n cap] 63) := ⟨HK.out.1.bel hbl, HK.out.2.1.below hbl⟩
        simp only [R4.layL]
        clear hbl
        refine wpAny_one 10 (by kernel_rfl) rfl ?_
        intro K hK
        go_simp
        refine (tcell_any w0.heap.size b _ (telS cs st k).2 c wy HW4.out wx H9.out.1.bd H9.out.1.lo hce.1 hce.2.1 hce.2.2 (by have := HL1.out; omega) (HP.out.on H9.out.1.kp.bw)).mono ?_
        rintro e W5 ⟨rfl, h5⟩
        have H5 : Hid (TlW w0.heap.size b (telS cs st (k + 1)).2 (xs ++ SQ ++ (telS cs st (k + 1)).1) w W5 ∧ Bk W5 sb #[.int .i64 x, .int .i64 y, .slice (some ⟨g, o, none⟩) n cap] 63 ∧ b < sb) := by
          refine ⟨?_, h5.kp.cell H9.out.2 (by have := HK.out.2.2; omega) (by decide), HK.out.2.2⟩
          rw [HTel.out]
          have := H9.out.1.then h5
          simpa [List.append_assoc] using this
        clear h5 H9 HK r0 r1 r2
        refine hK _ _ ?_
        clear hK K
        refine wpAny_done (by kernel_rfl) ?_ _
        go_wp2
        exact ⟨⟨k + 1, by omega, by go_num, H5⟩, by simp [RowKit.intOf]; omega⟩
    · obtain rfl : k = n := by omega
      have HE : Hid (TlW w0.heap.size b (telS cs st k).2 (xs ++ SQ ++ (telS cs st k).1) w wr) := HK.out.1
      clear HK
      go_wp2
      go_end0
      exact ⟨rfl, by rw [HF.out.1, HF.out.2]; exact HE.out⟩

end Go.Proofs.YtapachlhdgehjaaGreatDoor
