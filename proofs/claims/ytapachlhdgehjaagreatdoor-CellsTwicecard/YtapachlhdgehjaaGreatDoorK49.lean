/-
  Texts of this claim, one behind the other: what each is about stands ahead of it.
-/
import Derived.Test.YtapachlhdgehjaaGreatDoorK48
/-
  Package cells: wayOf, for whatever function that tells which halves belong together.
-/
namespace Go.Proofs.YtapachlhdgehjaaGreatDoor
open Go.RowKit

def wayF (j : Ce → Ce → Bool) (l : List Ce) (k : Nat) : Int :=
  if ((l.getD k ceZ).wd && (decide (k + 1 = l.length) || !j (l.getD k ceZ) (l.getD (k + 1) ceZ))) = true then 2
  else if ((l.getD k ceZ).tl && (decide (0 < k) && j (l.getD (k - 1) ceZ) (l.getD k ceZ))) = true then 1
  else if (l.getD k ceZ).tl = true then 3 else 0
theorem getD_atC {l : List Ce} {k : Nat} (h : k < l.length) : l.getD k ceZ = l[k] := by simp [List.getD, h]
theorem cell_gw {W : World} {g p : Nat} {s : Ce} (h : CeAt W g p s) (hg : g < W.heap.size) (t : Gw W) : CeAt t.wd g p s := h.kept fun j => t.below.cell (p := ⟨g, j, none⟩) hg
theorem bk_ceat {W : World} {b : Nat} {c : Ce} {t : TypeId} (h : Bk W b (#[.int .i32 c.r, .int .u8 c.c.r, .int .u8 c.c.g, .int .u8 c.c.b, .int .u8 c.c.a, .int .u8 c.b.r, .int .u8 c.b.g, .int .u8 c.b.b, .int .u8 c.b.a, .bool c.wd, .bool c.tl]) t) : CeAt W b 0 c := by
  rw [ceat_iff]
  intro j hj
  rw [Nat.zero_add, h.cell]
  show (cCel c).toArray[j]? = _
  rw [List.getElem?_toArray]

set_option maxRecDepth 20000 in
set_option maxHeartbeats 8000000 in
theorem way_core (F : Nat) (j : Ce → Ce → Bool) (k kn kp n g o cap : Nat) (cr : Int) (cc cb : Co) (wd tl : Bool) (x y : Ce) (w : World) (hgl : g < w.heap.size) (hk : k < n) (hn : n ≤ 1000000) (hkn : kn = k + 1) (hkp : 0 < k → kp + 1 = k)
    (hc : CeAt w g (o + k * 11) ⟨cr, cc, cb, wd, tl⟩) (hx : kn < n → CeAt w g (o + kn * 11) x) (hy : 0 < k → CeAt w g (o + kp * 11) y) (eg : ∀ args w, (callFunc F args).run Tryz.prog w = .ok (.enter F args) w)
    (hJ : ∀ x y W, Calls Tryz.prog F #[(Value.agg #[.int .i32 x.r, .int .u8 x.c.r, .int .u8 x.c.g, .int .u8 x.c.b, .int .u8 x.c.a, .int .u8 x.b.r, .int .u8 x.b.g, .int .u8 x.b.b, .int .u8 x.b.a, .bool x.wd, .bool x.tl]), (Value.agg #[.int .i32 y.r, .int .u8 y.c.r, .int .u8 y.c.g, .int .u8 y.c.b, .int .u8 y.c.a, .int .u8 y.b.r, .int .u8 y.b.g, .int .u8 y.b.b, .int .u8 y.b.a, .bool y.wd, .bool y.tl])] W fun e w' => e = .returned (.bool (j x y)) ∧ Below W.heap.size W w') (R : Int)
    (hR : R = if (wd && (decide (k + 1 = n) || !j ⟨cr, cc, cb, wd, tl⟩ x)) = true then 2 else if (tl && (decide (0 < k) && j y ⟨cr, cc, cb, wd, tl⟩)) = true then 1 else if tl = true then 3 else 0) :
    Calls Tryz.prog 75 #[.slice (some ⟨g, o, none⟩) n cap, .int .i64 k, .func (.func F) #[] #[]] w fun e w' => e = .returned (.int .i64 R) ∧ Below w.heap.size w w' := by
  have HR : Hid (R = if (wd && (decide (k + 1 = n) || !j ⟨cr, cc, cb, wd, tl⟩ x)) = true then 2 else if (tl && (decide (0 < k) && j y ⟨cr, cc, cb, wd, tl⟩)) = true then 1 else if tl = true then 3 else 0) := hR
  have HJ1 : Hid (∀ W, Calls Tryz.prog F #[.agg #[.int .i32 cr, .int .u8 cc.r, .int .u8 cc.g, .int .u8 cc.b, .int .u8 cc.a, .int .u8 cb.r, .int .u8 cb.g, .int .u8 cb.b, .int .u8 cb.a, .bool wd, .bool tl], (Value.agg #[.int .i32 x.r, .int .u8 x.c.r, .int .u8 x.c.g, .int .u8 x.c.b, .int .u8 x.c.a, .int .u8 x.b.r, .int .u8 x.b.g, .int .u8 x.b.b, .int .u8 x.b.a, .bool x.wd, .bool x.tl])] W fun e w' => e = .returned (.bool (j ⟨cr, cc, cb, wd, tl⟩ x)) ∧ Below W.heap.size W w') := fun W => hJ ⟨cr, cc, cb, wd, tl⟩ x W
  have HJ2 : Hid (∀ W, Calls Tryz.prog F #[(Value.agg #[.int .i32 y.r, .int .u8 y.c.r, .int .u8 y.c.g, .int .u8 y.c.b, .int .u8 y.c.a, .int .u8 y.b.r, .int .u8 y.b.g, .int .u8 y.b.b, .int .u8 y.b.a, .bool y.wd, .bool y.tl]), .agg #[.int .i32 cr, .int .u8 cc.r, .int .u8 cc.g, .int .u8 cc.b, .int .u8 cc.a, .int .u8 cb.r, .int .u8 cb.g, .int .u8 cb.b, .int .u8 cb.a, .bool wd, .bool tl]] W fun e w' => e = .returned (.bool (j y ⟨cr, cc, cb, wd, tl⟩)) ∧ Below W.heap.size W w') := fun W => hJ y ⟨cr, cc, cb, wd, tl⟩ W
  subst hkn
  have HN : Hid (∀ W, Below w.heap.size w W → (k + 1 < n → CeAt W g (o + (k + 1) * 11) x) ∧ (0 < k → CeAt W g (o + kp * 11) y) ∧ g < W.heap.size) := fun W hb => ⟨fun h => (hx h).kept fun j => hb.cell (p := ⟨g, j, none⟩) hgl, fun h => (hy h).kept fun j => hb.cell (p := ⟨g, j, none⟩) hgl, Nat.lt_of_lt_of_le hgl hb.size⟩
  have HW : Hid (∀ W, W = w.alloc (.cells #[.int .i32 cr, .int .u8 cc.r, .int .u8 cc.g, .int .u8 cc.b, .int .u8 cc.a, .int .u8 cb.r, .int .u8 cb.g, .int .u8 cb.b, .int .u8 cb.a, .bool wd, .bool tl] 65) → Below w.heap.size w W ∧ Bk W w.heap.size #[.int .i32 cr, .int .u8 cc.r, .int .u8 cc.g, .int .u8 cc.b, .int .u8 cc.a, .int .u8 cb.r, .int .u8 cb.g, .int .u8 cb.b, .int .u8 cb.a, .bool wd, .bool tl] 65) := fun W hW => by subst hW; exact ⟨(Below.refl _ w).alloc (Nat.le_refl _) _, Bk.new w _ _⟩
  obtain ⟨a0, a1, a2, a3, a4, a5, a6, a7, a8, a9, a10⟩ := hc
  simp only at a0 a1 a2 a3 a4 a5 a6 a7 a8 a9 a10
  have w1p : 0 < k → IntKind.i64.wrap ((k : Int) - 1) = (kp : Int) := fun h => by have := hkp h; rw [IntKind.wrap_i64]; omega
  have ik : (k : Int) < n := by omega
  clear hR hJ hx hy
  go_enter Tryz.func75, Tryz.ntmps75
  go_wp2_with fail
  obtain ⟨W1, hW1⟩ : ∃ W1, W1 = w.alloc (.cells #[.int .i32 cr, .int .u8 cc.r, .int .u8 cc.g, .int .u8 cc.b, .int .u8 cc.a, .int .u8 cb.r, .int .u8 cb.g, .int .u8 cb.b, .int .u8 cb.a, .bool wd, .bool tl] 65) := ⟨_, rfl⟩
  obtain ⟨bn, hbn⟩ : ∃ bn, bn = w.heap.size := ⟨_, rfl⟩
  have H1 : Hid (Below w.heap.size w W1 ∧ Bk W1 bn #[.int .i32 cr, .int .u8 cc.r, .int .u8 cc.g, .int .u8 cc.b, .int .u8 cc.a, .int .u8 cb.r, .int .u8 cb.g, .int .u8 cb.b, .int .u8 cb.a, .bool wd, .bool tl] 65) := by rw [hbn]; exact HW.out W1 hW1
  rw [← hW1, ← hbn]
  clear hW1 HW a0 a1 a2 a3 a4 a5 a6 a7 a8 a9 a10 hbn
  cases wd
  · have ne : Nonempty (Gw W1) := ⟨⟨W1, Below.refl _ _⟩⟩
    have cf := fun t : Gw W1 => bk_ceat (c := ⟨cr, cc, cb, false, tl⟩) (H1.out.2.below t.below)
    have c0 := fun t => (cf t).1
    have c1 := fun t => (cf t).2.1
    have c2 := fun t => (cf t).2.2.1
    have c3 := fun t => (cf t).2.2.2.1
    have c4 := fun t => (cf t).2.2.2.2.1
    have c5 := fun t => (cf t).2.2.2.2.2.1
    have c6 := fun t => (cf t).2.2.2.2.2.2.1
    have c7 := fun t => (cf t).2.2.2.2.2.2.2.1
    have c8 := fun t => (cf t).2.2.2.2.2.2.2.2.1
    have c9 := fun t => (cf t).2.2.2.2.2.2.2.2.2.1
    have c10 := fun t => (cf t).2.2.2.2.2.2.2.2.2.2
    simp only [Nat.zero_add] at c0 c1 c2 c3 c4 c5 c6 c7 c8 c9 c10
    clear cf
    refine wp_region_gw (by kernel_rfl) (by kernel_rfl) ?_
    repeat (go_big_quiet_step (fail))
    refine wpQuiet_nil ?_
    rintro _ ⟨t, rfl⟩
    have H2 : Hid (Below w.heap.size w t.wd ∧ Bk t.wd bn #[.int .i32 cr, .int .u8 cc.r, .int .u8 cc.g, .int .u8 cc.b, .int .u8 cc.a, .int .u8 cb.r, .int .u8 cb.g, .int .u8 cb.b, .int .u8 cb.a, .bool false, .bool tl] 65) := ⟨H1.out.1.trans (t.below.mono H1.out.1.size), H1.out.2.below t.below⟩
    generalize t.wd = W2 at *
    clear c0 c1 c2 c3 c4 c5 c6 c7 c8 c9 c10
    clear ne H1
    obtain ⟨H1⟩ : Nonempty (PLift (Hid (Below w.heap.size w W2 ∧ Bk W2 bn #[.int .i32 cr, .int .u8 cc.r, .int .u8 cc.g, .int .u8 cc.b, .int .u8 cc.a, .int .u8 cb.r, .int .u8 cb.g, .int .u8 cb.b, .int .u8 cb.a, .bool false, .bool tl] 65))) := ⟨⟨H2⟩⟩
    replace H1 := H1.down
    clear H2
    generalize W2 = W1 at *
    cases tl
    · have ne : Nonempty (Gw W1) := ⟨⟨W1, Below.refl _ _⟩⟩
      have cf := fun t : Gw W1 => bk_ceat (c := ⟨cr, cc, cb, false, false⟩) (H1.out.2.below t.below)
      have c0 := fun t => (cf t).1
      have c1 := fun t => (cf t).2.1
      have c2 := fun t => (cf t).2.2.1
      have c3 := fun t => (cf t).2.2.2.1
      have c4 := fun t => (cf t).2.2.2.2.1
      have c5 := fun t => (cf t).2.2.2.2.2.1
      have c6 := fun t => (cf t).2.2.2.2.2.2.1
      have c7 := fun t => (cf t).2.2.2.2.2.2.2.1
      have c8 := fun t => (cf t).2.2.2.2.2.2.2.2.1
      have c9 := fun t => (cf t).2.2.2.2.2.2.2.2.2.1
      have c10 := fun t => (cf t).2.2.2.2.2.2.2.2.2.2
      simp only [Nat.zero_add] at c0 c1 c2 c3 c4 c5 c6 c7 c8 c9 c10
      clear cf
      go_wp2_with fail
      refine wp_region_gw (by kernel_rfl) (by kernel_rfl) ?_
      repeat (go_big_quiet_step (fail))
      refine wpQuiet_nil ?_
      rintro _ ⟨t, rfl⟩
      have H2 : Hid (Below w.heap.size w t.wd ∧ Bk t.wd bn #[.int .i32 cr, .int .u8 cc.r, .int .u8 cc.g, .int .u8 cc.b, .int .u8 cc.a, .int .u8 cb.r, .int .u8 cb.g, .int .u8 cb.b, .int .u8 cb.a, .bool false, .bool false] 65) := ⟨H1.out.1.trans (t.below.mono H1.out.1.size), H1.out.2.below t.below⟩
      generalize t.wd = W2 at *
      clear c0 c1 c2 c3 c4 c5 c6 c7 c8 c9 c10
      have e4 : W2.cell? ⟨bn, 10, none⟩ = some (.bool false) := by rw [H2.out.2.cell]; rfl
      go_wp2
      go_ret
      exact ⟨by rw [HR.out]; simp, H2.out.1⟩
    · by_cases hp : 0 < k
      · have wp_ := w1p hp
        have ip : (kp : Int) < n := by have := hkp hp; omega
        have hkp2 := hkp hp
        have dp : decide (0 < (k : Int)) = true := by simp; omega
        clear w1p hkp
        have ne : Nonempty (Gw W1) := ⟨⟨W1, Below.refl _ _⟩⟩
        have cf := fun t : Gw W1 => bk_ceat (c := ⟨cr, cc, cb, false, true⟩) (H1.out.2.below t.below)
        have c0 := fun t => (cf t).1
        have c1 := fun t => (cf t).2.1
        have c2 := fun t => (cf t).2.2.1
        have c3 := fun t => (cf t).2.2.2.1
        have c4 := fun t => (cf t).2.2.2.2.1
        have c5 := fun t => (cf t).2.2.2.2.2.1
        have c6 := fun t => (cf t).2.2.2.2.2.2.1
        have c7 := fun t => (cf t).2.2.2.2.2.2.2.1
        have c8 := fun t => (cf t).2.2.2.2.2.2.2.2.1
        have c9 := fun t => (cf t).2.2.2.2.2.2.2.2.2.1
        have c10 := fun t => (cf t).2.2.2.2.2.2.2.2.2.2
        simp only [Nat.zero_add] at c0 c1 c2 c3 c4 c5 c6 c7 c8 c9 c10
        clear cf
        have nf := fun t : Gw W1 => cell_gw ((HN.out _ H1.out.1).2.1 hp) (HN.out _ H1.out.1).2.2 t
        have d0 := fun t => (nf t).1
        have d1 := fun t => (nf t).2.1
        have d2 := fun t => (nf t).2.2.1
        have d3 := fun t => (nf t).2.2.2.1
        have d4 := fun t => (nf t).2.2.2.2.1
        have d5 := fun t => (nf t).2.2.2.2.2.1
        have d6 := fun t => (nf t).2.2.2.2.2.2.1
        have d7 := fun t => (nf t).2.2.2.2.2.2.2.1
        have d8 := fun t => (nf t).2.2.2.2.2.2.2.2.1
        have d9 := fun t => (nf t).2.2.2.2.2.2.2.2.2.1
        have d10 := fun t => (nf t).2.2.2.2.2.2.2.2.2.2
        clear nf
        generalize hjv : j y ⟨cr, cc, cb, false, true⟩ = jv at *
        go_wp2_with fail
        refine wp_region_gw (by kernel_rfl) (by kernel_rfl) ?_
        repeat (go_big_quiet_step (exact gw_call (HJ2.out _)))
        refine wpQuiet_nil ?_
        rintro _ ⟨t, rfl⟩
        have H2 : Hid (Below w.heap.size w t.wd ∧ Bk t.wd bn #[.int .i32 cr, .int .u8 cc.r, .int .u8 cc.g, .int .u8 cc.b, .int .u8 cc.a, .int .u8 cb.r, .int .u8 cb.g, .int .u8 cb.b, .int .u8 cb.a, .bool false, .bool true] 65) := ⟨H1.out.1.trans (t.below.mono H1.out.1.size), H1.out.2.below t.below⟩
        generalize t.wd = W2 at *
        clear c0 c1 c2 c3 c4 c5 c6 c7 c8 c9 c10 d0 d1 d2 d3 d4 d5 d6 d7 d8 d9 d10
        have e4 : W2.cell? ⟨bn, 10, none⟩ = some (.bool true) := by rw [H2.out.2.cell]; rfl
        cases jv
        · go_wp2
          go_ret
          exact ⟨by rw [HR.out]; simp, H2.out.1⟩
        · go_wp2
          go_ret
          exact ⟨by rw [HR.out]; simp [hp], H2.out.1⟩
      · obtain rfl : k = 0 := by omega
        have ne : Nonempty (Gw W1) := ⟨⟨W1, Below.refl _ _⟩⟩
        have cf := fun t : Gw W1 => bk_ceat (c := ⟨cr, cc, cb, false, true⟩) (H1.out.2.below t.below)
        have c0 := fun t => (cf t).1
        have c1 := fun t => (cf t).2.1
        have c2 := fun t => (cf t).2.2.1
        have c3 := fun t => (cf t).2.2.2.1
        have c4 := fun t => (cf t).2.2.2.2.1
        have c5 := fun t => (cf t).2.2.2.2.2.1
        have c6 := fun t => (cf t).2.2.2.2.2.2.1
        have c7 := fun t => (cf t).2.2.2.2.2.2.2.1
        have c8 := fun t => (cf t).2.2.2.2.2.2.2.2.1
        have c9 := fun t => (cf t).2.2.2.2.2.2.2.2.2.1
        have c10 := fun t => (cf t).2.2.2.2.2.2.2.2.2.2
        simp only [Nat.zero_add] at c0 c1 c2 c3 c4 c5 c6 c7 c8 c9 c10
        clear cf
        go_wp2_with fail
        refine wp_region_gw (by kernel_rfl) (by kernel_rfl) ?_
        repeat (go_big_quiet_step (fail))
        refine wpQuiet_nil ?_
        rintro _ ⟨t, rfl⟩
        have H2 : Hid (Below w.heap.size w t.wd ∧ Bk t.wd bn #[.int .i32 cr, .int .u8 cc.r, .int .u8 cc.g, .int .u8 cc.b, .int .u8 cc.a, .int .u8 cb.r, .int .u8 cb.g, .int .u8 cb.b, .int .u8 cb.a, .bool false, .bool true] 65) := ⟨H1.out.1.trans (t.below.mono H1.out.1.size), H1.out.2.below t.below⟩
        generalize t.wd = W2 at *
        clear c0 c1 c2 c3 c4 c5 c6 c7 c8 c9 c10
        have e4 : W2.cell? ⟨bn, 10, none⟩ = some (.bool true) := by rw [H2.out.2.cell]; rfl
        go_wp2
        go_ret
        exact ⟨by rw [HR.out]; simp, H2.out.1⟩
  · by_cases hl : k + 1 = n
    · have dl : ((k : Int) + 1 == (n : Int)) = true := by simp; omega
      have hl2 : k + 1 = n := by omega
      have ne : Nonempty (Gw W1) := ⟨⟨W1, Below.refl _ _⟩⟩
      have cf := fun t : Gw W1 => bk_ceat (c := ⟨cr, cc, cb, true, tl⟩) (H1.out.2.below t.below)
      have c0 := fun t => (cf t).1
      have c1 := fun t => (cf t).2.1
      have c2 := fun t => (cf t).2.2.1
      have c3 := fun t => (cf t).2.2.2.1
      have c4 := fun t => (cf t).2.2.2.2.1
      have c5 := fun t => (cf t).2.2.2.2.2.1
      have c6 := fun t => (cf t).2.2.2.2.2.2.1
      have c7 := fun t => (cf t).2.2.2.2.2.2.2.1
      have c8 := fun t => (cf t).2.2.2.2.2.2.2.2.1
      have c9 := fun t => (cf t).2.2.2.2.2.2.2.2.2.1
      have c10 := fun t => (cf t).2.2.2.2.2.2.2.2.2.2
      simp only [Nat.zero_add] at c0 c1 c2 c3 c4 c5 c6 c7 c8 c9 c10
      clear cf
      refine wp_region_gw (by kernel_rfl) (by kernel_rfl) ?_
      repeat (go_big_quiet_step (fail))
      refine wpQuiet_nil ?_
      rintro _ ⟨t, rfl⟩
      have H2 : Hid (Below w.heap.size w t.wd ∧ Bk t.wd bn #[.int .i32 cr, .int .u8 cc.r, .int .u8 cc.g, .int .u8 cc.b, .int .u8 cc.a, .int .u8 cb.r, .int .u8 cb.g, .int .u8 cb.b, .int .u8 cb.a, .bool true, .bool tl] 65) := ⟨H1.out.1.trans (t.below.mono H1.out.1.size), H1.out.2.below t.below⟩
      generalize t.wd = W2 at *
      clear c0 c1 c2 c3 c4 c5 c6 c7 c8 c9 c10
      go_wp2
      go_ret
      exact ⟨by rw [HR.out]; simp [hl2], H2.out.1⟩
    · have hlt : k + 1 < n := by omega
      have inx : ((k : Int) + 1) < n := by omega
      have dl : ((k : Int) + 1 == (n : Int)) = false := by simp; omega
      have inx2 : (k : Int) + 1 < n := by omega
      have hl2 : ¬ k + 1 = n := by omega
      have ne : Nonempty (Gw W1) := ⟨⟨W1, Below.refl _ _⟩⟩
      have cf := fun t : Gw W1 => bk_ceat (c := ⟨cr, cc, cb, true, tl⟩) (H1.out.2.below t.below)
      have c0 := fun t => (cf t).1
      have c1 := fun t => (cf t).2.1
      have c2 := fun t => (cf t).2.2.1
      have c3 := fun t => (cf t).2.2.2.1
      have c4 := fun t => (cf t).2.2.2.2.1
      have c5 := fun t => (cf t).2.2.2.2.2.1
      have c6 := fun t => (cf t).2.2.2.2.2.2.1
      have c7 := fun t => (cf t).2.2.2.2.2.2.2.1
      have c8 := fun t => (cf t).2.2.2.2.2.2.2.2.1
      have c9 := fun t => (cf t).2.2.2.2.2.2.2.2.2.1
      have c10 := fun t => (cf t).2.2.2.2.2.2.2.2.2.2
      simp only [Nat.zero_add] at c0 c1 c2 c3 c4 c5 c6 c7 c8 c9 c10
      clear cf
      have nf := fun t : Gw W1 => cell_gw ((HN.out _ H1.out.1).1 hlt) (HN.out _ H1.out.1).2.2 t
      have d0 := fun t => (nf t).1
      have d1 := fun t => (nf t).2.1
      have d2 := fun t => (nf t).2.2.1
      have d3 := fun t => (nf t).2.2.2.1
      have d4 := fun t => (nf t).2.2.2.2.1
      have d5 := fun t => (nf t).2.2.2.2.2.1
      have d6 := fun t => (nf t).2.2.2.2.2.2.1
      have d7 := fun t => (nf t).2.2.2.2.2.2.2.1
      have d8 := fun t => (nf t).2.2.2.2.2.2.2.2.1
      have d9 := fun t => (nf t).2.2.2.2.2.2.2.2.2.1
      have d10 := fun t => (nf t).2.2.2.2.2.2.2.2.2.2
      clear nf
      generalize hjx : j ⟨cr, cc, cb, true, tl⟩ x = jx at *
      refine wp_region_gw (by kernel_rfl) (by kernel_rfl) ?_
      repeat (go_big_quiet_step (exact gw_call (HJ1.out _)))
      refine wpQuiet_nil ?_
      rintro _ ⟨t, rfl⟩
      have H2 : Hid (Below w.heap.size w t.wd ∧ Bk t.wd bn #[.int .i32 cr, .int .u8 cc.r, .int .u8 cc.g, .int .u8 cc.b, .int .u8 cc.a, .int .u8 cb.r, .int .u8 cb.g, .int .u8 cb.b, .int .u8 cb.a, .bool true, .bool tl] 65) := ⟨H1.out.1.trans (t.below.mono H1.out.1.size), H1.out.2.below t.below⟩
      generalize t.wd = W2 at *
      clear c0 c1 c2 c3 c4 c5 c6 c7 c8 c9 c10 d0 d1 d2 d3 d4 d5 d6 d7 d8 d9 d10
      cases jx
      · go_wp2
        go_ret
        exact ⟨by rw [HR.out]; simp [hl2], H2.out.1⟩
      · clear ne H1
        obtain ⟨H1⟩ : Nonempty (PLift (Hid (Below w.heap.size w W2 ∧ Bk W2 bn #[.int .i32 cr, .int .u8 cc.r, .int .u8 cc.g, .int .u8 cc.b, .int .u8 cc.a, .int .u8 cb.r, .int .u8 cb.g, .int .u8 cb.b, .int .u8 cb.a, .bool true, .bool tl] 65))) := ⟨⟨H2⟩⟩
        replace H1 := H1.down
        clear H2
        generalize W2 = W1 at *
        cases tl
        · have ne : Nonempty (Gw W1) := ⟨⟨W1, Below.refl _ _⟩⟩
          have cf := fun t : Gw W1 => bk_ceat (c := ⟨cr, cc, cb, true, false⟩) (H1.out.2.below t.below)
          have c0 := fun t => (cf t).1
          have c1 := fun t => (cf t).2.1
          have c2 := fun t => (cf t).2.2.1
          have c3 := fun t => (cf t).2.2.2.1
          have c4 := fun t => (cf t).2.2.2.2.1
          have c5 := fun t => (cf t).2.2.2.2.2.1
          have c6 := fun t => (cf t).2.2.2.2.2.2.1
          have c7 := fun t => (cf t).2.2.2.2.2.2.2.1
          have c8 := fun t => (cf t).2.2.2.2.2.2.2.2.1
          have c9 := fun t => (cf t).2.2.2.2.2.2.2.2.2.1
          have c10 := fun t => (cf t).2.2.2.2.2.2.2.2.2.2
          simp only [Nat.zero_add] at c0 c1 c2 c3 c4 c5 c6 c7 c8 c9 c10
          clear cf
          go_wp2_with fail
          refine wp_region_gw (by kernel_rfl) (by kernel_rfl) ?_
          repeat (go_big_quiet_step (fail))
          refine wpQuiet_nil ?_
          rintro _ ⟨t, rfl⟩
          have H2 : Hid (Below w.heap.size w t.wd ∧ Bk t.wd bn #[.int .i32 cr, .int .u8 cc.r, .int .u8 cc.g, .int .u8 cc.b, .int .u8 cc.a, .int .u8 cb.r, .int .u8 cb.g, .int .u8 cb.b, .int .u8 cb.a, .bool true, .bool false] 65) := ⟨H1.out.1.trans (t.below.mono H1.out.1.size), H1.out.2.below t.below⟩
          generalize t.wd = W2 at *
          clear c0 c1 c2 c3 c4 c5 c6 c7 c8 c9 c10
          have e4 : W2.cell? ⟨bn, 10, none⟩ = some (.bool false) := by rw [H2.out.2.cell]; rfl
          go_wp2
          go_ret
          exact ⟨by rw [HR.out]; simp [hl2], H2.out.1⟩
        · by_cases hp : 0 < k
          · have wp_ := w1p hp
            have ip : (kp : Int) < n := by have := hkp hp; omega
            have hkp2 := hkp hp
            have dp : decide (0 < (k : Int)) = true := by simp; omega
            clear w1p hkp
            have ne : Nonempty (Gw W1) := ⟨⟨W1, Below.refl _ _⟩⟩
            have cf := fun t : Gw W1 => bk_ceat (c := ⟨cr, cc, cb, true, true⟩) (H1.out.2.below t.below)
            have c0 := fun t => (cf t).1
            have c1 := fun t => (cf t).2.1
            have c2 := fun t => (cf t).2.2.1
            have c3 := fun t => (cf t).2.2.2.1
            have c4 := fun t => (cf t).2.2.2.2.1
            have c5 := fun t => (cf t).2.2.2.2.2.1
            have c6 := fun t => (cf t).2.2.2.2.2.2.1
            have c7 := fun t => (cf t).2.2.2.2.2.2.2.1
            have c8 := fun t => (cf t).2.2.2.2.2.2.2.2.1
            have c9 := fun t => (cf t).2.2.2.2.2.2.2.2.2.1
            have c10 := fun t => (cf t).2.2.2.2.2.2.2.2.2.2
            simp only [Nat.zero_add] at c0 c1 c2 c3 c4 c5 c6 c7 c8 c9 c10
            clear cf
            have nf := fun t : Gw W1 => cell_gw ((HN.out _ H1.out.1).2.1 hp) (HN.out _ H1.out.1).2.2 t
            have d0 := fun t => (nf t).1
            have d1 := fun t => (nf t).2.1
            have d2 := fun t => (nf t).2.2.1
            have d3 := fun t => (nf t).2.2.2.1
            have d4 := fun t => (nf t).2.2.2.2.1
            have d5 := fun t => (nf t).2.2.2.2.2.1
            have d6 := fun t => (nf t).2.2.2.2.2.2.1
            have d7 := fun t => (nf t).2.2.2.2.2.2.2.1
            have d8 := fun t => (nf t).2.2.2.2.2.2.2.2.1
            have d9 := fun t => (nf t).2.2.2.2.2.2.2.2.2.1
            have d10 := fun t => (nf t).2.2.2.2.2.2.2.2.2.2
            clear nf
            generalize hjv : j y ⟨cr, cc, cb, true, true⟩ = jv at *
            go_wp2_with fail
            refine wp_region_gw (by kernel_rfl) (by kernel_rfl) ?_
            repeat (go_big_quiet_step (exact gw_call (HJ2.out _)))
            refine wpQuiet_nil ?_
            rintro _ ⟨t, rfl⟩
            have H2 : Hid (Below w.heap.size w t.wd ∧ Bk t.wd bn #[.int .i32 cr, .int .u8 cc.r, .int .u8 cc.g, .int .u8 cc.b, .int .u8 cc.a, .int .u8 cb.r, .int .u8 cb.g, .int .u8 cb.b, .int .u8 cb.a, .bool true, .bool true] 65) := ⟨H1.out.1.trans (t.below.mono H1.out.1.size), H1.out.2.below t.below⟩
            generalize t.wd = W2 at *
            clear c0 c1 c2 c3 c4 c5 c6 c7 c8 c9 c10 d0 d1 d2 d3 d4 d5 d6 d7 d8 d9 d10
            have e4 : W2.cell? ⟨bn, 10, none⟩ = some (.bool true) := by rw [H2.out.2.cell]; rfl
            cases jv
            · go_wp2
              go_ret
              exact ⟨by rw [HR.out]; simp [hl2], H2.out.1⟩
            · go_wp2
              go_ret
              exact ⟨by rw [HR.out]; simp [hl2, hp], H2.out.1⟩
          · obtain rfl : k = 0 := by omega
            have ne : Nonempty (Gw W1) := ⟨⟨W1, Below.refl _ _⟩⟩
            have cf := fun t : Gw W1 => bk_ceat (c := ⟨cr, cc, cb, true, true⟩) (H1.out.2.below t.below)
            have c0 := fun t => (cf t).1
            have c1 := fun t => (cf t).2.1
            have c2 := fun t => (cf t).2.2.1
            have c3 := fun t => (cf t).2.2.2.1
            have c4 := fun t => (cf t).2.2.2.2.1
            have c5 := fun t => (cf t).2.2.2.2.2.1
            have c6 := fun t => (cf t).2.2.2.2.2.2.1
            have c7 := fun t => (cf t).2.2.2.2.2.2.2.1
            have c8 := fun t => (cf t).2.2.2.2.2.2.2.2.1
            have c9 := fun t => (cf t).2.2.2.2.2.2.2.2.2.1
            have c10 := fun t => (cf t).2.2.2.2.2.2.2.2.2.2
            simp only [Nat.zero_add] at c0 c1 c2 c3 c4 c5 c6 c7 c8 c9 c10
            clear cf
            go_wp2_with fail
            refine wp_region_gw (by kernel_rfl) (by kernel_rfl) ?_
            repeat (go_big_quiet_step (fail))
            refine wpQuiet_nil ?_
            rintro _ ⟨t, rfl⟩
            have H2 : Hid (Below w.heap.size w t.wd ∧ Bk t.wd bn #[.int .i32 cr, .int .u8 cc.r, .int .u8 cc.g, .int .u8 cc.b, .int .u8 cc.a, .int .u8 cb.r, .int .u8 cb.g, .int .u8 cb.b, .int .u8 cb.a, .bool true, .bool true] 65) := ⟨H1.out.1.trans (t.below.mono H1.out.1.size), H1.out.2.below t.below⟩
            generalize t.wd = W2 at *
            clear c0 c1 c2 c3 c4 c5 c6 c7 c8 c9 c10
            have e4 : W2.cell? ⟨bn, 10, none⟩ = some (.bool true) := by rw [H2.out.2.cell]; rfl
            go_wp2
            go_ret
            exact ⟨by rw [HR.out]; simp [hl2], H2.out.1⟩

theorem way_any (F : Nat) (j : Ce → Ce → Bool) (l : List Ce) (v : Value) (k : Nat) (w : World) (hv : LsC w v l) (hk : k < l.length) (hl : l.length ≤ 1000000) (eg : ∀ args w, (callFunc F args).run Tryz.prog w = .ok (.enter F args) w)
    (hJ : ∀ x y W, Calls Tryz.prog F #[(Value.agg #[.int .i32 x.r, .int .u8 x.c.r, .int .u8 x.c.g, .int .u8 x.c.b, .int .u8 x.c.a, .int .u8 x.b.r, .int .u8 x.b.g, .int .u8 x.b.b, .int .u8 x.b.a, .bool x.wd, .bool x.tl]), (Value.agg #[.int .i32 y.r, .int .u8 y.c.r, .int .u8 y.c.g, .int .u8 y.c.b, .int .u8 y.c.a, .int .u8 y.b.r, .int .u8 y.b.g, .int .u8 y.b.b, .int .u8 y.b.a, .bool y.wd, .bool y.tl])] W fun e w' => e = .returned (.bool (j x y)) ∧ Below W.heap.size W w') :
    Calls Tryz.prog 75 #[v, .int .i64 k, .func (.func F) #[] #[]] w fun e w' => e = .returned (.int .i64 (wayF j l k)) ∧ Below w.heap.size w w' := by
  obtain ⟨oa, cap, rfl, _, hg⟩ := id hv
  obtain ⟨g, o, rfl, hgl, hat⟩ := hg (by omega)
  refine way_core F j k (k + 1) (k - 1) l.length g o cap l[k].r l[k].c l[k].b l[k].wd l[k].tl (l.getD (k + 1) ceZ) (l.getD (k - 1) ceZ) w hgl hk hl rfl (fun h => by omega) (hat k hk) (fun h => ?_) (fun h => ?_) eg hJ _ ?_
  · rw [getD_atC h]; exact hat _ h
  · rw [getD_atC (by omega)]; exact hat _ (by omega)
  · unfold wayF
    rw [getD_atC hk]

end Go.Proofs.YtapachlhdgehjaaGreatDoor

/-
  Package cells: writeRow.
-/
namespace Go.Proofs.YtapachlhdgehjaaGreatDoor
open Go.RowKit Go.Lib

theorem way_four (j : Ce → Ce → Bool) (l : List Ce) (k : Nat) : wayF j l k = 0 ∨ wayF j l k = 1 ∨ wayF j l k = 2 ∨ wayF j l k = 3 := by
  unfold wayF
  repeat' split
  all_goals simp
def tlB (l : List Ce) (k : Nat) : List UInt8 := if wayF smR l k = 0 then Lib.encodeRune (l.getD k ceZ).r else if wayF smR l k = 1 then [] else [32]
def rowB (l : List Ce) (n : Nat) : List UInt8 := (List.range n).flatMap (tlB l)
theorem rowB_succ (l : List Ce) (n : Nat) : rowB l (n + 1) = rowB l n ++ tlB l n := by simp [rowB, List.range_succ]
theorem tlB_len (l : List Ce) (k : Nat) : (tlB l k).length ≤ 4 := by
  have h := (Lib.runeCells_le (l.getD k ceZ).r).2
  rw [Lib.runeCells_length] at h
  unfold tlB
  split
  · exact h
  · split <;> simp
theorem rowB_len (l : List Ce) : ∀ n, (rowB l n).length ≤ 4 * n
  | 0 => by simp [rowB]
  | n + 1 => by
    have h1 := rowB_len l n
    have h2 := tlB_len l n
    rw [rowB_succ, List.length_append]
    omega
theorem bld_tyh : TyH 91 (([] : List Value).length + 2) := ⟨by decide, by kernel_rfl, by decide⟩

structure WrW (w0 : World) (b : Nat) (bs : List UInt8) (l : List Ce) (k : Nat) (w wr : World) : Prop where
  bd : IsBd 91 [] w0.heap.size b (Lib.byteCells (bs ++ rowB l k)) wr
  kp : KpD w0.heap.size b w wr
  lo : Below w0.heap.size w0 wr
theorem WrW.bel {w0 : World} {b : Nat} {bs : List UInt8} {l : List Ce} {k : Nat} {w wr W : World} (h : WrW w0 b bs l k w wr) (hb : Below wr.heap.size wr W) : WrW w0 b bs l k w W :=
  ⟨h.bd.below hb, h.kp.trans (KpD.of_below h.lo.size hb), h.lo.trans (hb.mono h.lo.size)⟩
theorem WrW.next {w0 : World} {b : Nat} {bs : List UInt8} {l : List Ce} {k : Nat} {w wr W : World} (h : WrW w0 b bs l k w wr) {xs : List UInt8} (hx : tlB l k = xs) (hb : BdF 91 [] w0.heap.size b (.pointer (some ⟨b, 0, none⟩)) (Lib.byteCells (bs ++ rowB l k) ++ Lib.byteCells xs) W) (hk : KpD w0.heap.size b wr W) : WrW w0 b bs l (k + 1) w W := by
  refine ⟨.inr ?_, h.kp.trans hk, h.lo.trans hk.bw⟩
  rw [rowB_succ, hx, ← List.append_assoc]
  rw [show Lib.byteCells (bs ++ rowB l k ++ xs) = Lib.byteCells (bs ++ rowB l k) ++ Lib.byteCells xs by simp [Lib.byteCells]]
  exact hb

set_option maxRecDepth 20000 in
set_option maxHeartbeats 4000000 in
theorem wrow_any (w0 : World) (b : Nat) (bs : List UInt8) (l : List Ce) (v : Value) (w : World) (hv : LsC w0 v l) (hl : l.length ≤ 300000) (hr : ∀ c ∈ l, 0 ≤ c.r ∧ c.r ≤ 1114111) (h0 : Below w0.heap.size w0 w) (h : IsBd 91 [] w0.heap.size b (Lib.byteCells bs) w) (hlen : bs.length ≤ 2000000) :
    Calls Tryz.prog 44 #[.pointer (some ⟨b, 0, none⟩), v] w fun e w' => e = .returned (.tuple #[]) ∧ WrW w0 b bs l l.length w w' := by
  have HV : Hid (∀ W, Below w0.heap.size w0 W → LsC W v l) := fun W hb => hv.below hb
  have HRn : Hid (∀ k (h : k < l.length), 0 ≤ (l[k]).r ∧ (l[k]).r ≤ 1114111) := fun k h => hr _ (List.getElem_mem h)
  have HLn : Hid (∀ k, k ≤ l.length → (Lib.byteCells (bs ++ rowB l k)).length + 4 ≤ 140737488355328) := fun k hk => by
    have := rowB_len l k
    rw [Lib.byteCells_length, List.length_append]
    omega
  have H0 : Hid (WrW w0 b bs l 0 w w) := ⟨by simpa [rowB] using h, KpD.refl _ _ _, h0⟩
  have eg := fun args (w : World) => enters_of (P := Tryz.prog) Tryz.func76 (by kernel_rfl) rfl args w
  obtain ⟨oa, cap, rfl, _, hg⟩ := id hv
  have HG : Hid (0 < l.length → ∃ g o, oa = some ⟨g, o, none⟩ ∧ g < w0.heap.size ∧ ∀ i (h : i < l.length), CeAt w0 g (o + i * 11) l[i]) := hg
  clear hv hr h0 h hlen hg
  go_enter Tryz.func44, Tryz.ntmps44
  go_wp2_with fail
  go_loopw [8] (fun i wr => ∃ k : Nat, k ≤ l.length ∧ i = .int .i64 k ∧ Hid (WrW w0 b bs l k w wr)) (fun i _ => l.length - (RowKit.intOf i).toNat)
  case atStart => exact ⟨0, Nat.zero_le _, rfl, H0⟩
  case round =>
    obtain ⟨k, hk, rfl, HK⟩ := hrel
    clear H0
    by_cases hlt : k < l.length
    · have ik : (k : Int) < l.length := by omega
      obtain ⟨g, o, rfl, hgl, hat⟩ := HG.out (by omega)
      obtain ⟨a0, a1, a2, a3, a4, a5, a6, a7, a8, a9, a10⟩ := (hat k hlt).kept (w' := wr) fun j => HK.out.lo.cell (p := ⟨g, j, none⟩) hgl
      have hr1 := HRn.out k hlt
      have hcd : l.getD k ceZ = l[k] := getD_atC hlt
      have HX : Hid (∀ W, W = wr.alloc (.cells (#[.int .i32 l[k].r, .int .u8 l[k].c.r, .int .u8 l[k].c.g, .int .u8 l[k].c.b, .int .u8 l[k].c.a, .int .u8 l[k].b.r, .int .u8 l[k].b.g, .int .u8 l[k].b.b, .int .u8 l[k].b.a, .bool l[k].wd, .bool l[k].tl]) 65) → WrW w0 b bs l k w W ∧ Bk W wr.heap.size (#[.int .i32 l[k].r, .int .u8 l[k].c.r, .int .u8 l[k].c.g, .int .u8 l[k].c.b, .int .u8 l[k].c.a, .int .u8 l[k].b.r, .int .u8 l[k].b.g, .int .u8 l[k].b.b, .int .u8 l[k].b.a, .bool l[k].wd, .bool l[k].tl]) 65 ∧ b < wr.heap.size) := fun W hW => by
        subst hW
        exact ⟨HK.out.bel ((Below.refl _ _).alloc (Nat.le_refl _) _), Bk.new _ _ _, HK.out.bd.lt.2⟩
      have HT : Hid (∀ q, wayF smR l k = q → tlB l k = if q = 0 then Lib.encodeRune (l[k]).r else if q = 1 then [] else [32]) := fun q hq => by unfold tlB; rw [hq, hcd]
      have HQ : Hid (wayF smR l k = 0 ∨ wayF smR l k = 1 ∨ wayF smR l k = 2 ∨ wayF smR l k = 3) := way_four smR l k
      have HWy : Hid (∀ W, Below w0.heap.size w0 W → Calls Tryz.prog 75 #[.slice (some ⟨g, o, none⟩) l.length cap, .int .i64 k, .func (.func 76) #[] #[]] W fun e w' => e = .returned (.int .i64 (wayF smR l k)) ∧ Below W.heap.size W w') := fun W hb => way_any 76 smR l _ k W (HV.out W hb) hlt (by omega) eg smR_any
      clear hat hcd HK HV
      generalize l[k] = c at *
      obtain ⟨q, hq⟩ : ∃ q, wayF smR l k = q := ⟨_, rfl⟩
      rw [hq] at HWy HQ
      have HT2 := HT.out q hq
      have HT3 : Hid (tlB l k = if q = 0 then Lib.encodeRune c.r else if q = 1 then [] else [32]) := HT2
      clear HT HT2 hq
      go_wp2_with fail
      obtain ⟨W1, hW1⟩ : ∃ W1, W1 = wr.alloc (.cells (#[.int .i32 c.r, .int .u8 c.c.r, .int .u8 c.c.g, .int .u8 c.c.b, .int .u8 c.c.a, .int .u8 c.b.r, .int .u8 c.b.g, .int .u8 c.b.b, .int .u8 c.b.a, .bool c.wd, .bool c.tl]) 65) := ⟨_, rfl⟩
      have H1 : Hid (WrW w0 b bs l k w W1 ∧ Bk W1 wr.heap.size (#[.int .i32 c.r, .int .u8 c.c.r, .int .u8 c.c.g, .int .u8 c.c.b, .int .u8 c.c.a, .int .u8 c.b.r, .int .u8 c.b.g, .int .u8 c.b.b, .int .u8 c.b.a, .bool c.wd, .bool c.tl]) 65 ∧ b < wr.heap.size) := HX.out W1 hW1
      rw [← hW1]
      clear hW1 HX a0 a1 a2 a3 a4 a5 a6 a7 a8 a9 a10
      refine (HWy.out _ H1.out.1.lo).mono ?_
      rintro e W2 ⟨rfl, hb2⟩
      have H2 : Hid (WrW w0 b bs l k w W2 ∧ Bk W2 wr.heap.size (#[.int .i32 c.r, .int .u8 c.c.r, .int .u8 c.c.g, .int .u8 c.c.b, .int .u8 c.c.a, .int .u8 c.b.r, .int .u8 c.b.g, .int .u8 c.b.b, .int .u8 c.b.a, .bool c.wd, .bool c.tl]) 65 ∧ b < wr.heap.size) := ⟨H1.out.1.bel hb2, H1.out.2.1.below hb2, H1.out.2.2⟩
      clear hb2 H1 HWy
      rcases HQ.out with rfl | rfl | rfl | rfl
      · have e0 : W2.cell? ⟨wr.heap.size, 0, none⟩ = some (.int .i32 c.r) := by rw [H2.out.2.1.cell]; rfl
        go_wp2_with fail
        refine (dWriteRune_any 91 [] w0.heap.size b _ c.r (by omega) (by omega) _ bld_tyh H2.out.1.bd (HLn.out k hk) H2.out.1.lo.size).mono ?_
        rintro e W3 ⟨⟨u, rfl⟩, h3, k3⟩
        have H3 : Hid (WrW w0 b bs l (k + 1) w W3) := H2.out.1.next (xs := Lib.encodeRune c.r) (HT3.out.trans (by simp)) (by rw [Lib.byteCells_encodeRune]; exact h3) k3
        clear h3 k3 H2 e0
        go_wp2
        exact ⟨⟨k + 1, by omega, by go_num, H3⟩, by simp [RowKit.intOf]; omega⟩
      · have H3 : Hid (WrW w0 b bs l (k + 1) w W2) := by
          have e : tlB l k = [] := HT3.out.trans (by simp)
          refine ⟨?_, H2.out.1.kp, H2.out.1.lo⟩
          rw [rowB_succ, e, List.append_nil]
          exact H2.out.1.bd
        clear H2
        go_wp2
        exact ⟨⟨k + 1, by omega, by go_num, H3⟩, by simp [RowKit.intOf]; omega⟩
      · go_wp2_with fail
        refine (dWriteByte_any 91 [] w0.heap.size b _ 32 _ bld_tyh H2.out.1.bd (by have := HLn.out k hk; omega) H2.out.1.lo.size).mono ?_
        rintro e W3 ⟨⟨u, rfl⟩, h3, k3⟩
        have H3 : Hid (WrW w0 b bs l (k + 1) w W3) := H2.out.1.next (xs := [32]) (HT3.out.trans (by simp)) h3 k3
        clear h3 k3 H2
        go_wp2
        exact ⟨⟨k + 1, by omega, by go_num, H3⟩, by simp [RowKit.intOf]; omega⟩
      · go_wp2_with fail
        refine (dWriteByte_any 91 [] w0.heap.size b _ 32 _ bld_tyh H2.out.1.bd (by have := HLn.out k hk; omega) H2.out.1.lo.size).mono ?_
        rintro e W3 ⟨⟨u, rfl⟩, h3, k3⟩
        have H3 : Hid (WrW w0 b bs l (k + 1) w W3) := H2.out.1.next (xs := [32]) (HT3.out.trans (by simp)) h3 k3
        clear h3 k3 H2
        go_wp2
        exact ⟨⟨k + 1, by omega, by go_num, H3⟩, by simp [RowKit.intOf]; omega⟩
    · obtain rfl : k = l.length := by omega
      have HE : Hid (WrW w0 b bs l l.length w wr) := HK
      clear HK
      go_wp2
      go_end0
      exact ⟨rfl, HE.out⟩

end Go.Proofs.YtapachlhdgehjaaGreatDoor
