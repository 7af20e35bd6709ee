/-
  Texts of this claim, one behind the other: what each is about stands ahead of it.
-/
import Derived.Test.YtapachlhdgehjaaGreatDoorK54
import Derived.Test.YtapachlhdgehjaaGreatDoorK10
/-
  Package cells: meant of a rune of one cell, put of one cell.
-/
namespace Go.Proofs.YtapachlhdgehjaaGreatDoor
open Go.RowKit

theorem str_eq0 (w : World) : (binOp .eql 9 (.string ByteArray.empty) (.string ⟨#[]⟩)).run Tryz.prog w = .ok (.bool true) w := by kernel_rfl

set_option maxRecDepth 20000 in
set_option maxHeartbeats 8000000 in
theorem meant_one (r : Int) (w : World) (T : Tabs w) (hw : width r = 1) :
    Calls Tryz.prog 122 #[.int .i32 r, .string ByteArray.empty] w fun e w' => ∃ hb, e = .returned (.slice (some ⟨hb, 0, none⟩) 1 2) ∧ Hid (Bk w' hb (duoA ⟨r, coZ, coZ, false, false⟩ ⟨0, coZ, coZ, false, false⟩) 211 ∧ w.heap.size ≤ hb ∧ Below w.heap.size w w') := by
  have HS : Hid (Calls Tryz.prog 131 #[.int .i32 r] w fun e w' => e = .returned (.tuple #[.agg (duoA ⟨r, coZ, coZ, false, false⟩ ⟨0, coZ, coZ, false, false⟩), .int .i64 1]) ∧ Below w.heap.size w w') := by
    have := shape_any r w T
    unfold shp1 shp2 at this
    rw [hw, if_neg (by decide), if_neg (by decide)] at this
    exact this
  have hq := str_eq0
  clear T hw
  go_enter Tryz.func122, Tryz.ntmps122
  go_wp2_with fail
  refine HS.out.mono ?_
  rintro e w1 ⟨rfl, hb1⟩
  have H2 : Hid (∀ W, W = w1.alloc (.cells (duoA ceZ ceZ) 211) → Bk W w1.heap.size (duoA ceZ ceZ) 211 ∧ Below w.heap.size w W ∧ w.heap.size ≤ w1.heap.size) := fun W hW => by
    subst hW
    exact ⟨Bk.new _ _ _, hb1.alloc hb1.size _, hb1.size⟩
  have hZ : (duoA ceZ ceZ) = #[.int .i32 0, .int .u8 0, .int .u8 0, .int .u8 0, .int .u8 0, .int .u8 0, .int .u8 0, .int .u8 0, .int .u8 0, .bool false, .bool false, .int .i32 0, .int .u8 0, .int .u8 0, .int .u8 0, .int .u8 0, .int .u8 0, .int .u8 0, .int .u8 0, .int .u8 0, .bool false, .bool false] := rfl
  rw [hZ] at H2
  clear hb1 HS hZ
  obtain ⟨D, hD⟩ : ∃ D, D = duoA ⟨r, coZ, coZ, false, false⟩ ⟨0, coZ, coZ, false, false⟩ := ⟨_, rfl⟩
  have HD : Hid (D.size = 22 ∧ D.all (·.oneCell') = true) := by rw [hD]; exact ⟨rfl, by simp [Value.oneCell']⟩
  have HDe : Hid (D = duoA ⟨r, coZ, coZ, false, false⟩ ⟨0, coZ, coZ, false, false⟩) := hD
  rw [← hD]
  clear hD
  have HDs : Hid ((Tryz.prog.info? 211).map (·.size) = some D.size) := by unfold Hid; rw [HD.out.1]; exact duo_size
  go_wp2_with (refine wpList_store_row rfl 211 (.tmp 5) (.tmp 10) rfl w1.heap.size D rfl rfl 211 #[.int .i32 0, .int .u8 0, .int .u8 0, .int .u8 0, .int .u8 0, .int .u8 0, .int .u8 0, .int .u8 0, .int .u8 0, .bool false, .bool false, .int .i32 0, .int .u8 0, .int .u8 0, .int .u8 0, .int .u8 0, .int .u8 0, .int .u8 0, .int .u8 0, .int .u8 0, .bool false, .bool false] (H2.out _ rfl).1 HDs.out HD.out.1.symm HD.out.2 ?_)
  obtain ⟨W3, hW3⟩ : ∃ W3, W3 = (w1.alloc (.cells #[.int .i32 0, .int .u8 0, .int .u8 0, .int .u8 0, .int .u8 0, .int .u8 0, .int .u8 0, .int .u8 0, .int .u8 0, .bool false, .bool false, .int .i32 0, .int .u8 0, .int .u8 0, .int .u8 0, .int .u8 0, .int .u8 0, .int .u8 0, .int .u8 0, .int .u8 0, .bool false, .bool false] 211)).setRow w1.heap.size D := ⟨_, rfl⟩
  obtain ⟨b, hb⟩ : ∃ b, b = w1.heap.size := ⟨_, rfl⟩
  have H3 : Hid (Bk W3 b D 211 ∧ w.heap.size ≤ b ∧ Below w.heap.size w W3) := by
    rw [hW3, hb]
    exact ⟨setRow_heap _ _ _ _ 211 _ (H2.out _ rfl).1, (H2.out _ rfl).2.2, below_setRow (H2.out _ rfl).2.1 (H2.out _ rfl).2.2 _⟩
  rw [← hW3, ← hb]
  clear hW3 hb H2
  go_wp2_with fail
  go_ret
  exact ⟨b, rfl, by rw [← HDe.out]; exact H3⟩

end Go.Proofs.YtapachlhdgehjaaGreatDoor

/-
  Package cells: put of one cell.
-/
namespace Go.Proofs.YtapachlhdgehjaaGreatDoor
open Go.RowKit

theorem RdW.far {lo b W H g n cap : Nat} {x y : Int} {c k : Co} {L : List Ce} {w : World} (h : RdW lo b W H g n cap x y c k L w) {q : Nat} (h1 : q ≠ b) (h2 : q ≠ g) (o : Nat) (v : Value) : RdW lo b W H g n cap x y c k L (w.setCell ⟨q, o, none⟩ v) :=
  ⟨h.bk.other ⟨q, o, none⟩ v h1, scm_far h.sc (fun e => h2 e.symm) o v, h.ne, h.lb, by simpa using h.sz⟩
theorem RdW.px {lo b W H g n cap : Nat} {x y : Int} {c k : Co} {L : List Ce} {w : World} (h : RdW lo b W H g n cap x y c k L w) (x' : Int) : RdW lo b W H g n cap x' y c k L (w.setCell ⟨b, 3, none⟩ (.int .i64 x')) :=
  ⟨h.bk.put 3 (.int .i64 x'), scm_far h.sc h.ne _ _, h.ne, h.lb, by simpa using h.sz⟩
theorem box_dip {w : World} {q : Nat} {z : Ce} {t : TypeId} (h : Bk w q (#[.int .i32 z.r, .int .u8 z.c.r, .int .u8 z.c.g, .int .u8 z.c.b, .int .u8 z.c.a, .int .u8 z.b.r, .int .u8 z.b.g, .int .u8 z.b.b, .int .u8 z.b.a, .bool z.wd, .bool z.tl]) t) (c k : Co) : Bk ((((((((w.setCell ⟨q, 1, none⟩ (.int .u8 c.r)).setCell ⟨q, 2, none⟩ (.int .u8 c.g)).setCell ⟨q, 3, none⟩ (.int .u8 c.b)).setCell ⟨q, 4, none⟩ (.int .u8 c.a)).setCell ⟨q, 5, none⟩ (.int .u8 k.r)).setCell ⟨q, 6, none⟩ (.int .u8 k.g)).setCell ⟨q, 7, none⟩ (.int .u8 k.b)).setCell ⟨q, 8, none⟩ (.int .u8 k.a)) q (#[.int .i32 (⟨z.r, c, k, z.wd, z.tl⟩ : Ce).r, .int .u8 (⟨z.r, c, k, z.wd, z.tl⟩ : Ce).c.r, .int .u8 (⟨z.r, c, k, z.wd, z.tl⟩ : Ce).c.g, .int .u8 (⟨z.r, c, k, z.wd, z.tl⟩ : Ce).c.b, .int .u8 (⟨z.r, c, k, z.wd, z.tl⟩ : Ce).c.a, .int .u8 (⟨z.r, c, k, z.wd, z.tl⟩ : Ce).b.r, .int .u8 (⟨z.r, c, k, z.wd, z.tl⟩ : Ce).b.g, .int .u8 (⟨z.r, c, k, z.wd, z.tl⟩ : Ce).b.b, .int .u8 (⟨z.r, c, k, z.wd, z.tl⟩ : Ce).b.a, .bool (⟨z.r, c, k, z.wd, z.tl⟩ : Ce).wd, .bool (⟨z.r, c, k, z.wd, z.tl⟩ : Ce).tl]) t := by
  have h0 : Bk ((w).setCell ⟨q, 1, none⟩ (.int .u8 c.r)) q #[.int .i32 z.r, .int .u8 c.r, .int .u8 z.c.g, .int .u8 z.c.b, .int .u8 z.c.a, .int .u8 z.b.r, .int .u8 z.b.g, .int .u8 z.b.b, .int .u8 z.b.a, .bool z.wd, .bool z.tl] t := h.put 1 (.int .u8 c.r)
  have h1 : Bk (((w).setCell ⟨q, 1, none⟩ (.int .u8 c.r)).setCell ⟨q, 2, none⟩ (.int .u8 c.g)) q #[.int .i32 z.r, .int .u8 c.r, .int .u8 c.g, .int .u8 z.c.b, .int .u8 z.c.a, .int .u8 z.b.r, .int .u8 z.b.g, .int .u8 z.b.b, .int .u8 z.b.a, .bool z.wd, .bool z.tl] t := h0.put 2 (.int .u8 c.g)
  have h2 : Bk ((((w).setCell ⟨q, 1, none⟩ (.int .u8 c.r)).setCell ⟨q, 2, none⟩ (.int .u8 c.g)).setCell ⟨q, 3, none⟩ (.int .u8 c.b)) q #[.int .i32 z.r, .int .u8 c.r, .int .u8 c.g, .int .u8 c.b, .int .u8 z.c.a, .int .u8 z.b.r, .int .u8 z.b.g, .int .u8 z.b.b, .int .u8 z.b.a, .bool z.wd, .bool z.tl] t := h1.put 3 (.int .u8 c.b)
  have h3 : Bk (((((w).setCell ⟨q, 1, none⟩ (.int .u8 c.r)).setCell ⟨q, 2, none⟩ (.int .u8 c.g)).setCell ⟨q, 3, none⟩ (.int .u8 c.b)).setCell ⟨q, 4, none⟩ (.int .u8 c.a)) q #[.int .i32 z.r, .int .u8 c.r, .int .u8 c.g, .int .u8 c.b, .int .u8 c.a, .int .u8 z.b.r, .int .u8 z.b.g, .int .u8 z.b.b, .int .u8 z.b.a, .bool z.wd, .bool z.tl] t := h2.put 4 (.int .u8 c.a)
  have h4 : Bk ((((((w).setCell ⟨q, 1, none⟩ (.int .u8 c.r)).setCell ⟨q, 2, none⟩ (.int .u8 c.g)).setCell ⟨q, 3, none⟩ (.int .u8 c.b)).setCell ⟨q, 4, none⟩ (.int .u8 c.a)).setCell ⟨q, 5, none⟩ (.int .u8 k.r)) q #[.int .i32 z.r, .int .u8 c.r, .int .u8 c.g, .int .u8 c.b, .int .u8 c.a, .int .u8 k.r, .int .u8 z.b.g, .int .u8 z.b.b, .int .u8 z.b.a, .bool z.wd, .bool z.tl] t := h3.put 5 (.int .u8 k.r)
  have h5 : Bk (((((((w).setCell ⟨q, 1, none⟩ (.int .u8 c.r)).setCell ⟨q, 2, none⟩ (.int .u8 c.g)).setCell ⟨q, 3, none⟩ (.int .u8 c.b)).setCell ⟨q, 4, none⟩ (.int .u8 c.a)).setCell ⟨q, 5, none⟩ (.int .u8 k.r)).setCell ⟨q, 6, none⟩ (.int .u8 k.g)) q #[.int .i32 z.r, .int .u8 c.r, .int .u8 c.g, .int .u8 c.b, .int .u8 c.a, .int .u8 k.r, .int .u8 k.g, .int .u8 z.b.b, .int .u8 z.b.a, .bool z.wd, .bool z.tl] t := h4.put 6 (.int .u8 k.g)
  have h6 : Bk ((((((((w).setCell ⟨q, 1, none⟩ (.int .u8 c.r)).setCell ⟨q, 2, none⟩ (.int .u8 c.g)).setCell ⟨q, 3, none⟩ (.int .u8 c.b)).setCell ⟨q, 4, none⟩ (.int .u8 c.a)).setCell ⟨q, 5, none⟩ (.int .u8 k.r)).setCell ⟨q, 6, none⟩ (.int .u8 k.g)).setCell ⟨q, 7, none⟩ (.int .u8 k.b)) q #[.int .i32 z.r, .int .u8 c.r, .int .u8 c.g, .int .u8 c.b, .int .u8 c.a, .int .u8 k.r, .int .u8 k.g, .int .u8 k.b, .int .u8 z.b.a, .bool z.wd, .bool z.tl] t := h5.put 7 (.int .u8 k.b)
  have h7 : Bk (((((((((w).setCell ⟨q, 1, none⟩ (.int .u8 c.r)).setCell ⟨q, 2, none⟩ (.int .u8 c.g)).setCell ⟨q, 3, none⟩ (.int .u8 c.b)).setCell ⟨q, 4, none⟩ (.int .u8 c.a)).setCell ⟨q, 5, none⟩ (.int .u8 k.r)).setCell ⟨q, 6, none⟩ (.int .u8 k.g)).setCell ⟨q, 7, none⟩ (.int .u8 k.b)).setCell ⟨q, 8, none⟩ (.int .u8 k.a)) q #[.int .i32 z.r, .int .u8 c.r, .int .u8 c.g, .int .u8 c.b, .int .u8 c.a, .int .u8 k.r, .int .u8 k.g, .int .u8 k.b, .int .u8 k.a, .bool z.wd, .bool z.tl] t := h6.put 8 (.int .u8 k.a)
  exact h7
theorem rd_put {lo b W H g n cap : Nat} {x y : Int} {c k : Co} {L : List Ce} {w w0 : World} (h : RdW lo b W H g n cap x y c k L w) (q : Nat) (hq : q < L.length) (p : Nat) (hp : p = q * 11) (z : Ce) (hb : Below lo w0 w) : RdW lo b W H g n cap x y c k (L.set q z) ((((((((((((w).setCell ⟨g, p, none⟩ (.int .i32 z.r)).setCell ⟨g, p + 1, none⟩ (.int .u8 z.c.r)).setCell ⟨g, p + 2, none⟩ (.int .u8 z.c.g)).setCell ⟨g, p + 3, none⟩ (.int .u8 z.c.b)).setCell ⟨g, p + 4, none⟩ (.int .u8 z.c.a)).setCell ⟨g, p + 5, none⟩ (.int .u8 z.b.r)).setCell ⟨g, p + 6, none⟩ (.int .u8 z.b.g)).setCell ⟨g, p + 7, none⟩ (.int .u8 z.b.b)).setCell ⟨g, p + 8, none⟩ (.int .u8 z.b.a)).setCell ⟨g, p + 9, none⟩ (.bool z.wd)).setCell ⟨g, p + 10, none⟩ (.bool z.tl)) ∧ Below lo w0 ((((((((((((w).setCell ⟨g, p, none⟩ (.int .i32 z.r)).setCell ⟨g, p + 1, none⟩ (.int .u8 z.c.r)).setCell ⟨g, p + 2, none⟩ (.int .u8 z.c.g)).setCell ⟨g, p + 3, none⟩ (.int .u8 z.c.b)).setCell ⟨g, p + 4, none⟩ (.int .u8 z.c.a)).setCell ⟨g, p + 5, none⟩ (.int .u8 z.b.r)).setCell ⟨g, p + 6, none⟩ (.int .u8 z.b.g)).setCell ⟨g, p + 7, none⟩ (.int .u8 z.b.b)).setCell ⟨g, p + 8, none⟩ (.int .u8 z.b.a)).setCell ⟨g, p + 9, none⟩ (.bool z.wd)).setCell ⟨g, p + 10, none⟩ (.bool z.tl)) := by
  have hg : lo ≤ g := h.sc.lt.1
  have h1 := (((((((((((h.bk).other ⟨g, p, none⟩ (.int .i32 z.r) h.ne).other ⟨g, p + 1, none⟩ (.int .u8 z.c.r) h.ne).other ⟨g, p + 2, none⟩ (.int .u8 z.c.g) h.ne).other ⟨g, p + 3, none⟩ (.int .u8 z.c.b) h.ne).other ⟨g, p + 4, none⟩ (.int .u8 z.c.a) h.ne).other ⟨g, p + 5, none⟩ (.int .u8 z.b.r) h.ne).other ⟨g, p + 6, none⟩ (.int .u8 z.b.g) h.ne).other ⟨g, p + 7, none⟩ (.int .u8 z.b.b) h.ne).other ⟨g, p + 8, none⟩ (.int .u8 z.b.a) h.ne).other ⟨g, p + 9, none⟩ (.bool z.wd) h.ne).other ⟨g, p + 10, none⟩ (.bool z.tl) h.ne
  have h2 := (((((((((((hb).setCell (p := ⟨g, p, none⟩) hg (.int .i32 z.r)).setCell (p := ⟨g, p + 1, none⟩) hg (.int .u8 z.c.r)).setCell (p := ⟨g, p + 2, none⟩) hg (.int .u8 z.c.g)).setCell (p := ⟨g, p + 3, none⟩) hg (.int .u8 z.c.b)).setCell (p := ⟨g, p + 4, none⟩) hg (.int .u8 z.c.a)).setCell (p := ⟨g, p + 5, none⟩) hg (.int .u8 z.b.r)).setCell (p := ⟨g, p + 6, none⟩) hg (.int .u8 z.b.g)).setCell (p := ⟨g, p + 7, none⟩) hg (.int .u8 z.b.b)).setCell (p := ⟨g, p + 8, none⟩) hg (.int .u8 z.b.a)).setCell (p := ⟨g, p + 9, none⟩) hg (.bool z.wd)).setCell (p := ⟨g, p + 10, none⟩) hg (.bool z.tl)
  exact ⟨⟨h1, h.sc.put q hq p hp z, h.ne, h.lb, by simpa using h.sz⟩, h2⟩
set_option maxRecDepth 20000 in
set_option maxHeartbeats 8000000 in
theorem put_no (lo b W H g n cap : Nat) (xn yn : Nat) (c k : Co) (L : List Ce) (hb : Nat) (w : World) (hR : RdW lo b W H g n cap (xn : Nat) (yn : Nat) c k L w) (hy : yn < H) (hx : W < xn + 1) (hW : W ≤ 16384) (hxb : xn ≤ 100000) :
    Calls Tryz.prog 121 #[.pointer (some ⟨b, 0, none⟩), .slice (some ⟨hb, 0, none⟩) 1 2] w fun e w' => e = .returned (.bool false) ∧ Below lo w w' := by
  have H0 : Hid (∀ W1, W1 = w.alloc (.cells #[.int .i64 (W : Nat), .int .i64 (H : Nat)] 23) → RdW lo b W H g n cap xn yn c k L W1 ∧ Bk W1 w.heap.size #[.int .i64 (W : Nat), .int .i64 (H : Nat)] 23 ∧ Below lo w W1) := fun W1 hW => by
    subst hW
    exact ⟨hR.bel ((Below.refl _ _).alloc (Nat.le_refl _) _), Bk.new _ _ _, (Below.refl _ w).alloc hR.sz _⟩
  obtain ⟨⟨c0, c1, c2, c3, c4⟩, _, _⟩ := rd_at hR.bk
  have t1 : decide (H ≤ yn) = false := by simp; omega
  have t2 : decide ((W : Int) - (xn : Int) < 1) = true := by simp; omega
  have w1 : IntKind.i64.wrap ((W : Int) - (xn : Int)) = (W : Int) - (xn : Int) := by rw [IntKind.wrap_i64]; omega
  clear hR
  go_enter Tryz.func121, Tryz.ntmps121
  go_wp2_with fail
  obtain ⟨W1, hW1⟩ : ∃ W1, W1 = w.alloc (.cells #[.int .i64 (W : Nat), .int .i64 (H : Nat)] 23) := ⟨_, rfl⟩
  obtain ⟨sb, hsb⟩ : ∃ sb, sb = w.heap.size := ⟨_, rfl⟩
  have H1 : Hid (RdW lo b W H g n cap xn yn c k L W1 ∧ Bk W1 sb #[.int .i64 (W : Nat), .int .i64 (H : Nat)] 23 ∧ Below lo w W1) := by rw [hsb]; exact H0.out W1 hW1
  rw [← hW1, ← hsb]
  clear hW1 hsb H0 c0 c1 c2 c3 c4
  have ne : Nonempty (Gw W1) := ⟨⟨W1, Below.refl _ _⟩⟩
  have rf := fun t : Gw W1 => rd_at (H1.out.1.bk.below t.below)
  have c3 := fun t : Gw W1 => (rf t).1.2.2.2.1
  have c4 := fun t : Gw W1 => (rf t).1.2.2.2.2
  have s0 := fun t : Gw W1 => (Bk.at2 (H1.out.2.1.below t.below)).1
  have s1 := fun t : Gw W1 => (Bk.at2 (H1.out.2.1.below t.below)).2
  clear rf
  go_wp2_with fail
  refine wp_region_gw (by kernel_rfl) (by kernel_rfl) ?_
  repeat (go_big_quiet_step (fail))
  refine wpQuiet_nil ?_
  rintro _ ⟨t, rfl⟩
  have H2 : Hid (Below lo w t.wd) := H1.out.2.2.trans (t.below.mono H1.out.1.sz)
  generalize t.wd = W2 at *
  clear H1 c3 c4 s0 s1 ne
  go_wp2
  go_ret
  exact ⟨rfl, H2.out⟩

set_option maxRecDepth 20000 in
set_option maxHeartbeats 8000000 in
theorem put_one (lo b W H g n cap : Nat) (xn yn : Nat) (c k : Co) (L : List Ce) (hb : Nat) (z z2 : Ce) (w : World) (hR : RdW lo b W H g n cap (xn : Nat) (yn : Nat) c k L w) (hz : Bk w hb (duoA z z2) 211) (hy : yn < H) (hx : xn + 1 ≤ W) (hs : szB W H = true) (hn : (n : Int) = W * H) :
    Calls Tryz.prog 121 #[.pointer (some ⟨b, 0, none⟩), .slice (some ⟨hb, 0, none⟩) 1 2] w fun e w' => e = .returned (.bool true) ∧ RdW lo b W H g n cap ((xn : Int) + 1) (yn : Nat) c k (L.set (yn * W + xn) ⟨z.r, c, k, z.wd, z.tl⟩) w' ∧ Below lo w w' := by
  obtain ⟨s1_, s2_, s3_, s4_, s5_⟩ := szB_iff.1 hs
  have hnat : n = W * H := by
    have : ((W * H : Nat) : Int) = (W : Int) * H := by simp
    omega
  obtain ⟨P, hP⟩ : ∃ P, P = yn * W := ⟨_, rfl⟩
  have hPW : P + W ≤ n := by
    rw [hP, hnat]
    calc yn * W + W = (yn + 1) * W := by rw [Nat.succ_mul]
      _ ≤ H * W := Nat.mul_le_mul_right W hy
      _ = W * H := Nat.mul_comm _ _
  have hcap := hR.sc.cap
  have H0 : Hid (∀ W1, W1 = w.alloc (.cells #[.int .i64 (W : Nat), .int .i64 (H : Nat)] 23) → RdW lo b W H g n cap xn yn c k L W1 ∧ Bk W1 w.heap.size #[.int .i64 (W : Nat), .int .i64 (H : Nat)] 23 ∧ Below lo w W1 ∧ Bk W1 hb (duoA z z2) 211) := fun W1 hW => by
    subst hW
    exact ⟨hR.bel ((Below.refl _ _).alloc (Nat.le_refl _) _), Bk.new _ _ _, (Below.refl _ w).alloc hR.sz _, hz.below ((Below.refl _ _).alloc (Nat.le_refl _) _)⟩
  obtain ⟨⟨c0, c1, c2, c3, c4⟩, _, _⟩ := rd_at hR.bk
  have HRow : Hid (∀ W1, Calls Tryz.prog 45 #[.agg #[.int .i64 (W : Nat), .int .i64 (H : Nat), .slice (some ⟨g, 0, none⟩) n cap], .int .i64 yn] W1 fun e w' => e = .returned (.slice (some ⟨g, P * 11, none⟩) W (cap - P)) ∧ Below W1.heap.size W1 w') := fun W1 => by
    have := rowC_any W H yn g 0 n cap W1 hs hn hcap (by omega) (by omega) (by omega) P (by rw [hP]; simp) W rfl
    rw [Nat.zero_add] at this
    exact this
  have t1 : decide (H ≤ yn) = false := by simp; omega
  have t2 : decide ((W : Int) - (xn : Int) < 1) = false := by simp; omega
  have w1 : IntKind.i64.wrap ((W : Int) - (xn : Int)) = (W : Int) - (xn : Int) := by rw [IntKind.wrap_i64]; omega
  have w2 : IntKind.i64.wrap ((xn : Int) + 1) = (xn : Int) + 1 := by rw [IntKind.wrap_i64]; omega
  have u1 : (xn : Int) ≤ (W : Int) := by omega
  have u2 : (W : Int) ≤ ((cap - P : Nat) : Int) := by omega
  have u3 : ¬ (cap - P = xn) := by omega
  have u4 : ¬ (xn = cap - P) := by omega
  have HL : Hid (P + xn < L.length) := by have := hR.sc.1; unfold Hid; omega
  have HPn : Hid (P = yn * W) := hP
  clear hR hz hs hn hnat hP
  go_enter Tryz.func121, Tryz.ntmps121
  go_wp2_with fail
  obtain ⟨W1, hW1⟩ : ∃ W1, W1 = w.alloc (.cells #[.int .i64 (W : Nat), .int .i64 (H : Nat)] 23) := ⟨_, rfl⟩
  obtain ⟨sb, hsb⟩ : ∃ sb, sb = w.heap.size := ⟨_, rfl⟩
  have H1 : Hid (RdW lo b W H g n cap xn yn c k L W1 ∧ Bk W1 sb #[.int .i64 (W : Nat), .int .i64 (H : Nat)] 23 ∧ Below lo w W1 ∧ Bk W1 hb (duoA z z2) 211) := by rw [hsb]; exact H0.out W1 hW1
  rw [← hW1, ← hsb]
  clear hW1 hsb H0 c0 c1 c2 c3 c4
  have ne : Nonempty (Gw W1) := ⟨⟨W1, Below.refl _ _⟩⟩
  have rf := fun t : Gw W1 => rd_at (H1.out.1.bk.below t.below)
  have c3 := fun t : Gw W1 => (rf t).1.2.2.2.1
  have c4 := fun t : Gw W1 => (rf t).1.2.2.2.2
  have s0 := fun t : Gw W1 => (Bk.at2 (H1.out.2.1.below t.below)).1
  have s1 := fun t : Gw W1 => (Bk.at2 (H1.out.2.1.below t.below)).2
  clear rf
  go_wp2_with fail
  refine wp_region_gw (by kernel_rfl) (by kernel_rfl) ?_
  repeat (go_big_quiet_step (fail))
  refine wpQuiet_nil ?_
  rintro _ ⟨t, rfl⟩
  have H2 : Hid (RdW lo b W H g n cap xn yn c k L t.wd ∧ Below lo w t.wd ∧ Bk t.wd hb (duoA z z2) 211) := ⟨H1.out.1.bel t.below, H1.out.2.2.1.trans (t.below.mono H1.out.1.sz), H1.out.2.2.2.below t.below⟩
  generalize t.wd = W2 at *
  clear H1 c3 c4 s0 s1 ne
  have ne : Nonempty (Gw W2) := ⟨⟨W2, Below.refl _ _⟩⟩
  have rf := fun t : Gw W2 => rd_at (H2.out.1.bk.below t.below)
  have c0 := fun t : Gw W2 => (rf t).1.1
  have c1 := fun t : Gw W2 => (rf t).1.2.1
  have c2 := fun t : Gw W2 => (rf t).1.2.2.1
  have c3 := fun t : Gw W2 => (rf t).1.2.2.2.1
  have c4 := fun t : Gw W2 => (rf t).1.2.2.2.2
  clear rf
  go_wp2_with fail
  refine wp_region_gw (by kernel_rfl) (by kernel_rfl) ?_
  repeat (go_big_quiet_step (first | (go_at_call 45; exact gw_call (HRow.out _))))
  refine wpQuiet_nil ?_
  rintro _ ⟨t, rfl⟩
  have H3 : Hid (RdW lo b W H g n cap xn yn c k L t.wd ∧ Below lo w t.wd ∧ Bk t.wd hb (duoA z z2) 211) := ⟨H2.out.1.bel t.below, H2.out.2.1.trans (t.below.mono H2.out.1.sz), H2.out.2.2.below t.below⟩
  generalize t.wd = W3 at *
  clear H2 c0 c1 c2 c3 c4 ne HRow t1 t2
  go_wp2_with fail
  go_loopw [58] (fun i wr => ∃ kk : Nat, kk ≤ 1 ∧ i = .int .i64 kk ∧ Hid (RdW lo b W H g n cap xn yn c k (if kk = 0 then L else L.set (P + xn) ⟨z.r, c, k, z.wd, z.tl⟩) wr ∧ Below lo w wr ∧ (kk = 0 → Bk wr hb (duoA z z2) 211))) (fun i _ => 1 - (RowKit.intOf i).toNat)
  case atStart => exact ⟨0, Nat.zero_le _, rfl, H3.out.1, H3.out.2.1, fun _ => H3.out.2.2⟩
  case round =>
    obtain ⟨kk, hk, rfl, HK⟩ := hrel
    clear H3
    rcases (show kk = 0 ∨ kk = 1 by omega) with rfl | rfl
    · have H4 : Hid (RdW lo b W H g n cap xn yn c k L wr ∧ Below lo w wr ∧ Bk wr hb (duoA z z2) 211) := ⟨HK.out.1, HK.out.2.1, HK.out.2.2 rfl⟩
      clear HK
      have H5 : Hid (∀ W5, W5 = wr.alloc (.cells (#[.int .i32 z.r, .int .u8 z.c.r, .int .u8 z.c.g, .int .u8 z.c.b, .int .u8 z.c.a, .int .u8 z.b.r, .int .u8 z.b.g, .int .u8 z.b.b, .int .u8 z.b.a, .bool z.wd, .bool z.tl]) 65) → RdW lo b W H g n cap xn yn c k L W5 ∧ Bk W5 wr.heap.size (#[.int .i32 z.r, .int .u8 z.c.r, .int .u8 z.c.g, .int .u8 z.c.b, .int .u8 z.c.a, .int .u8 z.b.r, .int .u8 z.b.g, .int .u8 z.b.b, .int .u8 z.b.a, .bool z.wd, .bool z.tl]) 65 ∧ Below lo w W5 ∧ b < wr.heap.size ∧ g < wr.heap.size) := fun W5 hW => by
        subst hW
        exact ⟨H4.out.1.bel ((Below.refl _ _).alloc (Nat.le_refl _) _), Bk.new _ _ _, H4.out.2.1.alloc H4.out.1.sz _, H4.out.1.bk.lt, H4.out.1.sc.lt.2⟩
      obtain ⟨z0, z1, z2', z3, z4, z5, z6, z7, z8, z9, z10⟩ : wr.cell? ⟨hb, 0, none⟩ = some (.int .i32 z.r) ∧ wr.cell? ⟨hb, 1, none⟩ = some (.int .u8 z.c.r) ∧ wr.cell? ⟨hb, 2, none⟩ = some (.int .u8 z.c.g) ∧ wr.cell? ⟨hb, 3, none⟩ = some (.int .u8 z.c.b) ∧ wr.cell? ⟨hb, 4, none⟩ = some (.int .u8 z.c.a) ∧ wr.cell? ⟨hb, 5, none⟩ = some (.int .u8 z.b.r) ∧ wr.cell? ⟨hb, 6, none⟩ = some (.int .u8 z.b.g) ∧ wr.cell? ⟨hb, 7, none⟩ = some (.int .u8 z.b.b) ∧ wr.cell? ⟨hb, 8, none⟩ = some (.int .u8 z.b.a) ∧ wr.cell? ⟨hb, 9, none⟩ = some (.bool z.wd) ∧ wr.cell? ⟨hb, 10, none⟩ = some (.bool z.tl) :=
        ⟨H4.out.2.2.cell 0, H4.out.2.2.cell 1, H4.out.2.2.cell 2, H4.out.2.2.cell 3, H4.out.2.2.cell 4, H4.out.2.2.cell 5, H4.out.2.2.cell 6, H4.out.2.2.cell 7, H4.out.2.2.cell 8, H4.out.2.2.cell 9, H4.out.2.2.cell 10⟩
      clear H4
      go_wp2_with fail
      obtain ⟨W5, hW5⟩ : ∃ W5, W5 = wr.alloc (.cells (#[.int .i32 z.r, .int .u8 z.c.r, .int .u8 z.c.g, .int .u8 z.c.b, .int .u8 z.c.a, .int .u8 z.b.r, .int .u8 z.b.g, .int .u8 z.b.b, .int .u8 z.b.a, .bool z.wd, .bool z.tl]) 65) := ⟨_, rfl⟩
      obtain ⟨cb, hcb⟩ : ∃ cb, cb = wr.heap.size := ⟨_, rfl⟩
      have H6 : Hid (RdW lo b W H g n cap xn yn c k L W5 ∧ Bk W5 cb (#[.int .i32 z.r, .int .u8 z.c.r, .int .u8 z.c.g, .int .u8 z.c.b, .int .u8 z.c.a, .int .u8 z.b.r, .int .u8 z.b.g, .int .u8 z.b.b, .int .u8 z.b.a, .bool z.wd, .bool z.tl]) 65 ∧ Below lo w W5 ∧ b < cb ∧ g < cb) := by rw [hcb]; exact H5.out W5 hW5
      rw [← hW5, ← hcb]
      clear hW5 hcb H5 z0 z1 z2' z3 z4 z5 z6 z7 z8 z9 z10
      have hbc : ¬ b = cb := by have := H6.out.2.2.2.1; omega
      have hcb' : ¬ cb = b := fun e => hbc e.symm
      obtain ⟨⟨c0, c1, c2, c3, c4⟩, ⟨c5, c6, c7, c8⟩, c9, c10, c11, c12⟩ := rd_at H6.out.1.bk
      obtain ⟨z1, z2', z3, z4, z5, z6, z7, z8⟩ := col_at H6.out.2.1
      have f1 := H6.out.2.1.frozen 1
      have f2 := H6.out.2.1.frozen 2
      have f3 := H6.out.2.1.frozen 3
      have f4 := H6.out.2.1.frozen 4
      have f5 := H6.out.2.1.frozen 5
      have f6 := H6.out.2.1.frozen 6
      have f7 := H6.out.2.1.frozen 7
      have f8 := H6.out.2.1.frozen 8
      go_region
      obtain ⟨W6, hW6⟩ : ∃ W6, W6 = ((((((((W5.setCell ⟨cb, 1, none⟩ (.int .u8 c.r)).setCell ⟨cb, 2, none⟩ (.int .u8 c.g)).setCell ⟨cb, 3, none⟩ (.int .u8 c.b)).setCell ⟨cb, 4, none⟩ (.int .u8 c.a)).setCell ⟨cb, 5, none⟩ (.int .u8 k.r)).setCell ⟨cb, 6, none⟩ (.int .u8 k.g)).setCell ⟨cb, 7, none⟩ (.int .u8 k.b)).setCell ⟨cb, 8, none⟩ (.int .u8 k.a)).drew := ⟨_, rfl⟩
      have hgc : cb ≠ g := by have := H6.out.2.2.2.2; omega
      have hlc : lo ≤ cb := by have h1 := H6.out.1.lb; have h2 := H6.out.2.2.2.1; omega
      have H7 : Hid (RdW lo b W H g n cap xn yn c k L W6 ∧ Bk W6 cb (#[.int .i32 (⟨z.r, c, k, z.wd, z.tl⟩ : Ce).r, .int .u8 (⟨z.r, c, k, z.wd, z.tl⟩ : Ce).c.r, .int .u8 (⟨z.r, c, k, z.wd, z.tl⟩ : Ce).c.g, .int .u8 (⟨z.r, c, k, z.wd, z.tl⟩ : Ce).c.b, .int .u8 (⟨z.r, c, k, z.wd, z.tl⟩ : Ce).c.a, .int .u8 (⟨z.r, c, k, z.wd, z.tl⟩ : Ce).b.r, .int .u8 (⟨z.r, c, k, z.wd, z.tl⟩ : Ce).b.g, .int .u8 (⟨z.r, c, k, z.wd, z.tl⟩ : Ce).b.b, .int .u8 (⟨z.r, c, k, z.wd, z.tl⟩ : Ce).b.a, .bool (⟨z.r, c, k, z.wd, z.tl⟩ : Ce).wd, .bool (⟨z.r, c, k, z.wd, z.tl⟩ : Ce).tl]) 65 ∧ Below lo w W6) := by
        have h1 := ((((((((H6.out.1.far hcb' hgc 1 (.int .u8 c.r)).far hcb' hgc 2 (.int .u8 c.g)).far hcb' hgc 3 (.int .u8 c.b)).far hcb' hgc 4 (.int .u8 c.a)).far hcb' hgc 5 (.int .u8 k.r)).far hcb' hgc 6 (.int .u8 k.g)).far hcb' hgc 7 (.int .u8 k.b)).far hcb' hgc 8 (.int .u8 k.a)).bel (Below.refl _ _).drew
        have h2 := (box_dip H6.out.2.1 c k).below (Below.refl _ _).drew
        have h3 := (below2 (below2 (below2 (below2 H6.out.2.2.1 hlc 1 2 (.int .u8 c.r) (.int .u8 c.g)) hlc 3 4 (.int .u8 c.b) (.int .u8 c.a)) hlc 5 6 (.int .u8 k.r) (.int .u8 k.g)) hlc 7 8 (.int .u8 k.b) (.int .u8 k.a)).drew
        rw [hW6]
        exact ⟨h1, h2, h3⟩
      rw [← hW6]
      clear hW6 H6 c0 c1 c2 c3 c4 c5 c6 c7 c8 c9 c10 c11 c12 z1 z2' z3 z4 z5 z6 z7 z8 f1 f2 f3 f4 f5 f6 f7 f8 hbc hcb' hgc hlc
      obtain ⟨Q, hQ⟩ : ∃ Q, Q = P * 11 + xn * 11 := ⟨_, rfl⟩
      have HQ : Hid (Q = (P + xn) * 11) := by unfold Hid; rw [hQ]; omega
      rw [← hQ]
      clear hQ
      have hold := H7.out.1.sc.at (P + xn) HL.out
      rw [← HQ.out] at hold
      obtain ⟨o0, o1, o2, o3, o4, o5, o6, o7, o8, o9, o10⟩ := hold
      generalize L[P + xn]'(HL.out) = oc at *
      have g0 := H7.out.1.sc.frozen Q
      have g1 := H7.out.1.sc.frozen (Q + 1)
      have g2 := H7.out.1.sc.frozen (Q + 2)
      have g3 := H7.out.1.sc.frozen (Q + 3)
      have g4 := H7.out.1.sc.frozen (Q + 4)
      have g5 := H7.out.1.sc.frozen (Q + 5)
      have g6 := H7.out.1.sc.frozen (Q + 6)
      have g7 := H7.out.1.sc.frozen (Q + 7)
      have g8 := H7.out.1.sc.frozen (Q + 8)
      have g9 := H7.out.1.sc.frozen (Q + 9)
      have g10 := H7.out.1.sc.frozen (Q + 10)
      have z0 : W6.cell? ⟨cb, 0, none⟩ = some (.int .i32 z.r) := H7.out.2.1.cell 0
      obtain ⟨z1, z2', z3, z4, z5, z6, z7, z8⟩ := col_at H7.out.2.1
      have z9 : W6.cell? ⟨cb, 9, none⟩ = some (.bool z.wd) := H7.out.2.1.cell 9
      have z10 : W6.cell? ⟨cb, 10, none⟩ = some (.bool z.tl) := H7.out.2.1.cell 10
      simp only at z0 z1 z2' z3 z4 z5 z6 z7 z8 z9 z10
      have u5 : (0 : Int) < ((W - xn : Nat) : Int) := by omega
      have hs0 := rd_put H7.out.1 (P + xn) HL.out Q HQ.out ⟨z.r, c, k, z.wd, z.tl⟩ H7.out.2.2
      simp only at hs0
      have HS := show Hid _ from hs0
      clear hs0
      have hQ2 : Q = P * 11 + xn * 11 := by have := HQ.out; omega
      have HQ2 := show Hid _ from hQ2
      clear hQ2
      go_wp2_with fail
      refine ⟨⟨_, _, _, ⟨1, by omega, rfl, ?_⟩, HQ2.out, rfl, rfl, HQ2.out, by go_num⟩, by simp [RowKit.intOf]⟩
      rw [if_neg (show ¬ (1 : Nat) = 0 by decide)]
      exact ⟨HS.out.1, HS.out.2, fun h => by cases h⟩
    · have H4 : Hid (RdW lo b W H g n cap xn yn c k (L.set (P + xn) ⟨z.r, c, k, z.wd, z.tl⟩) wr ∧ Below lo w wr) := ⟨HK.out.1, HK.out.2.1⟩
      clear HK
      obtain ⟨⟨c0, c1, c2, c3, c4⟩, _, _⟩ := rd_at H4.out.1.bk
      have f3 := H4.out.1.bk.frozen 3
      have HF : Hid (RdW lo b W H g n cap ((xn : Int) + 1) yn c k (L.set (P + xn) ⟨z.r, c, k, z.wd, z.tl⟩) (wr.setCell ⟨b, 3, none⟩ (.int .i64 ((xn : Int) + 1))) ∧ Below lo w (wr.setCell ⟨b, 3, none⟩ (.int .i64 ((xn : Int) + 1)))) := ⟨H4.out.1.px _, H4.out.2.setCell (p := ⟨b, 3, none⟩) H4.out.1.lb _⟩
      clear H4
      go_wp2
      go_ret
      exact ⟨rfl, by rw [← HPn.out]; exact HF.out⟩

end Go.Proofs.YtapachlhdgehjaaGreatDoor

/-
  Package cells: a reader's cell, escape, thing.
-/
namespace Go.Proofs.YtapachlhdgehjaaGreatDoor
open Go.RowKit Go.Shelf

def TabC (w : World) : Prop := Lib.Utf8Tabs 2 3 w
theorem TabC.below {W w1 : World} (h : TabC W) (hb : Below W.heap.size W w1) : TabC w1 := Utf8Tabs_below h hb
theorem decodeC_any (s : ByteArray) (w : World) (D : TabC w) :
    Calls Tryz.prog 120 #[.string s] w fun e w' => e = .returned (.tuple #[.int .i32 (Lib.decodeGo s).1, .int .i64 (Lib.decodeGo s).2]) ∧ Below w.heap.size w w' := Any.utf8_DecodeRuneInString Tryz.lays197 s w D

set_option maxRecDepth 20000 in
set_option maxHeartbeats 8000000 in
theorem cell_ok (lo b W H g n cap : Nat) (xn yn : Nat) (c k : Co) (L : List Ce) (q : ByteArray) (r : Int) (rN : Nat) (zs : Nat) (w : World) (hR : RdW lo b W H g n cap (xn : Nat) (yn : Nat) c k L w) (hq : 0 < q.size) (h14 : ¬ bA q 0 = 14) (h15 : ¬ bA q 0 = 15) (hrN : r = (rN : Int)) (hd : Lib.decodeGo q = (rN, zs)) (hr : ¬ r = 65533) (hzs : zs ≤ 4) (hw : width r = 1) (hy : yn < H) (hx : xn + 1 ≤ W) (hs : szB W H = true) (hn : (n : Int) = W * H) (T : Tabs w) (D : TabC w) :
    Calls Tryz.prog 87 #[.pointer (some ⟨b, 0, none⟩), .string q] w fun e w' => e = .returned (.int .i64 (zs : Nat)) ∧ RdW lo b W H g n cap ((xn : Int) + 1) (yn : Nat) c k (L.set (yn * W + xn) ⟨r, c, k, false, false⟩) w' ∧ Below lo w w' := by
  have k14 : (((q[0]'hq).toNat : Int) == 14) = false := by rw [← bA_at hq]; simp; omega
  have k15 : (((q[0]'hq).toNat : Int) == 15) = false := by rw [← bA_at hq]; simp; omega
  have iq : (0 : Int) < q.size := by omega
  have kr : (r == 65533) = false := by simp; omega
  have HD : Hid (Calls Tryz.prog 120 #[.string q] w fun e w' => e = .returned (.tuple #[.int .i32 r, .int .i64 (zs : Nat)]) ∧ Below w.heap.size w w') := by
    have := decodeC_any q w D
    rw [hd] at this
    rw [hrN]
    exact this
  have HM : Hid (∀ W1, Below w.heap.size w W1 → Calls Tryz.prog 122 #[.int .i32 r, .string ByteArray.empty] W1 fun e w' => ∃ hb, e = .returned (.slice (some ⟨hb, 0, none⟩) 1 2) ∧ Hid (Bk w' hb (duoA ⟨r, coZ, coZ, false, false⟩ ⟨0, coZ, coZ, false, false⟩) 211 ∧ W1.heap.size ≤ hb ∧ Below W1.heap.size W1 w')) := fun W1 h => meant_one r W1 (T.below h) hw
  have HPu : Hid (∀ hb W1, RdW lo b W H g n cap xn yn c k L W1 → Bk W1 hb (duoA ⟨r, coZ, coZ, false, false⟩ ⟨0, coZ, coZ, false, false⟩) 211 → Calls Tryz.prog 121 #[.pointer (some ⟨b, 0, none⟩), .slice (some ⟨hb, 0, none⟩) 1 2] W1 fun e w' => e = .returned (.bool true) ∧ RdW lo b W H g n cap ((xn : Int) + 1) (yn : Nat) c k (L.set (yn * W + xn) ⟨r, c, k, false, false⟩) w' ∧ Below lo W1 w') := fun hb W1 h1 h2 => put_one lo b W H g n cap xn yn c k L hb _ _ W1 h1 h2 hy hx hs hn
  have H0 : Hid (RdW lo b W H g n cap xn yn c k L w) := hR
  clear hR h14 h15 hd hr hrN hw hy hx hs hn T D
  go_enter Tryz.func87, Tryz.ntmps87
  go_wp2_with fail
  refine HD.out.mono ?_
  rintro e W1 ⟨rfl, hb1⟩
  have H1 : Hid (RdW lo b W H g n cap xn yn c k L W1 ∧ Below w.heap.size w W1) := ⟨H0.out.bel hb1, hb1⟩
  clear hb1 HD
  go_wp2_with fail
  refine (HM.out _ H1.out.2).mono ?_
  rintro e W2 ⟨hb, rfl, h2⟩
  have H2 : Hid (RdW lo b W H g n cap xn yn c k L W2 ∧ Below w.heap.size w W2 ∧ Bk W2 hb (duoA ⟨r, coZ, coZ, false, false⟩ ⟨0, coZ, coZ, false, false⟩) 211) := ⟨H1.out.1.bel h2.out.2.2, H1.out.2.trans (h2.out.2.2.mono H1.out.2.size), h2.out.1⟩
  clear h2 H1 HM
  go_wp2_with fail
  refine (HPu.out hb _ H2.out.1 H2.out.2.2).mono ?_
  rintro e W3 ⟨rfl, h3, h4⟩
  have H3 : Hid (RdW lo b W H g n cap ((xn : Int) + 1) (yn : Nat) c k (L.set (yn * W + xn) ⟨r, c, k, false, false⟩) W3 ∧ Below lo w W3) := ⟨h3, (H2.out.2.1.mono H0.out.sz).trans h4⟩
  clear h3 h4 H2 HPu H0
  go_wp2
  go_ret
  exact ⟨by simp, H3.out⟩

set_option maxRecDepth 20000 in
set_option maxHeartbeats 8000000 in
theorem cell_no (lo b W H g n cap : Nat) (xn yn : Nat) (c k : Co) (L : List Ce) (q : ByteArray) (r : Int) (rN : Nat) (zs : Nat) (w : World) (hR : RdW lo b W H g n cap (xn : Nat) (yn : Nat) c k L w) (hq : 0 < q.size) (h14 : ¬ bA q 0 = 14) (h15 : ¬ bA q 0 = 15) (hrN : r = (rN : Int)) (hd : Lib.decodeGo q = (rN, zs)) (hr : ¬ r = 65533) (hw : width r = 1) (hy : yn < H) (hx : W < xn + 1) (hW : W ≤ 16384) (hxb : xn ≤ 100000) (T : Tabs w) (D : TabC w) :
    Calls Tryz.prog 87 #[.pointer (some ⟨b, 0, none⟩), .string q] w fun e w' => e = .returned (.int .i64 0) ∧ Below lo w w' := by
  have k14 : (((q[0]'hq).toNat : Int) == 14) = false := by rw [← bA_at hq]; simp; omega
  have k15 : (((q[0]'hq).toNat : Int) == 15) = false := by rw [← bA_at hq]; simp; omega
  have iq : (0 : Int) < q.size := by omega
  have kr : (r == 65533) = false := by simp; omega
  have HD : Hid (Calls Tryz.prog 120 #[.string q] w fun e w' => e = .returned (.tuple #[.int .i32 r, .int .i64 (zs : Nat)]) ∧ Below w.heap.size w w') := by
    have := decodeC_any q w D
    rw [hd] at this
    rw [hrN]
    exact this
  have HM : Hid (∀ W1, Below w.heap.size w W1 → Calls Tryz.prog 122 #[.int .i32 r, .string ByteArray.empty] W1 fun e w' => ∃ hb, e = .returned (.slice (some ⟨hb, 0, none⟩) 1 2) ∧ Hid (Bk w' hb (duoA ⟨r, coZ, coZ, false, false⟩ ⟨0, coZ, coZ, false, false⟩) 211 ∧ W1.heap.size ≤ hb ∧ Below W1.heap.size W1 w')) := fun W1 h => meant_one r W1 (T.below h) hw
  have HPu : Hid (∀ hb W1, RdW lo b W H g n cap xn yn c k L W1 → Calls Tryz.prog 121 #[.pointer (some ⟨b, 0, none⟩), .slice (some ⟨hb, 0, none⟩) 1 2] W1 fun e w' => e = .returned (.bool false) ∧ Below lo W1 w') := fun hb W1 h1 => put_no lo b W H g n cap xn yn c k L hb W1 h1 hy hx hW hxb
  have H0 : Hid (RdW lo b W H g n cap xn yn c k L w) := hR
  clear hR h14 h15 hd hr hrN hw hy hx T D
  go_enter Tryz.func87, Tryz.ntmps87
  go_wp2_with fail
  refine HD.out.mono ?_
  rintro e W1 ⟨rfl, hb1⟩
  have H1 : Hid (RdW lo b W H g n cap xn yn c k L W1 ∧ Below w.heap.size w W1) := ⟨H0.out.bel hb1, hb1⟩
  clear hb1 HD
  go_wp2_with fail
  refine (HM.out _ H1.out.2).mono ?_
  rintro e W2 ⟨hb, rfl, h2⟩
  have H2 : Hid (RdW lo b W H g n cap xn yn c k L W2 ∧ Below w.heap.size w W2) := ⟨H1.out.1.bel h2.out.2.2, H1.out.2.trans (h2.out.2.2.mono H1.out.2.size)⟩
  clear h2 H1 HM
  go_wp2_with fail
  refine (HPu.out hb _ H2.out.1).mono ?_
  rintro e W3 ⟨rfl, h4⟩
  have H3 : Hid (Below lo w W3) := (H2.out.2.mono H0.out.sz).trans h4
  clear h4 H2 HPu H0
  go_wp2
  go_ret
  exact ⟨rfl, H3.out⟩

end Go.Proofs.YtapachlhdgehjaaGreatDoor

/-
  Package cells: thing, of a text that begins with one; steps of a reader in plain words.
-/
namespace Go.Proofs.YtapachlhdgehjaaGreatDoor
open Go.RowKit

structure Stt where
  x : Nat
  y : Nat
  c : Co
  k : Co
  L : List Ce
def Stp (W H : Nat) (s : Stt) (q : ByteArray) (z : Nat) (t : Stt) : Prop :=
  (bA q 0 = 27 ∧ ∃ a0 a1 : Nat, sqA q = some ([(a0 : Int), (a1 : Int)], 72, z) ∧ 1 ≤ a0 ∧ a0 ≤ 16384 ∧ 1 ≤ a1 ∧ a1 ≤ 16384 ∧ t = ⟨a1 - 1, a0 - 1, s.c, s.k, s.L⟩) ∨
  (bA q 0 = 27 ∧ ∃ d : Co, d.ok ∧ sqA q = some ([38, 2, d.r, d.g, d.b, d.a], 109, z) ∧ t = ⟨s.x, s.y, d, s.k, s.L⟩) ∨
  (¬ bA q 0 = 27 ∧ ¬ bA q 0 = 14 ∧ ¬ bA q 0 = 15 ∧ ∃ r : Nat, Lib.decodeGo q = (r, z) ∧ ¬ r = 65533 ∧ z ≤ 4 ∧ width (r : Int) = 1 ∧ s.y < H ∧ s.x + 1 ≤ W ∧ t = ⟨s.x + 1, s.y, s.c, s.k, s.L.set (s.y * W + s.x) ⟨(r : Int), s.c, s.k, false, false⟩⟩)
def NoS (W H : Nat) (s : Stt) (q : ByteArray) : Prop := ¬ bA q 0 = 27 ∧ ¬ bA q 0 = 14 ∧ ¬ bA q 0 = 15 ∧ ∃ r z : Nat, Lib.decodeGo q = (r, z) ∧ ¬ r = 65533 ∧ z ≤ 4 ∧ width (r : Int) = 1 ∧ s.y < H ∧ W < s.x + 1 ∧ s.x ≤ 100000
abbrev RdS (lo b W H g n cap : Nat) (s : Stt) (w : World) : Prop := RdW lo b W H g n cap (s.x : Nat) (s.y : Nat) s.c s.k s.L w

set_option maxRecDepth 20000 in
set_option maxHeartbeats 8000000 in
theorem escape_any (lo b W H g n cap : Nat) (s t : Stt) (q : ByteArray) (z : Nat) (w : World) (hR : RdS lo b W H g n cap s w) (hq : q.size ≤ 2000000)
    (ns : List Int) (l : Nat) (hs : sqA q = some (ns, l, z)) (hcnt : ns.length = 2 ∨ ns.length = 6)
    (hO : ∀ W1, RdS lo b W H g n cap s W1 → Calls Tryz.prog 119 #[.pointer (some ⟨b, 0, none⟩), .agg (sqC ns ns.length l z)] W1 fun e w' => e = .returned (.bool true) ∧ RdS lo b W H g n cap t w' ∧ Below lo W1 w' ∧ FrB b W1 w') :
    Calls Tryz.prog 86 #[.pointer (some ⟨b, 0, none⟩), .string q] w fun e w' => e = .returned (.int .i64 (z : Nat)) ∧ RdS lo b W H g n cap t w' ∧ Below lo w w' := by
  have HS : Hid (Calls Tryz.prog 118 #[.string q] w fun e w' => e = .returned (.tuple #[.agg (sqC ns ns.length l z), .bool true]) ∧ Below w.heap.size w w') := seqOf_ok q ns l z w hq hs hcnt
  have H0 : Hid (RdS lo b W H g n cap s w) := hR
  have HOb : Hid (∀ W1, RdS lo b W H g n cap s W1 → Calls Tryz.prog 119 #[.pointer (some ⟨b, 0, none⟩), .agg (sqC ns ns.length l z)] W1 fun e w' => e = .returned (.bool true) ∧ RdS lo b W H g n cap t w' ∧ Below lo W1 w' ∧ FrB b W1 w') := hO
  clear hR hq hs hcnt hO
  unfold sqC at HS HOb
  generalize ns.length = m at *
  have e0 : ∃ v, six ns 0 = .int .i64 v := ⟨_, rfl⟩
  have e1 : ∃ v, six ns 1 = .int .i64 v := ⟨_, rfl⟩
  have e2 : ∃ v, six ns 2 = .int .i64 v := ⟨_, rfl⟩
  have e3 : ∃ v, six ns 3 = .int .i64 v := ⟨_, rfl⟩
  have e4 : ∃ v, six ns 4 = .int .i64 v := ⟨_, rfl⟩
  have e5 : ∃ v, six ns 5 = .int .i64 v := ⟨_, rfl⟩
  generalize six ns 0 = v0 at *
  generalize six ns 1 = v1 at *
  generalize six ns 2 = v2 at *
  generalize six ns 3 = v3 at *
  generalize six ns 4 = v4 at *
  generalize six ns 5 = v5 at *
  obtain ⟨v0, rfl⟩ := e0
  obtain ⟨v1, rfl⟩ := e1
  obtain ⟨v2, rfl⟩ := e2
  obtain ⟨v3, rfl⟩ := e3
  obtain ⟨v4, rfl⟩ := e4
  obtain ⟨v5, rfl⟩ := e5
  go_enter Tryz.func86, Tryz.ntmps86
  go_wp2_with fail
  refine HS.out.mono ?_
  rintro e W1 ⟨rfl, hb1⟩
  have H1 : Hid (∀ W2, W2 = W1.alloc (.cells #[.int .i64 v0, .int .i64 v1, .int .i64 v2, .int .i64 v3, .int .i64 v4, .int .i64 v5, .int .i64 (m : Nat), .int .u8 (l : Nat), .int .i64 (z : Nat)] 193) → RdS lo b W H g n cap s W2 ∧ Below lo w W2 ∧ Bk W2 W1.heap.size #[.int .i64 v0, .int .i64 v1, .int .i64 v2, .int .i64 v3, .int .i64 v4, .int .i64 v5, .int .i64 (m : Nat), .int .u8 (l : Nat), .int .i64 (z : Nat)] 193 ∧ lo ≤ W1.heap.size ∧ b < W1.heap.size) := fun W2 hW => by
    subst hW
    have h1 := H0.out.bel hb1
    exact ⟨h1.bel ((Below.refl _ _).alloc (Nat.le_refl _) _), (hb1.mono H0.out.sz).alloc h1.sz _, Bk.new _ _ _, h1.sz, h1.bk.lt⟩
  clear hb1 HS
  go_wp2_with fail
  refine (HOb.out _ (H1.out _ rfl).1).mono ?_
  rintro e W3 ⟨rfl, h1, h2, h3⟩
  obtain ⟨j1, j2, j3, j4, j5⟩ := H1.out _ rfl
  obtain ⟨sb, hsb⟩ : ∃ sb, sb = W1.heap.size := ⟨_, rfl⟩
  have H3 : Hid (RdS lo b W H g n cap t W3 ∧ Below lo w W3) := ⟨h1, j2.trans h2⟩
  have hk := h3.bk j3 (by omega)
  rw [← hsb] at hk
  have c8 : W3.cell? ⟨sb, 8, none⟩ = some (.int .i64 (z : Nat)) := hk.cell 8
  rw [← hsb]
  clear h1 h2 h3 j1 j2 j3 j4 j5 hsb hk H1 HOb H0
  go_wp2
  go_ret
  exact ⟨rfl, H3.out⟩

set_option maxRecDepth 20000 in
set_option maxHeartbeats 8000000 in
theorem thing_any (lo b W H g n cap : Nat) (s t : Stt) (q : ByteArray) (z : Nat) (w : World) (hR : RdS lo b W H g n cap s w) (hq : q.size ≤ 2000000) (hq0 : 0 < q.size) (hs : szB W H = true) (hn : (n : Int) = W * H) (T : Tabs w) (D : TabC w) (hp : Stp W H s q z t) :
    Calls Tryz.prog 53 #[.pointer (some ⟨b, 0, none⟩), .string q] w fun e w' => e = .returned (.int .i64 (z : Nat)) ∧ RdS lo b W H g n cap t w' ∧ Below lo w w' := by
  have iq : (0 : Int) < q.size := by omega
  have eb := bA_at hq0
  have hcase : (bA q 0 = 27 ∧ Calls Tryz.prog 86 #[.pointer (some ⟨b, 0, none⟩), .string q] w fun e w' => e = .returned (.int .i64 (z : Nat)) ∧ RdS lo b W H g n cap t w' ∧ Below lo w w') ∨ (¬ bA q 0 = 27 ∧ Calls Tryz.prog 87 #[.pointer (some ⟨b, 0, none⟩), .string q] w fun e w' => e = .returned (.int .i64 (z : Nat)) ∧ RdS lo b W H g n cap t w' ∧ Below lo w w') := by
    rcases hp with ⟨h1, a0, a1, h2, h3, h4, h5, h6, rfl⟩ | ⟨h1, d, hd, h2, rfl⟩ | ⟨h1, h2, h3, r, h4, h5, hz4, h6, h7, h8, rfl⟩
    · refine .inl ⟨h1, escape_any lo b W H g n cap s _ q z w hR hq _ _ h2 (.inl rfl) (fun W1 hW => ?_)⟩
      have := obeyH_any lo b W H g n cap s.x s.y s.c s.k s.L a0 a1 0 0 0 0 z W1 hW ⟨by omega, by omega⟩ ⟨by omega, by omega⟩
      rw [show (a1 : Int) - 1 = ((a1 - 1 : Nat) : Int) by omega, show (a0 : Int) - 1 = ((a0 - 1 : Nat) : Int) by omega] at this
      exact this
    · refine .inl ⟨h1, escape_any lo b W H g n cap s _ q z w hR hq _ _ h2 (.inr rfl) (fun W1 hW => ?_)⟩
      exact obeyM_any lo b W H g n cap s.x s.y s.c s.k s.L d hd z W1 hW
    · refine .inr ⟨h1, (cell_ok lo b W H g n cap s.x s.y s.c s.k s.L q r r z w hR hq0 h2 h3 rfl h4 (by omega) hz4 h6 h7 h8 hs hn T D)⟩
  clear hR hq hs hn T D hp
  rcases hcase with ⟨h1, h2⟩ | ⟨h1, h2⟩
  · have H2 : Hid (Calls Tryz.prog 86 #[.pointer (some ⟨b, 0, none⟩), .string q] w fun e w' => e = .returned (.int .i64 (z : Nat)) ∧ RdS lo b W H g n cap t w' ∧ Below lo w w') := h2
    have k1 : (((q[0]'hq0).toNat : Int) == 27) = true := by rw [← eb, h1]; rfl
    clear h1 h2 eb
    go_enter Tryz.func53, Tryz.ntmps53
    go_wp2_with fail
    refine H2.out.mono ?_
    rintro e W1 ⟨rfl, h3⟩
    have H3 : Hid (RdS lo b W H g n cap t W1 ∧ Below lo w W1) := h3
    clear h3 H2
    go_wp2
    go_ret
    exact ⟨rfl, H3.out⟩
  · have H2 : Hid (Calls Tryz.prog 87 #[.pointer (some ⟨b, 0, none⟩), .string q] w fun e w' => e = .returned (.int .i64 (z : Nat)) ∧ RdS lo b W H g n cap t w' ∧ Below lo w w') := h2
    have k1 : (((q[0]'hq0).toNat : Int) == 27) = false := by rw [← eb]; simp; omega
    clear h1 h2 eb
    go_enter Tryz.func53, Tryz.ntmps53
    go_wp2_with fail
    refine H2.out.mono ?_
    rintro e W1 ⟨rfl, h3⟩
    have H3 : Hid (RdS lo b W H g n cap t W1 ∧ Below lo w W1) := h3
    clear h3 H2
    go_wp2
    go_ret
    exact ⟨rfl, H3.out⟩

set_option maxRecDepth 20000 in
set_option maxHeartbeats 8000000 in
theorem thing_no (lo b W H g n cap : Nat) (s : Stt) (q : ByteArray) (w : World) (hR : RdS lo b W H g n cap s w) (hq0 : 0 < q.size) (hW : W ≤ 16384) (T : Tabs w) (D : TabC w) (hp : NoS W H s q) :
    Calls Tryz.prog 53 #[.pointer (some ⟨b, 0, none⟩), .string q] w fun e w' => e = .returned (.int .i64 0) ∧ Below lo w w' := by
  have iq : (0 : Int) < q.size := by omega
  have eb := bA_at hq0
  obtain ⟨h1, h2, h3, r, z, h4, h5, _, h6, h7, h8, h9⟩ := hp
  have H2 : Hid (Calls Tryz.prog 87 #[.pointer (some ⟨b, 0, none⟩), .string q] w fun e w' => e = .returned (.int .i64 0) ∧ Below lo w w') := cell_no lo b W H g n cap s.x s.y s.c s.k s.L q r r z w hR hq0 h2 h3 rfl h4 (by omega) h6 h7 h8 hW h9 T D
  have k1 : (((q[0]'hq0).toNat : Int) == 27) = false := by rw [← eb]; simp; omega
  clear hR hW T D h1 h2 h3 h4 h5 h6 h7 h8 h9 eb
  go_enter Tryz.func53, Tryz.ntmps53
  go_wp2_with fail
  refine H2.out.mono ?_
  rintro e W1 ⟨rfl, h3⟩
  have H3 : Hid (Below lo w W1) := h3
  clear h3 H2
  go_wp2
  go_ret
  exact ⟨rfl, H3.out⟩

end Go.Proofs.YtapachlhdgehjaaGreatDoor
