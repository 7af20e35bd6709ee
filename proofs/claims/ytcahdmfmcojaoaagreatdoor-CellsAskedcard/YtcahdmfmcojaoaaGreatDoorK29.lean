/-
  Texts of this claim, one behind the other: what each is about stands ahead of it.
-/
import Derived.Test.YtcahdmfmcojaoaaGreatDoorK28
import Derived.Test.YtcahdmfmcojaoaaGreatDoorK9
/-
  Package cells: dip, obey, escape, of sequences that say something.
-/
namespace Go.Proofs.YtcahdmfmcojaoaaGreatDoor
open Go.RowKit

theorem u8_wrap {n : Int} (h0 : 0 ≤ n) (h1 : n ≤ 255) : IntKind.u8.wrap n = n := by rw [IntKind.wrap_u8]; omega

set_option maxRecDepth 20000 in
set_option maxHeartbeats 8000000 in
theorem dip_any (lo b W H g n cap : Nat) (x y : Int) (c k : Co) (L : List Ce) (a1 : Int) (d : Co) (hd : d.ok) (w : World) (hR : RdW lo b W H g n cap x y c k L w) :
    Calls Tryz.prog 155 #[.pointer (some ⟨b, 0, none⟩), .agg #[.int .i64 38, .int .i64 a1, .int .i64 d.r, .int .i64 d.g, .int .i64 d.b, .int .i64 d.a]] w fun e w' => e = .returned (.bool true) ∧ RdW lo b W H g n cap x y d k L w' ∧ Below lo w w' ∧ FrB b w w' := by
  obtain ⟨⟨r0, r1⟩, ⟨g0, g1⟩, ⟨b0, b1⟩, ⟨a0, a1'⟩⟩ := hd
  have H0 : Hid (∀ W1, W1 = w.alloc (.cells #[.int .i64 38, .int .i64 a1, .int .i64 d.r, .int .i64 d.g, .int .i64 d.b, .int .i64 d.a] 189) → RdW lo b W H g n cap x y c k L W1 ∧ Bk W1 w.heap.size #[.int .i64 38, .int .i64 a1, .int .i64 d.r, .int .i64 d.g, .int .i64 d.b, .int .i64 d.a] 189 ∧ Below lo w W1 ∧ b < w.heap.size ∧ FrB b w W1) := fun W1 hW => by
    subst hW
    exact ⟨hR.bel ((Below.refl _ _).alloc (Nat.le_refl _) _), Bk.new _ _ _, (Below.refl _ w).alloc hR.sz _, hR.bk.lt, FrB.of_below ((Below.refl _ w).alloc (Nat.le_refl _) _)⟩
  have w1 := u8_wrap r0 r1
  have w2 := u8_wrap g0 g1
  have w3 := u8_wrap b0 b1
  have w4 := u8_wrap a0 a1'
  clear hR
  go_enter Tryz.func155, Tryz.ntmps155
  go_wp2_with fail
  obtain ⟨W1, hW1⟩ : ∃ W1, W1 = w.alloc (.cells #[.int .i64 38, .int .i64 a1, .int .i64 d.r, .int .i64 d.g, .int .i64 d.b, .int .i64 d.a] 189) := ⟨_, rfl⟩
  obtain ⟨sb, hsb⟩ : ∃ sb, sb = w.heap.size := ⟨_, rfl⟩
  have H1 : Hid (RdW lo b W H g n cap x y c k L W1 ∧ Bk W1 sb #[.int .i64 38, .int .i64 a1, .int .i64 d.r, .int .i64 d.g, .int .i64 d.b, .int .i64 d.a] 189 ∧ Below lo w W1 ∧ b < sb ∧ FrB b w W1) := by rw [hsb]; exact H0.out W1 hW1
  rw [← hW1, ← hsb]
  clear hW1 hsb H0
  refine (max4_any sb 38 a1 d.r d.g d.b d.a W1 H1.out.2.1 (by omega) (by omega) (by omega) (by omega)).mono ?_
  rintro e W2 ⟨⟨m, rfl, hm⟩, hW2⟩
  obtain rfl := hW2.symm
  have hm2 : decide (255 < m) = false := by simp; omega
  obtain ⟨c0, c1, c2, c3, c4, c5⟩ : W1.cell? ⟨sb, 0, none⟩ = some (.int .i64 38) ∧ W1.cell? ⟨sb, 1, none⟩ = some (.int .i64 a1) ∧ W1.cell? ⟨sb, 2, none⟩ = some (.int .i64 d.r) ∧ W1.cell? ⟨sb, 3, none⟩ = some (.int .i64 d.g) ∧ W1.cell? ⟨sb, 4, none⟩ = some (.int .i64 d.b) ∧ W1.cell? ⟨sb, 5, none⟩ = some (.int .i64 d.a) := ⟨H1.out.2.1.cell 0, H1.out.2.1.cell 1, H1.out.2.1.cell 2, H1.out.2.1.cell 3, H1.out.2.1.cell 4, H1.out.2.1.cell 5⟩
  have H3 : Hid (∀ W3, W3 = W1.alloc (.cells #[.int .u8 d.r, .int .u8 d.g, .int .u8 d.b, .int .u8 d.a] 30) → RdW lo b W H g n cap x y c k L W3 ∧ Below lo w W3 ∧ FrB b w W3) := fun W3 hW => by
    subst hW
    exact ⟨H1.out.1.bel ((Below.refl _ _).alloc (Nat.le_refl _) _), H1.out.2.2.1.alloc H1.out.1.sz _, H1.out.2.2.2.2.trans (FrB.of_below ((Below.refl _ _).alloc (Nat.le_refl _) _))⟩
  obtain ⟨_, ⟨t5, t6, t7, t8⟩, _⟩ := rd_at (H3.out _ rfl).1.bk
  have f5 := (H3.out _ rfl).1.bk.frozen 5
  have f6 := (H3.out _ rfl).1.bk.frozen 6
  have f7 := (H3.out _ rfl).1.bk.frozen 7
  have f8 := (H3.out _ rfl).1.bk.frozen 8
  have H4 : Hid (∀ W4, W4 = ((((W1.alloc (.cells #[.int .u8 d.r, .int .u8 d.g, .int .u8 d.b, .int .u8 d.a] 30)).setCell ⟨b, 5, none⟩ (.int .u8 d.r)).setCell ⟨b, 6, none⟩ (.int .u8 d.g)).setCell ⟨b, 7, none⟩ (.int .u8 d.b)).setCell ⟨b, 8, none⟩ (.int .u8 d.a) → RdW lo b W H g n cap x y d k L W4 ∧ Below lo w W4 ∧ FrB b w W4) := fun W4 hW => by
    obtain ⟨h1, h2, h3⟩ := H3.out _ rfl
    subst hW
    exact ⟨h1.fore d, below2 (below2 h2 h1.lb _ _ _ _) h1.lb _ _ _ _, (h3.trans (FrB.set2 b _ _ _ _ _)).trans (FrB.set2 b _ _ _ _ _)⟩
  have e0 : (W1.alloc (.cells #[.int .u8 d.r, .int .u8 d.g, .int .u8 d.b, .int .u8 d.a] 30)).cell? ⟨sb, 0, none⟩ = some (.int .i64 38) := (H1.out.2.1.below ((Below.refl _ _).alloc (Nat.le_refl _) _)).cell 0
  clear H1 H3
  go_wp2_with fail
  go_ret
  exact ⟨rfl, H4.out _ rfl⟩

abbrev sqB (a0 a1 a2 a3 a4 a5 : Int) (c q p : Nat) : Array Value := #[.int .i64 a0, .int .i64 a1, .int .i64 a2, .int .i64 a3, .int .i64 a4, .int .i64 a5, .int .i64 (c : Nat), .int .u8 (q : Nat), .int .i64 (p : Nat)]
theorem sqB_at {w : World} {s : Nat} {a0 a1 a2 a3 a4 a5 : Int} {c q p : Nat} {t : TypeId} (h : Bk w s (sqB a0 a1 a2 a3 a4 a5 c q p) t) : w.cell? ⟨s, 0, none⟩ = some (.int .i64 a0) ∧ w.cell? ⟨s, 1, none⟩ = some (.int .i64 a1) ∧ w.cell? ⟨s, 2, none⟩ = some (.int .i64 a2) ∧ w.cell? ⟨s, 3, none⟩ = some (.int .i64 a3) ∧ w.cell? ⟨s, 4, none⟩ = some (.int .i64 a4) ∧ w.cell? ⟨s, 5, none⟩ = some (.int .i64 a5) ∧ w.cell? ⟨s, 6, none⟩ = some (.int .i64 (c : Nat)) ∧ w.cell? ⟨s, 7, none⟩ = some (.int .u8 (q : Nat)) ∧ w.cell? ⟨s, 8, none⟩ = some (.int .i64 (p : Nat)) :=
  ⟨h.cell 0, h.cell 1, h.cell 2, h.cell 3, h.cell 4, h.cell 5, h.cell 6, h.cell 7, h.cell 8⟩

set_option maxRecDepth 20000 in
set_option maxHeartbeats 8000000 in
theorem obeyH_any (lo b W H g n cap : Nat) (x y : Int) (c k : Co) (L : List Ce) (a0 a1 a2 a3 a4 a5 : Int) (p : Nat) (w : World) (hR : RdW lo b W H g n cap x y c k L w) (h0 : 1 ≤ a0 ∧ a0 ≤ 100000) (h1 : 1 ≤ a1 ∧ a1 ≤ 100000) :
    Calls Tryz.prog 128 #[.pointer (some ⟨b, 0, none⟩), .agg (sqB a0 a1 a2 a3 a4 a5 2 72 p)] w fun e w' => e = .returned (.bool true) ∧ RdW lo b W H g n cap (a1 - 1) (a0 - 1) c k L w' ∧ Below lo w w' ∧ FrB b w w' := by
  have H0 : Hid (∀ W1, W1 = w.alloc (.cells (sqB a0 a1 a2 a3 a4 a5 2 72 p) 191) → Bk W1 w.heap.size (sqB a0 a1 a2 a3 a4 a5 2 72 p) 191 ∧ Calls Tryz.prog 154 #[.pointer (some ⟨b, 0, none⟩), .int .i64 a1, .int .i64 a0] W1 fun e w' => e = .returned (.bool true) ∧ RdW lo b W H g n cap (a1 - 1) (a0 - 1) c k L w' ∧ Below lo w w' ∧ FrB b w w') := fun W1 hW => by
    subst hW
    refine ⟨Bk.new _ _ _, (jump_any lo b W H g n cap x y c k L a1 a0 _ (hR.bel ((Below.refl _ _).alloc (Nat.le_refl _) _)) h1 h0).mono ?_⟩
    rintro e w' ⟨rfl, q1, q2, q3⟩
    exact ⟨rfl, q1, ((Below.refl _ w).alloc hR.sz _).trans q2, (FrB.of_below ((Below.refl _ w).alloc (Nat.le_refl _) _)).trans q3⟩
  clear hR h0 h1
  go_enter Tryz.func128, Tryz.ntmps128
  obtain ⟨z0, z1, z2, z3, z4, z5, z6, z7, z8⟩ := sqB_at (H0.out _ rfl).1
  go_wp2_with fail
  refine (H0.out _ rfl).2.mono ?_
  rintro e W2 ⟨rfl, h2⟩
  have H2 : Hid (RdW lo b W H g n cap (a1 - 1) (a0 - 1) c k L W2 ∧ Below lo w W2 ∧ FrB b w W2) := h2
  clear h2 H0 z0 z1 z2 z3 z4 z5 z6 z7 z8
  go_wp2
  go_ret
  exact ⟨rfl, H2.out⟩

set_option maxRecDepth 20000 in
set_option maxHeartbeats 8000000 in
theorem obeyM_any (lo b W H g n cap : Nat) (x y : Int) (c k : Co) (L : List Ce) (d : Co) (hd : d.ok) (p : Nat) (w : World) (hR : RdW lo b W H g n cap x y c k L w) :
    Calls Tryz.prog 128 #[.pointer (some ⟨b, 0, none⟩), .agg (sqB 38 2 d.r d.g d.b d.a 6 109 p)] w fun e w' => e = .returned (.bool true) ∧ RdW lo b W H g n cap x y d k L w' ∧ Below lo w w' ∧ FrB b w w' := by
  have H0 : Hid (∀ W1, W1 = w.alloc (.cells (sqB 38 2 d.r d.g d.b d.a 6 109 p) 191) → Bk W1 w.heap.size (sqB 38 2 d.r d.g d.b d.a 6 109 p) 191 ∧ Calls Tryz.prog 155 #[.pointer (some ⟨b, 0, none⟩), .agg #[.int .i64 38, .int .i64 2, .int .i64 d.r, .int .i64 d.g, .int .i64 d.b, .int .i64 d.a]] W1 fun e w' => e = .returned (.bool true) ∧ RdW lo b W H g n cap x y d k L w' ∧ Below lo w w' ∧ FrB b w w') := fun W1 hW => by
    subst hW
    refine ⟨Bk.new _ _ _, (dip_any lo b W H g n cap x y c k L 2 d hd _ (hR.bel ((Below.refl _ _).alloc (Nat.le_refl _) _))).mono ?_⟩
    rintro e w' ⟨rfl, q1, q2, q3⟩
    exact ⟨rfl, q1, ((Below.refl _ w).alloc hR.sz _).trans q2, (FrB.of_below ((Below.refl _ w).alloc (Nat.le_refl _) _)).trans q3⟩
  clear hR hd
  go_enter Tryz.func128, Tryz.ntmps128
  obtain ⟨z0, z1, z2, z3, z4, z5, z6, z7, z8⟩ := sqB_at (H0.out _ rfl).1
  go_wp2_with fail
  refine (H0.out _ rfl).2.mono ?_
  rintro e W2 ⟨rfl, h2⟩
  have H2 : Hid (RdW lo b W H g n cap x y d k L W2 ∧ Below lo w W2 ∧ FrB b w W2) := h2
  clear h2 H0 z0 z1 z2 z3 z4 z5 z6 z7 z8
  go_wp2
  go_ret
  exact ⟨rfl, H2.out⟩

end Go.Proofs.YtcahdmfmcojaoaaGreatDoor

/-
  Package cells: meant of a rune of one cell, put of one cell.
-/
namespace Go.Proofs.YtcahdmfmcojaoaaGreatDoor
open Go.RowKit

theorem str_eq0 (w : World) : (binOp .eql 9 (.string ByteArray.empty) (.string ⟨#[]⟩)).run Tryz.prog w = .ok (.bool true) w := by kernel_rfl

set_option maxRecDepth 20000 in
set_option maxHeartbeats 8000000 in
theorem meant_one (r : Int) (w : World) (T : Tabs w) (hw : width r = 1) :
    Calls Tryz.prog 131 #[.int .i32 r, .string ByteArray.empty] w fun e w' => ∃ hb, e = .returned (.slice (some ⟨hb, 0, none⟩) 1 2) ∧ Hid (Bk w' hb (duoA ⟨r, coZ, coZ, false, false⟩ ⟨0, coZ, coZ, false, false⟩) 205 ∧ w.heap.size ≤ hb ∧ Below w.heap.size w w') := by
  have HS : Hid (Calls Tryz.prog 144 #[.int .i32 r] w fun e w' => e = .returned (.tuple #[.agg (duoA ⟨r, coZ, coZ, false, false⟩ ⟨0, coZ, coZ, false, false⟩), .int .i64 1]) ∧ Below w.heap.size w w') := by
    have := shape_any r w T
    unfold shp1 shp2 at this
    rw [hw, if_neg (by decide), if_neg (by decide)] at this
    exact this
  have hq := str_eq0
  clear T hw
  go_enter Tryz.func131, Tryz.ntmps131
  go_wp2_with fail
  refine HS.out.mono ?_
  rintro e w1 ⟨rfl, hb1⟩
  have H2 : Hid (∀ W, W = w1.alloc (.cells (duoA ceZ ceZ) 205) → Bk W w1.heap.size (duoA ceZ ceZ) 205 ∧ Below w.heap.size w W ∧ w.heap.size ≤ w1.heap.size) := fun W hW => by
    subst hW
    exact ⟨Bk.new _ _ _, hb1.alloc hb1.size _, hb1.size⟩
  have hZ : (duoA ceZ ceZ) = #[.int .i32 0, .int .u8 0, .int .u8 0, .int .u8 0, .int .u8 0, .int .u8 0, .int .u8 0, .int .u8 0, .int .u8 0, .bool false, .bool false, .int .i32 0, .int .u8 0, .int .u8 0, .int .u8 0, .int .u8 0, .int .u8 0, .int .u8 0, .int .u8 0, .int .u8 0, .bool false, .bool false] := rfl
  rw [hZ] at H2
  clear hb1 HS hZ
  obtain ⟨D, hD⟩ : ∃ D, D = duoA ⟨r, coZ, coZ, false, false⟩ ⟨0, coZ, coZ, false, false⟩ := ⟨_, rfl⟩
  have HD : Hid (D.size = 22 ∧ D.all (·.oneCell') = true) := by rw [hD]; exact ⟨rfl, by simp [Value.oneCell']⟩
  have HDe : Hid (D = duoA ⟨r, coZ, coZ, false, false⟩ ⟨0, coZ, coZ, false, false⟩) := hD
  rw [← hD]
  clear hD
  have HDs : Hid ((Tryz.prog.info? 205).map (·.size) = some D.size) := by unfold Hid; rw [HD.out.1]; exact duo_size
  go_wp2_with (refine wpList_store_row rfl 205 (.tmp 5) (.tmp 10) rfl w1.heap.size D rfl rfl 205 #[.int .i32 0, .int .u8 0, .int .u8 0, .int .u8 0, .int .u8 0, .int .u8 0, .int .u8 0, .int .u8 0, .int .u8 0, .bool false, .bool false, .int .i32 0, .int .u8 0, .int .u8 0, .int .u8 0, .int .u8 0, .int .u8 0, .int .u8 0, .int .u8 0, .int .u8 0, .bool false, .bool false] (H2.out _ rfl).1 HDs.out HD.out.1.symm HD.out.2 ?_)
  obtain ⟨W3, hW3⟩ : ∃ W3, W3 = (w1.alloc (.cells #[.int .i32 0, .int .u8 0, .int .u8 0, .int .u8 0, .int .u8 0, .int .u8 0, .int .u8 0, .int .u8 0, .int .u8 0, .bool false, .bool false, .int .i32 0, .int .u8 0, .int .u8 0, .int .u8 0, .int .u8 0, .int .u8 0, .int .u8 0, .int .u8 0, .int .u8 0, .bool false, .bool false] 205)).setRow w1.heap.size D := ⟨_, rfl⟩
  obtain ⟨b, hb⟩ : ∃ b, b = w1.heap.size := ⟨_, rfl⟩
  have H3 : Hid (Bk W3 b D 205 ∧ w.heap.size ≤ b ∧ Below w.heap.size w W3) := by
    rw [hW3, hb]
    exact ⟨setRow_heap _ _ _ _ 205 _ (H2.out _ rfl).1, (H2.out _ rfl).2.2, below_setRow (H2.out _ rfl).2.1 (H2.out _ rfl).2.2 _⟩
  rw [← hW3, ← hb]
  clear hW3 hb H2
  go_wp2_with fail
  go_ret
  exact ⟨b, rfl, by rw [← HDe.out]; exact H3⟩

end Go.Proofs.YtcahdmfmcojaoaaGreatDoor

/-
  Package cells: put of one cell.
-/
namespace Go.Proofs.YtcahdmfmcojaoaaGreatDoor
open Go.RowKit

theorem RdW.far {lo b W H g n cap : Nat} {x y : Int} {c k : Co} {L : List Ce} {w : World} (h : RdW lo b W H g n cap x y c k L w) {q : Nat} (h1 : q ≠ b) (h2 : q ≠ g) (o : Nat) (v : Value) : RdW lo b W H g n cap x y c k L (w.setCell ⟨q, o, none⟩ v) :=
  ⟨h.bk.other ⟨q, o, none⟩ v h1, scm_far h.sc (fun e => h2 e.symm) o v, h.ne, h.lb, by simpa using h.sz⟩
theorem RdW.px {lo b W H g n cap : Nat} {x y : Int} {c k : Co} {L : List Ce} {w : World} (h : RdW lo b W H g n cap x y c k L w) (x' : Int) : RdW lo b W H g n cap x' y c k L (w.setCell ⟨b, 3, none⟩ (.int .i64 x')) :=
  ⟨h.bk.put 3 (.int .i64 x'), scm_far h.sc h.ne _ _, h.ne, h.lb, by simpa using h.sz⟩
theorem box_dip {w : World} {q : Nat} {z : Ce} {t : TypeId} (h : Bk w q (#[.int .i32 z.r, .int .u8 z.c.r, .int .u8 z.c.g, .int .u8 z.c.b, .int .u8 z.c.a, .int .u8 z.b.r, .int .u8 z.b.g, .int .u8 z.b.b, .int .u8 z.b.a, .bool z.wd, .bool z.tl]) t) (c k : Co) : Bk ((((((((w.setCell ⟨q, 1, none⟩ (.int .u8 c.r)).setCell ⟨q, 2, none⟩ (.int .u8 c.g)).setCell ⟨q, 3, none⟩ (.int .u8 c.b)).setCell ⟨q, 4, none⟩ (.int .u8 c.a)).setCell ⟨q, 5, none⟩ (.int .u8 k.r)).setCell ⟨q, 6, none⟩ (.int .u8 k.g)).setCell ⟨q, 7, none⟩ (.int .u8 k.b)).setCell ⟨q, 8, none⟩ (.int .u8 k.a)) q (#[.int .i32 (⟨z.r, c, k, z.wd, z.tl⟩ : Ce).r, .int .u8 (⟨z.r, c, k, z.wd, z.tl⟩ : Ce).c.r, .int .u8 (⟨z.r, c, k, z.wd, z.tl⟩ : Ce).c.g, .int .u8 (⟨z.r, c, k, z.wd, z.tl⟩ : Ce).c.b, .int .u8 (⟨z.r, c, k, z.wd, z.tl⟩ : Ce).c.a, .int .u8 (⟨z.r, c, k, z.wd, z.tl⟩ : Ce).b.r, .int .u8 (⟨z.r, c, k, z.wd, z.tl⟩ : Ce).b.g, .int .u8 (⟨z.r, c, k, z.wd, z.tl⟩ : Ce).b.b, .int .u8 (⟨z.r, c, k, z.wd, z.tl⟩ : Ce).b.a, .bool (⟨z.r, c, k, z.wd, z.tl⟩ : Ce).wd, .bool (⟨z.r, c, k, z.wd, z.tl⟩ : Ce).tl]) t := by
  have h0 : Bk ((w).setCell ⟨q, 1, none⟩ (.int .u8 c.r)) q #[.int .i32 z.r, .int .u8 c.r, .int .u8 z.c.g, .int .u8 z.c.b, .int .u8 z.c.a, .int .u8 z.b.r, .int .u8 z.b.g, .int .u8 z.b.b, .int .u8 z.b.a, .bool z.wd, .bool z.tl] t := h.put 1 (.int .u8 c.r)
  have h1 : Bk (((w).setCell ⟨q, 1, none⟩ (.int .u8 c.r)).setCell ⟨q, 2, none⟩ (.int .u8 c.g)) q #[.int .i32 z.r, .int .u8 c.r, .int .u8 c.g, .int .u8 z.c.b, .int .u8 z.c.a, .int .u8 z.b.r, .int .u8 z.b.g, .int .u8 z.b.b, .int .u8 z.b.a, .bool z.wd, .bool z.tl] t := h0.put 2 (.int .u8 c.g)
  have h2 : Bk ((((w).setCell ⟨q, 1, none⟩ (.int .u8 c.r)).setCell ⟨q, 2, none⟩ (.int .u8 c.g)).setCell ⟨q, 3, none⟩ (.int .u8 c.b)) q #[.int .i32 z.r, .int .u8 c.r, .int .u8 c.g, .int .u8 c.b, .int .u8 z.c.a, .int .u8 z.b.r, .int .u8 z.b.g, .int .u8 z.b.b, .int .u8 z.b.a, .bool z.wd, .bool z.tl] t := h1.put 3 (.int .u8 c.b)
  have h3 : Bk (((((w).setCell ⟨q, 1, none⟩ (.int .u8 c.r)).setCell ⟨q, 2, none⟩ (.int .u8 c.g)).setCell ⟨q, 3, none⟩ (.int .u8 c.b)).setCell ⟨q, 4, none⟩ (.int .u8 c.a)) q #[.int .i32 z.r, .int .u8 c.r, .int .u8 c.g, .int .u8 c.b, .int .u8 c.a, .int .u8 z.b.r, .int .u8 z.b.g, .int .u8 z.b.b, .int .u8 z.b.a, .bool z.wd, .bool z.tl] t := h2.put 4 (.int .u8 c.a)
  have h4 : Bk ((((((w).setCell ⟨q, 1, none⟩ (.int .u8 c.r)).setCell ⟨q, 2, none⟩ (.int .u8 c.g)).setCell ⟨q, 3, none⟩ (.int .u8 c.b)).setCell ⟨q, 4, none⟩ (.int .u8 c.a)).setCell ⟨q, 5, none⟩ (.int .u8 k.r)) q #[.int .i32 z.r, .int .u8 c.r, .int .u8 c.g, .int .u8 c.b, .int .u8 c.a, .int .u8 k.r, .int .u8 z.b.g, .int .u8 z.b.b, .int .u8 z.b.a, .bool z.wd, .bool z.tl] t := h3.put 5 (.int .u8 k.r)
  have h5 : Bk (((((((w).setCell ⟨q, 1, none⟩ (.int .u8 c.r)).setCell ⟨q, 2, none⟩ (.int .u8 c.g)).setCell ⟨q, 3, none⟩ (.int .u8 c.b)).setCell ⟨q, 4, none⟩ (.int .u8 c.a)).setCell ⟨q, 5, none⟩ (.int .u8 k.r)).setCell ⟨q, 6, none⟩ (.int .u8 k.g)) q #[.int .i32 z.r, .int .u8 c.r, .int .u8 c.g, .int .u8 c.b, .int .u8 c.a, .int .u8 k.r, .int .u8 k.g, .int .u8 z.b.b, .int .u8 z.b.a, .bool z.wd, .bool z.tl] t := h4.put 6 (.int .u8 k.g)
  have h6 : Bk ((((((((w).setCell ⟨q, 1, none⟩ (.int .u8 c.r)).setCell ⟨q, 2, none⟩ (.int .u8 c.g)).setCell ⟨q, 3, none⟩ (.int .u8 c.b)).setCell ⟨q, 4, none⟩ (.int .u8 c.a)).setCell ⟨q, 5, none⟩ (.int .u8 k.r)).setCell ⟨q, 6, none⟩ (.int .u8 k.g)).setCell ⟨q, 7, none⟩ (.int .u8 k.b)) q #[.int .i32 z.r, .int .u8 c.r, .int .u8 c.g, .int .u8 c.b, .int .u8 c.a, .int .u8 k.r, .int .u8 k.g, .int .u8 k.b, .int .u8 z.b.a, .bool z.wd, .bool z.tl] t := h5.put 7 (.int .u8 k.b)
  have h7 : Bk (((((((((w).setCell ⟨q, 1, none⟩ (.int .u8 c.r)).setCell ⟨q, 2, none⟩ (.int .u8 c.g)).setCell ⟨q, 3, none⟩ (.int .u8 c.b)).setCell ⟨q, 4, none⟩ (.int .u8 c.a)).setCell ⟨q, 5, none⟩ (.int .u8 k.r)).setCell ⟨q, 6, none⟩ (.int .u8 k.g)).setCell ⟨q, 7, none⟩ (.int .u8 k.b)).setCell ⟨q, 8, none⟩ (.int .u8 k.a)) q #[.int .i32 z.r, .int .u8 c.r, .int .u8 c.g, .int .u8 c.b, .int .u8 c.a, .int .u8 k.r, .int .u8 k.g, .int .u8 k.b, .int .u8 k.a, .bool z.wd, .bool z.tl] t := h6.put 8 (.int .u8 k.a)
  exact h7
theorem rd_put {lo b W H g n cap : Nat} {x y : Int} {c k : Co} {L : List Ce} {w w0 : World} (h : RdW lo b W H g n cap x y c k L w) (q : Nat) (hq : q < L.length) (p : Nat) (hp : p = q * 11) (z : Ce) (hb : Below lo w0 w) : RdW lo b W H g n cap x y c k (L.set q z) ((((((((((((w).setCell ⟨g, p, none⟩ (.int .i32 z.r)).setCell ⟨g, p + 1, none⟩ (.int .u8 z.c.r)).setCell ⟨g, p + 2, none⟩ (.int .u8 z.c.g)).setCell ⟨g, p + 3, none⟩ (.int .u8 z.c.b)).setCell ⟨g, p + 4, none⟩ (.int .u8 z.c.a)).setCell ⟨g, p + 5, none⟩ (.int .u8 z.b.r)).setCell ⟨g, p + 6, none⟩ (.int .u8 z.b.g)).setCell ⟨g, p + 7, none⟩ (.int .u8 z.b.b)).setCell ⟨g, p + 8, none⟩ (.int .u8 z.b.a)).setCell ⟨g, p + 9, none⟩ (.bool z.wd)).setCell ⟨g, p + 10, none⟩ (.bool z.tl)) ∧ Below lo w0 ((((((((((((w).setCell ⟨g, p, none⟩ (.int .i32 z.r)).setCell ⟨g, p + 1, none⟩ (.int .u8 z.c.r)).setCell ⟨g, p + 2, none⟩ (.int .u8 z.c.g)).setCell ⟨g, p + 3, none⟩ (.int .u8 z.c.b)).setCell ⟨g, p + 4, none⟩ (.int .u8 z.c.a)).setCell ⟨g, p + 5, none⟩ (.int .u8 z.b.r)).setCell ⟨g, p + 6, none⟩ (.int .u8 z.b.g)).setCell ⟨g, p + 7, none⟩ (.int .u8 z.b.b)).setCell ⟨g, p + 8, none⟩ (.int .u8 z.b.a)).setCell ⟨g, p + 9, none⟩ (.bool z.wd)).setCell ⟨g, p + 10, none⟩ (.bool z.tl)) := by
  have hg : lo ≤ g := h.sc.lt.1
  have h1 := (((((((((((h.bk).other ⟨g, p, none⟩ (.int .i32 z.r) h.ne).other ⟨g, p + 1, none⟩ (.int .u8 z.c.r) h.ne).other ⟨g, p + 2, none⟩ (.int .u8 z.c.g) h.ne).other ⟨g, p + 3, none⟩ (.int .u8 z.c.b) h.ne).other ⟨g, p + 4, none⟩ (.int .u8 z.c.a) h.ne).other ⟨g, p + 5, none⟩ (.int .u8 z.b.r) h.ne).other ⟨g, p + 6, none⟩ (.int .u8 z.b.g) h.ne).other ⟨g, p + 7, none⟩ (.int .u8 z.b.b) h.ne).other ⟨g, p + 8, none⟩ (.int .u8 z.b.a) h.ne).other ⟨g, p + 9, none⟩ (.bool z.wd) h.ne).other ⟨g, p + 10, none⟩ (.bool z.tl) h.ne
  have h2 := (((((((((((hb).setCell (p := ⟨g, p, none⟩) hg (.int .i32 z.r)).setCell (p := ⟨g, p + 1, none⟩) hg (.int .u8 z.c.r)).setCell (p := ⟨g, p + 2, none⟩) hg (.int .u8 z.c.g)).setCell (p := ⟨g, p + 3, none⟩) hg (.int .u8 z.c.b)).setCell (p := ⟨g, p + 4, none⟩) hg (.int .u8 z.c.a)).setCell (p := ⟨g, p + 5, none⟩) hg (.int .u8 z.b.r)).setCell (p := ⟨g, p + 6, none⟩) hg (.int .u8 z.b.g)).setCell (p := ⟨g, p + 7, none⟩) hg (.int .u8 z.b.b)).setCell (p := ⟨g, p + 8, none⟩) hg (.int .u8 z.b.a)).setCell (p := ⟨g, p + 9, none⟩) hg (.bool z.wd)).setCell (p := ⟨g, p + 10, none⟩) hg (.bool z.tl)
  exact ⟨⟨h1, h.sc.put q hq p hp z, h.ne, h.lb, by simpa using h.sz⟩, h2⟩
set_option maxRecDepth 20000 in
set_option maxHeartbeats 8000000 in
theorem put_no (lo b W H g n cap : Nat) (xn yn : Nat) (c k : Co) (L : List Ce) (hb : Nat) (w : World) (hR : RdW lo b W H g n cap (xn : Nat) (yn : Nat) c k L w) (hy : yn < H) (hx : W < xn + 1) (hW : W ≤ 16384) (hxb : xn ≤ 100000) :
    Calls Tryz.prog 130 #[.pointer (some ⟨b, 0, none⟩), .slice (some ⟨hb, 0, none⟩) 1 2] w fun e w' => e = .returned (.bool false) ∧ Below lo w w' := by
  have H0 : Hid (∀ W1, W1 = w.alloc (.cells #[.int .i64 (W : Nat), .int .i64 (H : Nat)] 23) → RdW lo b W H g n cap xn yn c k L W1 ∧ Bk W1 w.heap.size #[.int .i64 (W : Nat), .int .i64 (H : Nat)] 23 ∧ Below lo w W1) := fun W1 hW => by
    subst hW
    exact ⟨hR.bel ((Below.refl _ _).alloc (Nat.le_refl _) _), Bk.new _ _ _, (Below.refl _ w).alloc hR.sz _⟩
  obtain ⟨⟨c0, c1, c2, c3, c4⟩, _, _⟩ := rd_at hR.bk
  have t1 : decide (H ≤ yn) = false := by simp; omega
  have t2 : decide ((W : Int) - (xn : Int) < 1) = true := by simp; omega
  have w1 : IntKind.i64.wrap ((W : Int) - (xn : Int)) = (W : Int) - (xn : Int) := by rw [IntKind.wrap_i64]; omega
  clear hR
  go_enter Tryz.func130, Tryz.ntmps130
  go_wp2_with fail
  obtain ⟨W1, hW1⟩ : ∃ W1, W1 = w.alloc (.cells #[.int .i64 (W : Nat), .int .i64 (H : Nat)] 23) := ⟨_, rfl⟩
  obtain ⟨sb, hsb⟩ : ∃ sb, sb = w.heap.size := ⟨_, rfl⟩
  have H1 : Hid (RdW lo b W H g n cap xn yn c k L W1 ∧ Bk W1 sb #[.int .i64 (W : Nat), .int .i64 (H : Nat)] 23 ∧ Below lo w W1) := by rw [hsb]; exact H0.out W1 hW1
  rw [← hW1, ← hsb]
  clear hW1 hsb H0 c0 c1 c2 c3 c4
  have ne : Nonempty (Gw W1) := ⟨⟨W1, Below.refl _ _⟩⟩
  have rf := fun t : Gw W1 => rd_at (H1.out.1.bk.below t.below)
  have c3 := fun t : Gw W1 => (rf t).1.2.2.2.1
  have c4 := fun t : Gw W1 => (rf t).1.2.2.2.2
  have s0 := fun t : Gw W1 => (Bk.at2 (H1.out.2.1.below t.below)).1
  have s1 := fun t : Gw W1 => (Bk.at2 (H1.out.2.1.below t.below)).2
  clear rf
  go_wp2_with fail
  refine wp_region_gw (by kernel_rfl) (by kernel_rfl) ?_
  repeat (go_big_quiet_step (fail))
  refine wpQuiet_nil ?_
  rintro _ ⟨t, rfl⟩
  have H2 : Hid (Below lo w t.wd) := H1.out.2.2.trans (t.below.mono H1.out.1.sz)
  generalize t.wd = W2 at *
  clear H1 c3 c4 s0 s1 ne
  go_wp2
  go_ret
  exact ⟨rfl, H2.out⟩

set_option maxRecDepth 20000 in
set_option maxHeartbeats 8000000 in
theorem put_one (lo b W H g n cap : Nat) (xn yn : Nat) (c k : Co) (L : List Ce) (hb : Nat) (z z2 : Ce) (w : World) (hR : RdW lo b W H g n cap (xn : Nat) (yn : Nat) c k L w) (hz : Bk w hb (duoA z z2) 205) (hy : yn < H) (hx : xn + 1 ≤ W) (hs : szB W H = true) (hn : (n : Int) = W * H) :
    Calls Tryz.prog 130 #[.pointer (some ⟨b, 0, none⟩), .slice (some ⟨hb, 0, none⟩) 1 2] w fun e w' => e = .returned (.bool true) ∧ RdW lo b W H g n cap ((xn : Int) + 1) (yn : Nat) c k (L.set (yn * W + xn) ⟨z.r, c, k, z.wd, z.tl⟩) w' ∧ Below lo w w' := by
  obtain ⟨s1_, s2_, s3_, s4_, s5_⟩ := szB_iff.1 hs
  have hnat : n = W * H := by
    have : ((W * H : Nat) : Int) = (W : Int) * H := by simp
    omega
  obtain ⟨P, hP⟩ : ∃ P, P = yn * W := ⟨_, rfl⟩
  have hPW : P + W ≤ n := by
    rw [hP, hnat]
    calc yn * W + W = (yn + 1) * W := by rw [Nat.succ_mul]
      _ ≤ H * W := Nat.mul_le_mul_right W hy
      _ = W * H := Nat.mul_comm _ _
  have hcap := hR.sc.cap
  have H0 : Hid (∀ W1, W1 = w.alloc (.cells #[.int .i64 (W : Nat), .int .i64 (H : Nat)] 23) → RdW lo b W H g n cap xn yn c k L W1 ∧ Bk W1 w.heap.size #[.int .i64 (W : Nat), .int .i64 (H : Nat)] 23 ∧ Below lo w W1 ∧ Bk W1 hb (duoA z z2) 205) := fun W1 hW => by
    subst hW
    exact ⟨hR.bel ((Below.refl _ _).alloc (Nat.le_refl _) _), Bk.new _ _ _, (Below.refl _ w).alloc hR.sz _, hz.below ((Below.refl _ _).alloc (Nat.le_refl _) _)⟩
  obtain ⟨⟨c0, c1, c2, c3, c4⟩, _, _⟩ := rd_at hR.bk
  have HRow : Hid (∀ W1, Calls Tryz.prog 28 #[.agg #[.int .i64 (W : Nat), .int .i64 (H : Nat), .slice (some ⟨g, 0, none⟩) n cap], .int .i64 yn] W1 fun e w' => e = .returned (.slice (some ⟨g, P * 11, none⟩) W (cap - P)) ∧ Below W1.heap.size W1 w') := fun W1 => by
    have := rowC_any W H yn g 0 n cap W1 hs hn hcap (by omega) (by omega) (by omega) P (by rw [hP]; simp) W rfl
    rw [Nat.zero_add] at this
    exact this
  have t1 : decide (H ≤ yn) = false := by simp; omega
  have t2 : decide ((W : Int) - (xn : Int) < 1) = false := by simp; omega
  have w1 : IntKind.i64.wrap ((W : Int) - (xn : Int)) = (W : Int) - (xn : Int) := by rw [IntKind.wrap_i64]; omega
  have w2 : IntKind.i64.wrap ((xn : Int) + 1) = (xn : Int) + 1 := by rw [IntKind.wrap_i64]; omega
  have u1 : (xn : Int) ≤ (W : Int) := by omega
  have u2 : (W : Int) ≤ ((cap - P : Nat) : Int) := by omega
  have u3 : ¬ (cap - P = xn) := by omega
  have u4 : ¬ (xn = cap - P) := by omega
  have HL : Hid (P + xn < L.length) := by have := hR.sc.1; unfold Hid; omega
  have HPn : Hid (P = yn * W) := hP
  clear hR hz hs hn hnat hP
  go_enter Tryz.func130, Tryz.ntmps130
  go_wp2_with fail
  obtain ⟨W1, hW1⟩ : ∃ W1, W1 = w.alloc (.cells #[.int .i64 (W : Nat), .int .i64 (H : Nat)] 23) := ⟨_, rfl⟩
  obtain ⟨sb, hsb⟩ : ∃ sb, sb = w.heap.size := ⟨_, rfl⟩
  have H1 : Hid (RdW lo b W H g n cap xn yn c k L W1 ∧ Bk W1 sb #[.int .i64 (W : Nat), .int .i64 (H : Nat)] 23 ∧ Below lo w W1 ∧ Bk W1 hb (duoA z z2) 205) := by rw [hsb]; exact H0.out W1 hW1
  rw [← hW1, ← hsb]
  clear hW1 hsb H0 c0 c1 c2 c3 c4
  have ne : Nonempty (Gw W1) := ⟨⟨W1, Below.refl _ _⟩⟩
  have rf := fun t : Gw W1 => rd_at (H1.out.1.bk.below t.below)
  have c3 := fun t : Gw W1 => (rf t).1.2.2.2.1
  have c4 := fun t : Gw W1 => (rf t).1.2.2.2.2
  have s0 := fun t : Gw W1 => (Bk.at2 (H1.out.2.1.below t.below)).1
  have s1 := fun t : Gw W1 => (Bk.at2 (H1.out.2.1.below t.below)).2
  clear rf
  go_wp2_with fail
  refine wp_region_gw (by kernel_rfl) (by kernel_rfl) ?_
  repeat (go_big_quiet_step (fail))
  refine wpQuiet_nil ?_
  rintro _ ⟨t, rfl⟩
  have H2 : Hid (RdW lo b W H g n cap xn yn c k L t.wd ∧ Below lo w t.wd ∧ Bk t.wd hb (duoA z z2) 205) := ⟨H1.out.1.bel t.below, H1.out.2.2.1.trans (t.below.mono H1.out.1.sz), H1.out.2.2.2.below t.below⟩
  generalize t.wd = W2 at *
  clear H1 c3 c4 s0 s1 ne
  have ne : Nonempty (Gw W2) := ⟨⟨W2, Below.refl _ _⟩⟩
  have rf := fun t : Gw W2 => rd_at (H2.out.1.bk.below t.below)
  have c0 := fun t : Gw W2 => (rf t).1.1
  have c1 := fun t : Gw W2 => (rf t).1.2.1
  have c2 := fun t : Gw W2 => (rf t).1.2.2.1
  have c3 := fun t : Gw W2 => (rf t).1.2.2.2.1
  have c4 := fun t : Gw W2 => (rf t).1.2.2.2.2
  clear rf
  go_wp2_with fail
  refine wp_region_gw (by kernel_rfl) (by kernel_rfl) ?_
  repeat (go_big_quiet_step (first | (go_at_call 28; exact gw_call (HRow.out _))))
  refine wpQuiet_nil ?_
  rintro _ ⟨t, rfl⟩
  have H3 : Hid (RdW lo b W H g n cap xn yn c k L t.wd ∧ Below lo w t.wd ∧ Bk t.wd hb (duoA z z2) 205) := ⟨H2.out.1.bel t.below, H2.out.2.1.trans (t.below.mono H2.out.1.sz), H2.out.2.2.below t.below⟩
  generalize t.wd = W3 at *
  clear H2 c0 c1 c2 c3 c4 ne HRow t1 t2
  go_wp2_with fail
  go_loopw [58] (fun i wr => ∃ kk : Nat, kk ≤ 1 ∧ i = .int .i64 kk ∧ Hid (RdW lo b W H g n cap xn yn c k (if kk = 0 then L else L.set (P + xn) ⟨z.r, c, k, z.wd, z.tl⟩) wr ∧ Below lo w wr ∧ (kk = 0 → Bk wr hb (duoA z z2) 205))) (fun i _ => 1 - (RowKit.intOf i).toNat)
  case atStart => exact ⟨0, Nat.zero_le _, rfl, H3.out.1, H3.out.2.1, fun _ => H3.out.2.2⟩
  case round =>
    obtain ⟨kk, hk, rfl, HK⟩ := hrel
    clear H3
    rcases (show kk = 0 ∨ kk = 1 by omega) with rfl | rfl
    · have H4 : Hid (RdW lo b W H g n cap xn yn c k L wr ∧ Below lo w wr ∧ Bk wr hb (duoA z z2) 205) := ⟨HK.out.1, HK.out.2.1, HK.out.2.2 rfl⟩
      clear HK
      have H5 : Hid (∀ W5, W5 = wr.alloc (.cells (#[.int .i32 z.r, .int .u8 z.c.r, .int .u8 z.c.g, .int .u8 z.c.b, .int .u8 z.c.a, .int .u8 z.b.r, .int .u8 z.b.g, .int .u8 z.b.b, .int .u8 z.b.a, .bool z.wd, .bool z.tl]) 34) → RdW lo b W H g n cap xn yn c k L W5 ∧ Bk W5 wr.heap.size (#[.int .i32 z.r, .int .u8 z.c.r, .int .u8 z.c.g, .int .u8 z.c.b, .int .u8 z.c.a, .int .u8 z.b.r, .int .u8 z.b.g, .int .u8 z.b.b, .int .u8 z.b.a, .bool z.wd, .bool z.tl]) 34 ∧ Below lo w W5 ∧ b < wr.heap.size ∧ g < wr.heap.size) := fun W5 hW => by
        subst hW
        exact ⟨H4.out.1.bel ((Below.refl _ _).alloc (Nat.le_refl _) _), Bk.new _ _ _, H4.out.2.1.alloc H4.out.1.sz _, H4.out.1.bk.lt, H4.out.1.sc.lt.2⟩
      obtain ⟨z0, z1, z2', z3, z4, z5, z6, z7, z8, z9, z10⟩ : wr.cell? ⟨hb, 0, none⟩ = some (.int .i32 z.r) ∧ wr.cell? ⟨hb, 1, none⟩ = some (.int .u8 z.c.r) ∧ wr.cell? ⟨hb, 2, none⟩ = some (.int .u8 z.c.g) ∧ wr.cell? ⟨hb, 3, none⟩ = some (.int .u8 z.c.b) ∧ wr.cell? ⟨hb, 4, none⟩ = some (.int .u8 z.c.a) ∧ wr.cell? ⟨hb, 5, none⟩ = some (.int .u8 z.b.r) ∧ wr.cell? ⟨hb, 6, none⟩ = some (.int .u8 z.b.g) ∧ wr.cell? ⟨hb, 7, none⟩ = some (.int .u8 z.b.b) ∧ wr.cell? ⟨hb, 8, none⟩ = some (.int .u8 z.b.a) ∧ wr.cell? ⟨hb, 9, none⟩ = some (.bool z.wd) ∧ wr.cell? ⟨hb, 10, none⟩ = some (.bool z.tl) :=
        ⟨H4.out.2.2.cell 0, H4.out.2.2.cell 1, H4.out.2.2.cell 2, H4.out.2.2.cell 3, H4.out.2.2.cell 4, H4.out.2.2.cell 5, H4.out.2.2.cell 6, H4.out.2.2.cell 7, H4.out.2.2.cell 8, H4.out.2.2.cell 9, H4.out.2.2.cell 10⟩
      clear H4
      go_wp2_with fail
      obtain ⟨W5, hW5⟩ : ∃ W5, W5 = wr.alloc (.cells (#[.int .i32 z.r, .int .u8 z.c.r, .int .u8 z.c.g, .int .u8 z.c.b, .int .u8 z.c.a, .int .u8 z.b.r, .int .u8 z.b.g, .int .u8 z.b.b, .int .u8 z.b.a, .bool z.wd, .bool z.tl]) 34) := ⟨_, rfl⟩
      obtain ⟨cb, hcb⟩ : ∃ cb, cb = wr.heap.size := ⟨_, rfl⟩
      have H6 : Hid (RdW lo b W H g n cap xn yn c k L W5 ∧ Bk W5 cb (#[.int .i32 z.r, .int .u8 z.c.r, .int .u8 z.c.g, .int .u8 z.c.b, .int .u8 z.c.a, .int .u8 z.b.r, .int .u8 z.b.g, .int .u8 z.b.b, .int .u8 z.b.a, .bool z.wd, .bool z.tl]) 34 ∧ Below lo w W5 ∧ b < cb ∧ g < cb) := by rw [hcb]; exact H5.out W5 hW5
      rw [← hW5, ← hcb]
      clear hW5 hcb H5 z0 z1 z2' z3 z4 z5 z6 z7 z8 z9 z10
      have hbc : ¬ b = cb := by have := H6.out.2.2.2.1; omega
      have hcb' : ¬ cb = b := fun e => hbc e.symm
      obtain ⟨⟨c0, c1, c2, c3, c4⟩, ⟨c5, c6, c7, c8⟩, c9, c10, c11, c12⟩ := rd_at H6.out.1.bk
      obtain ⟨z1, z2', z3, z4, z5, z6, z7, z8⟩ := col_at H6.out.2.1
      have f1 := H6.out.2.1.frozen 1
      have f2 := H6.out.2.1.frozen 2
      have f3 := H6.out.2.1.frozen 3
      have f4 := H6.out.2.1.frozen 4
      have f5 := H6.out.2.1.frozen 5
      have f6 := H6.out.2.1.frozen 6
      have f7 := H6.out.2.1.frozen 7
      have f8 := H6.out.2.1.frozen 8
      go_region
      obtain ⟨W6, hW6⟩ : ∃ W6, W6 = ((((((((W5.setCell ⟨cb, 1, none⟩ (.int .u8 c.r)).setCell ⟨cb, 2, none⟩ (.int .u8 c.g)).setCell ⟨cb, 3, none⟩ (.int .u8 c.b)).setCell ⟨cb, 4, none⟩ (.int .u8 c.a)).setCell ⟨cb, 5, none⟩ (.int .u8 k.r)).setCell ⟨cb, 6, none⟩ (.int .u8 k.g)).setCell ⟨cb, 7, none⟩ (.int .u8 k.b)).setCell ⟨cb, 8, none⟩ (.int .u8 k.a)).drew := ⟨_, rfl⟩
      have hgc : cb ≠ g := by have := H6.out.2.2.2.2; omega
      have hlc : lo ≤ cb := by have h1 := H6.out.1.lb; have h2 := H6.out.2.2.2.1; omega
      have H7 : Hid (RdW lo b W H g n cap xn yn c k L W6 ∧ Bk W6 cb (#[.int .i32 (⟨z.r, c, k, z.wd, z.tl⟩ : Ce).r, .int .u8 (⟨z.r, c, k, z.wd, z.tl⟩ : Ce).c.r, .int .u8 (⟨z.r, c, k, z.wd, z.tl⟩ : Ce).c.g, .int .u8 (⟨z.r, c, k, z.wd, z.tl⟩ : Ce).c.b, .int .u8 (⟨z.r, c, k, z.wd, z.tl⟩ : Ce).c.a, .int .u8 (⟨z.r, c, k, z.wd, z.tl⟩ : Ce).b.r, .int .u8 (⟨z.r, c, k, z.wd, z.tl⟩ : Ce).b.g, .int .u8 (⟨z.r, c, k, z.wd, z.tl⟩ : Ce).b.b, .int .u8 (⟨z.r, c, k, z.wd, z.tl⟩ : Ce).b.a, .bool (⟨z.r, c, k, z.wd, z.tl⟩ : Ce).wd, .bool (⟨z.r, c, k, z.wd, z.tl⟩ : Ce).tl]) 34 ∧ Below lo w W6) := by
        have h1 := ((((((((H6.out.1.far hcb' hgc 1 (.int .u8 c.r)).far hcb' hgc 2 (.int .u8 c.g)).far hcb' hgc 3 (.int .u8 c.b)).far hcb' hgc 4 (.int .u8 c.a)).far hcb' hgc 5 (.int .u8 k.r)).far hcb' hgc 6 (.int .u8 k.g)).far hcb' hgc 7 (.int .u8 k.b)).far hcb' hgc 8 (.int .u8 k.a)).bel (Below.refl _ _).drew
        have h2 := (box_dip H6.out.2.1 c k).below (Below.refl _ _).drew
        have h3 := (below2 (below2 (below2 (below2 H6.out.2.2.1 hlc 1 2 (.int .u8 c.r) (.int .u8 c.g)) hlc 3 4 (.int .u8 c.b) (.int .u8 c.a)) hlc 5 6 (.int .u8 k.r) (.int .u8 k.g)) hlc 7 8 (.int .u8 k.b) (.int .u8 k.a)).drew
        rw [hW6]
        exact ⟨h1, h2, h3⟩
      rw [← hW6]
      clear hW6 H6 c0 c1 c2 c3 c4 c5 c6 c7 c8 c9 c10 c11 c12 z1 z2' z3 z4 z5 z6 z7 z8 f1 f2 f3 f4 f5 f6 f7 f8 hbc hcb' hgc hlc
      obtain ⟨Q, hQ⟩ : ∃ Q, Q = P * 11 + xn * 11 := ⟨_, rfl⟩
      have HQ : Hid (Q = (P + xn) * 11) := by unfold Hid; rw [hQ]; omega
      rw [← hQ]
      clear hQ
      have hold := H7.out.1.sc.at (P + xn) HL.out
      rw [← HQ.out] at hold
      obtain ⟨o0, o1, o2, o3, o4, o5, o6, o7, o8, o9, o10⟩ := hold
      generalize L[P + xn]'(HL.out) = oc at *
      have g0 := H7.out.1.sc.frozen Q
      have g1 := H7.out.1.sc.frozen (Q + 1)
      have g2 := H7.out.1.sc.frozen (Q + 2)
      have g3 := H7.out.1.sc.frozen (Q + 3)
      have g4 := H7.out.1.sc.frozen (Q + 4)
      have g5 := H7.out.1.sc.frozen (Q + 5)
      have g6 := H7.out.1.sc.frozen (Q + 6)
      have g7 := H7.out.1.sc.frozen (Q + 7)
      have g8 := H7.out.1.sc.frozen (Q + 8)
      have g9 := H7.out.1.sc.frozen (Q + 9)
      have g10 := H7.out.1.sc.frozen (Q + 10)
      have z0 : W6.cell? ⟨cb, 0, none⟩ = some (.int .i32 z.r) := H7.out.2.1.cell 0
      obtain ⟨z1, z2', z3, z4, z5, z6, z7, z8⟩ := col_at H7.out.2.1
      have z9 : W6.cell? ⟨cb, 9, none⟩ = some (.bool z.wd) := H7.out.2.1.cell 9
      have z10 : W6.cell? ⟨cb, 10, none⟩ = some (.bool z.tl) := H7.out.2.1.cell 10
      simp only at z0 z1 z2' z3 z4 z5 z6 z7 z8 z9 z10
      have u5 : (0 : Int) < ((W - xn : Nat) : Int) := by omega
      have hs0 := rd_put H7.out.1 (P + xn) HL.out Q HQ.out ⟨z.r, c, k, z.wd, z.tl⟩ H7.out.2.2
      simp only at hs0
      have HS := show Hid _ from hs0
      clear hs0
      have hQ2 : Q = P * 11 + xn * 11 := by have := HQ.out; omega
      have HQ2 := show Hid _ from hQ2
      clear hQ2
      go_wp2_with fail
      refine ⟨⟨_, _, _, ⟨1, by omega, rfl, ?_⟩, HQ2.out, rfl, rfl, HQ2.out, by go_num⟩, by simp [RowKit.intOf]⟩
      rw [if_neg (show ¬ (1 : Nat) = 0 by decide)]
      exact ⟨HS.out.1, HS.out.2, fun h => by cases h⟩
    · have H4 : Hid (RdW lo b W H g n cap xn yn c k (L.set (P + xn) ⟨z.r, c, k, z.wd, z.tl⟩) wr ∧ Below lo w wr) := ⟨HK.out.1, HK.out.2.1⟩
      clear HK
      obtain ⟨⟨c0, c1, c2, c3, c4⟩, _, _⟩ := rd_at H4.out.1.bk
      have f3 := H4.out.1.bk.frozen 3
      have HF : Hid (RdW lo b W H g n cap ((xn : Int) + 1) yn c k (L.set (P + xn) ⟨z.r, c, k, z.wd, z.tl⟩) (wr.setCell ⟨b, 3, none⟩ (.int .i64 ((xn : Int) + 1))) ∧ Below lo w (wr.setCell ⟨b, 3, none⟩ (.int .i64 ((xn : Int) + 1)))) := ⟨H4.out.1.px _, H4.out.2.setCell (p := ⟨b, 3, none⟩) H4.out.1.lb _⟩
      clear H4
      go_wp2
      go_ret
      exact ⟨rfl, by rw [← HPn.out]; exact HF.out⟩

end Go.Proofs.YtcahdmfmcojaoaaGreatDoor
