/-
  Texts of this claim, one behind the other: what each is about stands ahead of it.
-/
import Derived.Test.YtapachlhdgehjaaGreatDoorK10
import Derived.Test.YtapachlhdgehjaaGreatDoorK7
import Derived.Shelf.Abstract
import Derived.Shelf.RegionOpen
import Derived.OwnWalkIn
import Derived.TacticsInMore
import Derived.LoopNIn
import Derived.LoopIn
import Derived.Test.YtapachlhdgehjaaGreatDoorK0
import Derived.Test.YtapachlhdgehjaaGreatDoorK2
import Derived.Test.YtapachlhdgehjaaGreatDoorK9
import Derived.OrdersIn
/-
  Package cells: written.
-/
namespace Go.Proofs.YtapachlhdgehjaaGreatDoor
open Go.RowKit

def wrtC (c h : Ce) (s : St) : Ce := ⟨h.r, overC s.c (overC s.b c.b), overC s.b c.b, h.wd, h.tl⟩

set_option maxRecDepth 20000 in
set_option maxHeartbeats 4000000 in
theorem written_any (c h : Ce) (s : St) (w : World) (hc : c.b.ok) (hs : s.c.ok ∧ s.b.ok) : Calls Tryz.prog 132 #[(Value.agg #[.int .i32 c.r, .int .u8 c.c.r, .int .u8 c.c.g, .int .u8 c.c.b, .int .u8 c.c.a, .int .u8 c.b.r, .int .u8 c.b.g, .int .u8 c.b.b, .int .u8 c.b.a, .bool c.wd, .bool c.tl]), (Value.agg #[.int .i32 h.r, .int .u8 h.c.r, .int .u8 h.c.g, .int .u8 h.c.b, .int .u8 h.c.a, .int .u8 h.b.r, .int .u8 h.b.g, .int .u8 h.b.b, .int .u8 h.b.a, .bool h.wd, .bool h.tl]), (Value.agg #[.int .u8 s.k, .int .i64 s.r.x, .int .i64 s.r.y, .int .i64 s.r.w, .int .i64 s.r.h, .int .u8 s.c.r, .int .u8 s.c.g, .int .u8 s.c.b, .int .u8 s.c.a, .int .u8 s.b.r, .int .u8 s.b.g, .int .u8 s.b.b, .int .u8 s.b.a, .string s.t, .int .i64 s.n])] w fun e w' => e = .returned (Value.agg #[.int .i32 (wrtC c h s).r, .int .u8 (wrtC c h s).c.r, .int .u8 (wrtC c h s).c.g, .int .u8 (wrtC c h s).c.b, .int .u8 (wrtC c h s).c.a, .int .u8 (wrtC c h s).b.r, .int .u8 (wrtC c h s).b.g, .int .u8 (wrtC c h s).b.b, .int .u8 (wrtC c h s).b.a, .bool (wrtC c h s).wd, .bool (wrtC c h s).tl]) ∧ Below w.heap.size w w' := by
  obtain ⟨bk, hbk⟩ : ∃ bk, bk = overC s.b c.b := ⟨_, rfl⟩
  obtain ⟨fo, hfo⟩ : ∃ fo, fo = overC s.c bk := ⟨_, rfl⟩
  have hbo : bk.ok := by rw [hbk]; exact over_ok hs.2 hc
  have HO1 : Hid (∀ W, Calls Tryz.prog 96 #[(Value.agg #[.int .u8 s.b.r, .int .u8 s.b.g, .int .u8 s.b.b, .int .u8 s.b.a]), (Value.agg #[.int .u8 c.b.r, .int .u8 c.b.g, .int .u8 c.b.b, .int .u8 c.b.a])] W fun e w' => e = .returned (Value.agg #[.int .u8 bk.r, .int .u8 bk.g, .int .u8 bk.b, .int .u8 bk.a]) ∧ Below W.heap.size W w') := fun W => by rw [hbk]; exact overK_any s.b c.b W hs.2 hc
  have HO2 : Hid (∀ W, Calls Tryz.prog 96 #[(Value.agg #[.int .u8 s.c.r, .int .u8 s.c.g, .int .u8 s.c.b, .int .u8 s.c.a]), (Value.agg #[.int .u8 bk.r, .int .u8 bk.g, .int .u8 bk.b, .int .u8 bk.a])] W fun e w' => e = .returned (Value.agg #[.int .u8 fo.r, .int .u8 fo.g, .int .u8 fo.b, .int .u8 fo.a]) ∧ Below W.heap.size W w') := fun W => by rw [hfo]; exact overK_any s.c bk W hs.1 hbo
  have hE : wrtC c h s = ⟨h.r, fo, bk, h.wd, h.tl⟩ := by unfold wrtC; rw [← hbk, ← hfo]
  rw [hE]
  clear hE hbk hfo hbo hs hc
  obtain ⟨b3, hb3⟩ : ∃ b, b = w.heap.size := ⟨_, rfl⟩
  obtain ⟨b4, hb4⟩ : ∃ b, b = w.heap.size + 1 := ⟨_, rfl⟩
  obtain ⟨b5, hb5⟩ : ∃ b, b = w.heap.size + 1 + 1 := ⟨_, rfl⟩
  obtain ⟨b6, hb6⟩ : ∃ b, b = w.heap.size + 1 + 1 + 1 := ⟨_, rfl⟩
  have H0 : Hid (∀ W, Below ((((w.alloc (.cells (#[.int .i32 c.r, .int .u8 c.c.r, .int .u8 c.c.g, .int .u8 c.c.b, .int .u8 c.c.a, .int .u8 c.b.r, .int .u8 c.b.g, .int .u8 c.b.b, .int .u8 c.b.a, .bool c.wd, .bool c.tl]) 65)).alloc (.cells (#[.int .i32 h.r, .int .u8 h.c.r, .int .u8 h.c.g, .int .u8 h.c.b, .int .u8 h.c.a, .int .u8 h.b.r, .int .u8 h.b.g, .int .u8 h.b.b, .int .u8 h.b.a, .bool h.wd, .bool h.tl]) 65)).alloc (.cells (#[.int .u8 s.k, .int .i64 s.r.x, .int .i64 s.r.y, .int .i64 s.r.w, .int .i64 s.r.h, .int .u8 s.c.r, .int .u8 s.c.g, .int .u8 s.c.b, .int .u8 s.c.a, .int .u8 s.b.r, .int .u8 s.b.g, .int .u8 s.b.b, .int .u8 s.b.a, .string s.t, .int .i64 s.n]) 55)).alloc (.cells #[.int .i32 0, .int .u8 0, .int .u8 0, .int .u8 0, .int .u8 0, .int .u8 0, .int .u8 0, .int .u8 0, .int .u8 0, .bool false, .bool false] 65)).heap.size ((((w.alloc (.cells (#[.int .i32 c.r, .int .u8 c.c.r, .int .u8 c.c.g, .int .u8 c.c.b, .int .u8 c.c.a, .int .u8 c.b.r, .int .u8 c.b.g, .int .u8 c.b.b, .int .u8 c.b.a, .bool c.wd, .bool c.tl]) 65)).alloc (.cells (#[.int .i32 h.r, .int .u8 h.c.r, .int .u8 h.c.g, .int .u8 h.c.b, .int .u8 h.c.a, .int .u8 h.b.r, .int .u8 h.b.g, .int .u8 h.b.b, .int .u8 h.b.a, .bool h.wd, .bool h.tl]) 65)).alloc (.cells (#[.int .u8 s.k, .int .i64 s.r.x, .int .i64 s.r.y, .int .i64 s.r.w, .int .i64 s.r.h, .int .u8 s.c.r, .int .u8 s.c.g, .int .u8 s.c.b, .int .u8 s.c.a, .int .u8 s.b.r, .int .u8 s.b.g, .int .u8 s.b.b, .int .u8 s.b.a, .string s.t, .int .i64 s.n]) 55)).alloc (.cells #[.int .i32 0, .int .u8 0, .int .u8 0, .int .u8 0, .int .u8 0, .int .u8 0, .int .u8 0, .int .u8 0, .int .u8 0, .bool false, .bool false] 65)) W → Bk W b4 (#[.int .i32 h.r, .int .u8 h.c.r, .int .u8 h.c.g, .int .u8 h.c.b, .int .u8 h.c.a, .int .u8 h.b.r, .int .u8 h.b.g, .int .u8 h.b.b, .int .u8 h.b.a, .bool h.wd, .bool h.tl]) 65 ∧ Bk W b5 (#[.int .u8 s.k, .int .i64 s.r.x, .int .i64 s.r.y, .int .i64 s.r.w, .int .i64 s.r.h, .int .u8 s.c.r, .int .u8 s.c.g, .int .u8 s.c.b, .int .u8 s.c.a, .int .u8 s.b.r, .int .u8 s.b.g, .int .u8 s.b.b, .int .u8 s.b.a, .string s.t, .int .i64 s.n]) 55 ∧ Bk W b6 #[.int .i32 0, .int .u8 0, .int .u8 0, .int .u8 0, .int .u8 0, .int .u8 0, .int .u8 0, .int .u8 0, .int .u8 0, .bool false, .bool false] 65 ∧ Below w.heap.size w W) := fun W hW => by
    have k2 := Bk.new (w.alloc (.cells (#[.int .i32 c.r, .int .u8 c.c.r, .int .u8 c.c.g, .int .u8 c.c.b, .int .u8 c.c.a, .int .u8 c.b.r, .int .u8 c.b.g, .int .u8 c.b.b, .int .u8 c.b.a, .bool c.wd, .bool c.tl]) 65)) (#[.int .i32 h.r, .int .u8 h.c.r, .int .u8 h.c.g, .int .u8 h.c.b, .int .u8 h.c.a, .int .u8 h.b.r, .int .u8 h.b.g, .int .u8 h.b.b, .int .u8 h.b.a, .bool h.wd, .bool h.tl]) 65
    have k3 := Bk.new ((w.alloc (.cells (#[.int .i32 c.r, .int .u8 c.c.r, .int .u8 c.c.g, .int .u8 c.c.b, .int .u8 c.c.a, .int .u8 c.b.r, .int .u8 c.b.g, .int .u8 c.b.b, .int .u8 c.b.a, .bool c.wd, .bool c.tl]) 65)).alloc (.cells (#[.int .i32 h.r, .int .u8 h.c.r, .int .u8 h.c.g, .int .u8 h.c.b, .int .u8 h.c.a, .int .u8 h.b.r, .int .u8 h.b.g, .int .u8 h.b.b, .int .u8 h.b.a, .bool h.wd, .bool h.tl]) 65)) (#[.int .u8 s.k, .int .i64 s.r.x, .int .i64 s.r.y, .int .i64 s.r.w, .int .i64 s.r.h, .int .u8 s.c.r, .int .u8 s.c.g, .int .u8 s.c.b, .int .u8 s.c.a, .int .u8 s.b.r, .int .u8 s.b.g, .int .u8 s.b.b, .int .u8 s.b.a, .string s.t, .int .i64 s.n]) 55
    have k4 := Bk.new (((w.alloc (.cells (#[.int .i32 c.r, .int .u8 c.c.r, .int .u8 c.c.g, .int .u8 c.c.b, .int .u8 c.c.a, .int .u8 c.b.r, .int .u8 c.b.g, .int .u8 c.b.b, .int .u8 c.b.a, .bool c.wd, .bool c.tl]) 65)).alloc (.cells (#[.int .i32 h.r, .int .u8 h.c.r, .int .u8 h.c.g, .int .u8 h.c.b, .int .u8 h.c.a, .int .u8 h.b.r, .int .u8 h.b.g, .int .u8 h.b.b, .int .u8 h.b.a, .bool h.wd, .bool h.tl]) 65)).alloc (.cells (#[.int .u8 s.k, .int .i64 s.r.x, .int .i64 s.r.y, .int .i64 s.r.w, .int .i64 s.r.h, .int .u8 s.c.r, .int .u8 s.c.g, .int .u8 s.c.b, .int .u8 s.c.a, .int .u8 s.b.r, .int .u8 s.b.g, .int .u8 s.b.b, .int .u8 s.b.a, .string s.t, .int .i64 s.n]) 55)) #[.int .i32 0, .int .u8 0, .int .u8 0, .int .u8 0, .int .u8 0, .int .u8 0, .int .u8 0, .int .u8 0, .int .u8 0, .bool false, .bool false] 65
    simp only [World.size_alloc] at k2 k3 k4
    have al : ∀ {W : World} {b : Nat} {vs : Array Value} {t : TypeId} (h : Bk W b vs t) (o : Obj), Bk (W.alloc o) b vs t := fun h o => h.below ((Below.refl _ _).alloc (Nat.le_refl _) o)
    have hb : Below w.heap.size w ((((w.alloc (.cells (#[.int .i32 c.r, .int .u8 c.c.r, .int .u8 c.c.g, .int .u8 c.c.b, .int .u8 c.c.a, .int .u8 c.b.r, .int .u8 c.b.g, .int .u8 c.b.b, .int .u8 c.b.a, .bool c.wd, .bool c.tl]) 65)).alloc (.cells (#[.int .i32 h.r, .int .u8 h.c.r, .int .u8 h.c.g, .int .u8 h.c.b, .int .u8 h.c.a, .int .u8 h.b.r, .int .u8 h.b.g, .int .u8 h.b.b, .int .u8 h.b.a, .bool h.wd, .bool h.tl]) 65)).alloc (.cells (#[.int .u8 s.k, .int .i64 s.r.x, .int .i64 s.r.y, .int .i64 s.r.w, .int .i64 s.r.h, .int .u8 s.c.r, .int .u8 s.c.g, .int .u8 s.c.b, .int .u8 s.c.a, .int .u8 s.b.r, .int .u8 s.b.g, .int .u8 s.b.b, .int .u8 s.b.a, .string s.t, .int .i64 s.n]) 55)).alloc (.cells #[.int .i32 0, .int .u8 0, .int .u8 0, .int .u8 0, .int .u8 0, .int .u8 0, .int .u8 0, .int .u8 0, .int .u8 0, .bool false, .bool false] 65)) := ((((Below.refl _ w).alloc (Nat.le_refl _) _).alloc (by simp) _).alloc (by simp; omega) _).alloc (by simp; omega) _
    rw [hb4, hb5, hb6]
    exact ⟨(al (al k2 _) _).below hW, (al k3 _).below hW, k4.below hW, hb.trans (hW.mono hb.size)⟩
  have HN : Hid (b4 ≠ b5 ∧ b4 ≠ b6 ∧ b5 ≠ b6 ∧ w.heap.size ≤ b4 ∧ w.heap.size ≤ b6) := by refine ⟨?_, ?_, ?_, ?_, ?_⟩ <;> omega
  go_enter Tryz.func132, Tryz.ntmps132
  go_wp2_with fail
  rw [← hb6, ← hb5, ← hb4, ← hb3]
  clear hb3 hb4 hb5 hb6
  refine (HO1.out _).mono ?_
  rintro e w1 ⟨rfl, hb⟩
  have HM1 : Hid (Bk w1 b4 (#[.int .i32 h.r, .int .u8 h.c.r, .int .u8 h.c.g, .int .u8 h.c.b, .int .u8 h.c.a, .int .u8 h.b.r, .int .u8 h.b.g, .int .u8 h.b.b, .int .u8 h.b.a, .bool h.wd, .bool h.tl]) 65 ∧ Bk w1 b5 (#[.int .u8 s.k, .int .i64 s.r.x, .int .i64 s.r.y, .int .i64 s.r.w, .int .i64 s.r.h, .int .u8 s.c.r, .int .u8 s.c.g, .int .u8 s.c.b, .int .u8 s.c.a, .int .u8 s.b.r, .int .u8 s.b.g, .int .u8 s.b.b, .int .u8 s.b.a, .string s.t, .int .i64 s.n]) 55 ∧ Bk w1 b6 #[.int .i32 0, .int .u8 0, .int .u8 0, .int .u8 0, .int .u8 0, .int .u8 0, .int .u8 0, .int .u8 0, .int .u8 0, .bool false, .bool false] 65 ∧ Below w.heap.size w w1) := H0.out _ hb
  have M1 := HM1.out
  clear hb H0
  have x0 : w1.cell? ⟨b4, 0, none⟩ = some (.int .i32 h.r) := by rw [M1.1.cell]; rfl
  have x1 : w1.cell? ⟨b4, 1, none⟩ = some (.int .u8 h.c.r) := by rw [M1.1.cell]; rfl
  have x2 : w1.cell? ⟨b4, 2, none⟩ = some (.int .u8 h.c.g) := by rw [M1.1.cell]; rfl
  have x3 : w1.cell? ⟨b4, 3, none⟩ = some (.int .u8 h.c.b) := by rw [M1.1.cell]; rfl
  have x4 : w1.cell? ⟨b4, 4, none⟩ = some (.int .u8 h.c.a) := by rw [M1.1.cell]; rfl
  have x5 : w1.cell? ⟨b4, 5, none⟩ = some (.int .u8 h.b.r) := by rw [M1.1.cell]; rfl
  have x6 : w1.cell? ⟨b4, 6, none⟩ = some (.int .u8 h.b.g) := by rw [M1.1.cell]; rfl
  have x7 : w1.cell? ⟨b4, 7, none⟩ = some (.int .u8 h.b.b) := by rw [M1.1.cell]; rfl
  have x8 : w1.cell? ⟨b4, 8, none⟩ = some (.int .u8 h.b.a) := by rw [M1.1.cell]; rfl
  have x9 : w1.cell? ⟨b4, 9, none⟩ = some (.bool h.wd) := by rw [M1.1.cell]; rfl
  have x10 : w1.cell? ⟨b4, 10, none⟩ = some (.bool h.tl) := by rw [M1.1.cell]; rfl
  have f5 := M1.1.frozen 5
  have f6 := M1.1.frozen 6
  have f7 := M1.1.frozen 7
  have f8 := M1.1.frozen 8
  have y5 : w1.cell? ⟨b5, 5, none⟩ = some (.int .u8 s.c.r) := by rw [M1.2.1.cell]; rfl
  have y6 : w1.cell? ⟨b5, 6, none⟩ = some (.int .u8 s.c.g) := by rw [M1.2.1.cell]; rfl
  have y7 : w1.cell? ⟨b5, 7, none⟩ = some (.int .u8 s.c.b) := by rw [M1.2.1.cell]; rfl
  have y8 : w1.cell? ⟨b5, 8, none⟩ = some (.int .u8 s.c.a) := by rw [M1.2.1.cell]; rfl
  obtain ⟨W1, hW1⟩ : ∃ W1, W1 = ((((w1).setCell ⟨b4, 5, none⟩ (.int .u8 bk.r)).setCell ⟨b4, 6, none⟩ (.int .u8 bk.g)).setCell ⟨b4, 7, none⟩ (.int .u8 bk.b)).setCell ⟨b4, 8, none⟩ (.int .u8 bk.a) := ⟨_, rfl⟩
  have HW1 : Hid (Bk W1 b4 #[.int .i32 h.r, .int .u8 h.c.r, .int .u8 h.c.g, .int .u8 h.c.b, .int .u8 h.c.a, .int .u8 bk.r, .int .u8 bk.g, .int .u8 bk.b, .int .u8 bk.a, .bool h.wd, .bool h.tl] 65 ∧ Bk W1 b5 (#[.int .u8 s.k, .int .i64 s.r.x, .int .i64 s.r.y, .int .i64 s.r.w, .int .i64 s.r.h, .int .u8 s.c.r, .int .u8 s.c.g, .int .u8 s.c.b, .int .u8 s.c.a, .int .u8 s.b.r, .int .u8 s.b.g, .int .u8 s.b.b, .int .u8 s.b.a, .string s.t, .int .i64 s.n]) 55 ∧ Bk W1 b6 #[.int .i32 0, .int .u8 0, .int .u8 0, .int .u8 0, .int .u8 0, .int .u8 0, .int .u8 0, .int .u8 0, .int .u8 0, .bool false, .bool false] 65 ∧ Below w.heap.size w W1) := by
    obtain ⟨n1, n2, n3, n4, n5⟩ := HN.out
    obtain ⟨m1, m2, m3, m4⟩ := HM1.out
    rw [hW1]
    exact ⟨m1.put11b, (((m2.other _ _ n1).other _ _ n1).other _ _ n1).other _ _ n1, (((m3.other _ _ n2).other _ _ n2).other _ _ n2).other _ _ n2, below11b m4 n4⟩
  have hn45 : b4 ≠ b5 := HN.out.1
  clear M1
  go_wp2_with fail
  rw [← hW1]
  clear hW1 x0 x1 x2 x3 x4 x5 x6 x7 x8 x9 x10 f5 f6 f7 f8 y5 y6 y7 y8 HM1
  refine (HO2.out _).mono ?_
  rintro e w2 ⟨rfl, hb⟩
  have HM2 : Hid (Bk w2 b4 #[.int .i32 h.r, .int .u8 h.c.r, .int .u8 h.c.g, .int .u8 h.c.b, .int .u8 h.c.a, .int .u8 bk.r, .int .u8 bk.g, .int .u8 bk.b, .int .u8 bk.a, .bool h.wd, .bool h.tl] 65 ∧ Bk w2 b6 #[.int .i32 0, .int .u8 0, .int .u8 0, .int .u8 0, .int .u8 0, .int .u8 0, .int .u8 0, .int .u8 0, .int .u8 0, .bool false, .bool false] 65 ∧ Below w.heap.size w w2) := by
    obtain ⟨m1, m2, m3, m4⟩ := HW1.out
    exact ⟨m1.below hb, m3.below hb, m4.trans (hb.mono m4.size)⟩
  have M2 := HM2.out
  clear hb HW1
  have x0 : w2.cell? ⟨b4, 0, none⟩ = some (.int .i32 h.r) := by rw [M2.1.cell]; rfl
  have x1 : w2.cell? ⟨b4, 1, none⟩ = some (.int .u8 h.c.r) := by rw [M2.1.cell]; rfl
  have x2 : w2.cell? ⟨b4, 2, none⟩ = some (.int .u8 h.c.g) := by rw [M2.1.cell]; rfl
  have x3 : w2.cell? ⟨b4, 3, none⟩ = some (.int .u8 h.c.b) := by rw [M2.1.cell]; rfl
  have x4 : w2.cell? ⟨b4, 4, none⟩ = some (.int .u8 h.c.a) := by rw [M2.1.cell]; rfl
  have x5 : w2.cell? ⟨b4, 5, none⟩ = some (.int .u8 bk.r) := by rw [M2.1.cell]; rfl
  have x6 : w2.cell? ⟨b4, 6, none⟩ = some (.int .u8 bk.g) := by rw [M2.1.cell]; rfl
  have x7 : w2.cell? ⟨b4, 7, none⟩ = some (.int .u8 bk.b) := by rw [M2.1.cell]; rfl
  have x8 : w2.cell? ⟨b4, 8, none⟩ = some (.int .u8 bk.a) := by rw [M2.1.cell]; rfl
  have x9 : w2.cell? ⟨b4, 9, none⟩ = some (.bool h.wd) := by rw [M2.1.cell]; rfl
  have x10 : w2.cell? ⟨b4, 10, none⟩ = some (.bool h.tl) := by rw [M2.1.cell]; rfl
  have f1 := M2.1.frozen 1
  have f2 := M2.1.frozen 2
  have f3 := M2.1.frozen 3
  have f4 := M2.1.frozen 4
  have z0 : w2.cell? ⟨b6, 0, none⟩ = some (.int .i32 0) := by rw [M2.2.1.cell]; rfl
  have z1 : w2.cell? ⟨b6, 1, none⟩ = some (.int .u8 0) := by rw [M2.2.1.cell]; rfl
  have z2 : w2.cell? ⟨b6, 2, none⟩ = some (.int .u8 0) := by rw [M2.2.1.cell]; rfl
  have z3 : w2.cell? ⟨b6, 3, none⟩ = some (.int .u8 0) := by rw [M2.2.1.cell]; rfl
  have z4 : w2.cell? ⟨b6, 4, none⟩ = some (.int .u8 0) := by rw [M2.2.1.cell]; rfl
  have z5 : w2.cell? ⟨b6, 5, none⟩ = some (.int .u8 0) := by rw [M2.2.1.cell]; rfl
  have z6 : w2.cell? ⟨b6, 6, none⟩ = some (.int .u8 0) := by rw [M2.2.1.cell]; rfl
  have z7 : w2.cell? ⟨b6, 7, none⟩ = some (.int .u8 0) := by rw [M2.2.1.cell]; rfl
  have z8 : w2.cell? ⟨b6, 8, none⟩ = some (.int .u8 0) := by rw [M2.2.1.cell]; rfl
  have z9 : w2.cell? ⟨b6, 9, none⟩ = some (.bool false) := by rw [M2.2.1.cell]; rfl
  have z10 : w2.cell? ⟨b6, 10, none⟩ = some (.bool false) := by rw [M2.2.1.cell]; rfl
  have e0 := M2.2.1.frozen 0
  have e1 := M2.2.1.frozen 1
  have e2 := M2.2.1.frozen 2
  have e3 := M2.2.1.frozen 3
  have e4 := M2.2.1.frozen 4
  have e5 := M2.2.1.frozen 5
  have e6 := M2.2.1.frozen 6
  have e7 := M2.2.1.frozen 7
  have e8 := M2.2.1.frozen 8
  have e9 := M2.2.1.frozen 9
  have e10 := M2.2.1.frozen 10
  obtain ⟨W3, hW3⟩ : ∃ W3, W3 = ((((((((((((((((w2).setCell ⟨b4, 1, none⟩ (.int .u8 fo.r)).setCell ⟨b4, 2, none⟩ (.int .u8 fo.g)).setCell ⟨b4, 3, none⟩ (.int .u8 fo.b)).setCell ⟨b4, 4, none⟩ (.int .u8 fo.a))).setCell ⟨b6, 0, none⟩ (.int .i32 h.r)).setCell ⟨b6, 1, none⟩ (.int .u8 fo.r)).setCell ⟨b6, 2, none⟩ (.int .u8 fo.g)).setCell ⟨b6, 3, none⟩ (.int .u8 fo.b)).setCell ⟨b6, 4, none⟩ (.int .u8 fo.a)).setCell ⟨b6, 5, none⟩ (.int .u8 bk.r)).setCell ⟨b6, 6, none⟩ (.int .u8 bk.g)).setCell ⟨b6, 7, none⟩ (.int .u8 bk.b)).setCell ⟨b6, 8, none⟩ (.int .u8 bk.a)).setCell ⟨b6, 9, none⟩ (.bool h.wd)).setCell ⟨b6, 10, none⟩ (.bool h.tl) := ⟨_, rfl⟩
  have HW3 : Hid (Bk W3 b6 #[.int .i32 h.r, .int .u8 fo.r, .int .u8 fo.g, .int .u8 fo.b, .int .u8 fo.a, .int .u8 bk.r, .int .u8 bk.g, .int .u8 bk.b, .int .u8 bk.a, .bool h.wd, .bool h.tl] 65 ∧ Below w.heap.size w W3) := by
    obtain ⟨n1, n2, n3, n4, n5⟩ := HN.out
    obtain ⟨m1, m2, m3⟩ := HM2.out
    rw [hW3]
    exact ⟨((((m2.other _ _ n2).other _ _ n2).other _ _ n2).other _ _ n2).put11, below11 (below11c m3 n4) n5⟩
  have hn46 : b4 ≠ b6 := HN.out.2.1
  clear M2 HM2 hn45
  go_wp2
  rw [← hW3]
  clear hW3 x0 z0 e0 x1 z1 e1 x2 z2 e2 x3 z3 e3 x4 z4 e4 x5 z5 e5 x6 z6 e6 x7 z7 e7 x8 z8 e8 x9 z9 e9 x10 z10 e10 f1 f2 f3 f4
  have x0 : W3.cell? ⟨b6, 0, none⟩ = some (.int .i32 h.r) := by rw [HW3.out.1.cell]; rfl
  have x1 : W3.cell? ⟨b6, 1, none⟩ = some (.int .u8 fo.r) := by rw [HW3.out.1.cell]; rfl
  have x2 : W3.cell? ⟨b6, 2, none⟩ = some (.int .u8 fo.g) := by rw [HW3.out.1.cell]; rfl
  have x3 : W3.cell? ⟨b6, 3, none⟩ = some (.int .u8 fo.b) := by rw [HW3.out.1.cell]; rfl
  have x4 : W3.cell? ⟨b6, 4, none⟩ = some (.int .u8 fo.a) := by rw [HW3.out.1.cell]; rfl
  have x5 : W3.cell? ⟨b6, 5, none⟩ = some (.int .u8 bk.r) := by rw [HW3.out.1.cell]; rfl
  have x6 : W3.cell? ⟨b6, 6, none⟩ = some (.int .u8 bk.g) := by rw [HW3.out.1.cell]; rfl
  have x7 : W3.cell? ⟨b6, 7, none⟩ = some (.int .u8 bk.b) := by rw [HW3.out.1.cell]; rfl
  have x8 : W3.cell? ⟨b6, 8, none⟩ = some (.int .u8 bk.a) := by rw [HW3.out.1.cell]; rfl
  have x9 : W3.cell? ⟨b6, 9, none⟩ = some (.bool h.wd) := by rw [HW3.out.1.cell]; rfl
  have x10 : W3.cell? ⟨b6, 10, none⟩ = some (.bool h.tl) := by rw [HW3.out.1.cell]; rfl
  exact bodyPost_ret (v := .agg #[.int .i32 h.r, .int .u8 fo.r, .int .u8 fo.g, .int .u8 fo.b, .int .u8 fo.a, .int .u8 bk.r, .int .u8 bk.g, .int .u8 bk.b, .int .u8 bk.a, .bool h.wd, .bool h.tl]) (by simp [results, Tryz.results132, go_sem, *]) rfl ⟨rfl, HW3.out.2⟩

end Go.Proofs.YtapachlhdgehjaaGreatDoor

/-
  A range over an iterator that keeps a variable of its own in a block that lay there ahead of the loop: the caller's law, and what the iterator owes.
-/
namespace Go.Proofs.YtapachlhdgehjaaGreatDoor
open Go.RowKit

variable {F : Fence} {n : Nat} {P : Program}

def SeqD {α : Type} (F : Fence) (n : Nat) (P : Program) (g : Nat) (lb : Array Value) (encs : α → Array Value) (Kp : World → World → Prop) (S Sp : List α → Prop) (ok : List α → α → Prop) (ob : Nat) (w : World) : Prop :=
  ∀ (l : Nat) (J Jx : List α → World → Prop) (W : World), Below w.heap.size w W → W.heap.size = w.heap.size + 2 → AbidesFrom W.heap.size J → AbidesFrom W.heap.size Jx → Stores ob J → Stores ob Jx →
    (∀ pre x W1, J pre W1 → ok pre x → YieldAt F (n - 1) P l (encs x) W1 fun e W' =>
      (e = .returned (.bool true) ∧ J (pre ++ [x]) W' ∧ Kp W1 W') ∨ (e = .returned (.bool false) ∧ Jx (pre ++ [x]) W')) →
    J [] W →
    CallsIn F n P g (#[.func (.yield l) #[] #[]] ++ lb) W fun e W' => (∃ v, e = .returned v) ∧ ((∃ xs, S xs ∧ J xs W') ∨ (∃ pre, Sp pre ∧ Jx pre W'))

set_option maxHeartbeats 1000000 in
theorem range_d {α : Type} {g : Operand} {ps : Array Tmp} {assign body : Code} {Q : Exit → Act → World → Prop} {a : Act} {w : World}
    (hro : F.round = none) (h1 : 1 ≤ n) {gf : Nat} {lb : Array Value} (hg : a.eval g = .func (.func gf) #[] lb) (hFg : F.fn gf) (eg : ∀ args w, (callFunc gf args).run P w = .ok (.enter gf args) w)
    {encs : α → Array Value} {Kp : World → World → Prop} {S Sp : List α → Prop} {ok : List α → α → Prop} {ob : Nat} (hob1 : ob ≠ w.heap.size) (hob2 : ob ≠ w.heap.size + 1) (hseq : SeqD F (n - 1) P gf lb encs Kp S Sp ok ob w)
    (hKt : ∀ {A B C : World}, Kp A B → Kp B C → Kp A C) (hKb : ∀ (W : World) (l : Nat) (o o' : Obj), w.heap.size ≤ l → W.heap[l]? = some o → o.isCells = false → o.isWalk = false → Kp W (W.putObj l o'))
    (hps : ∀ x, (encs x).size = ps.size)
    (I : List α → World → Prop) (Ix : Code → List α → World → Prop) (hI : OwnFrom w.heap.size I) (hIx : ∀ c, OwnFrom w.heap.size (Ix c)) (hS : Stores ob I) (hSx : ∀ c, Stores ob (Ix c))
    (h0 : I [] w) (Ax : α → Act → World → Prop) (hAx : ∀ x a', OwnFrom w.heap.size (fun (_ : Unit) W => Ax x a' W))
    (hassign : ∀ (l : Nat) (pre : List α) (x : α) (W : World) (K : Act → World → Prop), I pre W → w.heap.size + 1 < W.heap.size → (∀ a' W', KeepsFrom w.heap.size W W' → Kp W W' → I pre W' → Ax x a' W' → K a' W') →
      assign.wpIn (F.inRound l) (n - 1 - 1) P (Exit.then K (fun _ _ _ => False)) { tmps := (ps.zip (encs x)).foldl (fun t (p, v) => t.setIfInBounds p v) a.tmps, defers := [] } W)
    (hbody : ∀ (l : Nat) (pre : List α) (x : α) (a' : Act) (W : World), I pre W → Ax x a' W → ok pre x → w.heap.size + 1 < W.heap.size → body.wpIn (F.inRound l) (n - 1 - 1) P (ownPostG w.heap.size Kp I Ix (pre ++ [x]) W) a' W)
    (hdone : ∀ (D : Nat) (xs : List α) (W : World), w.heap.size ≤ D → S xs → I xs W → W.heap[D]? = some (.deferred (some [])) → Q .normal { a with defers := { target := .collected D, args := #[] } :: a.defers } W)
    (hstop : ∀ (D : Nat) (c : Code) (pre : List α) (W : World), w.heap.size ≤ D → Sp pre → Ix c pre W → W.heap[D]? = some (.deferred (some [])) → c.wpIn F n P Q { a with defers := { target := .collected D, args := #[] } :: a.defers } W) :
    (Code.rangeFunc g ps assign body).wpIn F n P Q a w := by
  refine wpIn_rangeFunc fun fn hfn => ?_
  rw [hro]
  obtain ⟨R, hR⟩ : ∃ R : LoopState → Option Code → Loop, R = fun st pe => { state := st, pending := pe, fn, tmps := a.tmps, params := ps, assign, body, defers := w.heap.size } := ⟨_, rfl⟩
  obtain ⟨V, hV⟩ : ∃ V, (w.alloc (.deferred (some []))).alloc (.loop (R .ready none)) = V := ⟨_, rfl⟩
  have sV : V.heap.size = w.heap.size + 2 := by rw [← hV]; simp
  have rV : V.heap[w.heap.size + 1]? = some (.loop (R .ready none)) := by
    have := World.alloc_heap_new (w.alloc (.deferred (some []))) (.loop (R .ready none))
    rwa [World.size_alloc, hV] at this
  have dV : V.heap[w.heap.size]? = some (.deferred (some [])) := by
    rw [← hV]; exact (Below.heap_alloc _ _ _ (by simp)).trans (World.alloc_heap_new w _)
  have iV : I [] V := by rw [← hV]; exact hI.alloc _ (hI.alloc _ h0)
  have bV : Below w.heap.size w V := by
    rw [← hV]; exact ((Below.refl _ w).alloc (Nat.le_refl _) _).alloc (by simp) _
  refine ⟨w.heap.size + 1, [{ target := .collected w.heap.size, args := #[] }], V, { target := .fn (.func gf) lb, args := #[.func (.yield (w.heap.size + 1)) #[] #[]] }, V, gf,
    #[.func (.yield (w.heap.size + 1)) #[] #[]] ++ lb, V, ?_, ?_, ?_, ?_, fun _ => h1, ?_⟩
  · rw [← hV, hR]; exact run_enterLoop_outer _ _ _ _ _
  · simp only [resolve, hg]
    simp [go_sem]
  · intro f' hf'; simp [Target.leads] at hf'; subst hf'; exact hFg
  · simp [invoke, go_sem, eg]
  have up : ∀ {A : World} {row : Option Nat}, (∀ r, row = some r → V.heap.size ≤ r ∧ ∃ o : Obj, A.heap[r]? = some o ∧ o.isWalk = true) → (∀ r, row = some r → w.heap.size ≤ r ∧ ∃ o : Obj, A.heap[r]? = some o ∧ o.isCells = false) :=
    fun hr r e => by
      obtain ⟨hB, o, ho, hw⟩ := hr r e
      exact ⟨by omega, o, ho, Obj.not_cells_of_walk hw⟩
  have setJ : ∀ {K : World → Prop} {st : LoopState} {pe : Option Code}, (∀ W o v, K W → K (W.setCell ⟨ob, o, none⟩ v)) → ∀ (W : World) (o : Nat) (v : Value),
      (K W ∧ W.heap[w.heap.size + 1]? = some (.loop (R st pe)) ∧ W.heap[w.heap.size]? = some (.deferred (some []))) →
      (K (W.setCell ⟨ob, o, none⟩ v) ∧ (W.setCell ⟨ob, o, none⟩ v).heap[w.heap.size + 1]? = some (.loop (R st pe)) ∧ (W.setCell ⟨ob, o, none⟩ v).heap[w.heap.size]? = some (.deferred (some []))) :=
    fun hK W o v ⟨k, l, d⟩ => ⟨hK W o v k, same_set l hob2, same_set d hob1⟩
  refine (hseq (w.heap.size + 1)
    (fun pre W => I pre W ∧ W.heap[w.heap.size + 1]? = some (.loop (R .ready none)) ∧ W.heap[w.heap.size]? = some (.deferred (some [])))
    (fun pre W => ∃ c, Ix c pre W ∧ W.heap[w.heap.size + 1]? = some (.loop (R .done (some c))) ∧ W.heap[w.heap.size]? = some (.deferred (some [])))
    V bV sV ?abJ ?abX ?stJ ?stX ?yields ⟨iV, rV, dV⟩).mono ?behind
  case abJ =>
    intro s A B row hs gr hr
    exact ⟨hI s A B row hs.1 gr (up hr), (grownBy_keeps gr (fun r e => (hr r e).2) hs.2.1 rfl).trans hs.2.1, (grownBy_keeps gr (fun r e => (hr r e).2) hs.2.2 rfl).trans hs.2.2⟩
  case abX =>
    intro s A B row hs gr hr
    obtain ⟨c, hc, hl, hk⟩ := hs
    exact ⟨c, hIx c s A B row hc gr (up hr), (grownBy_keeps gr (fun r e => (hr r e).2) hl rfl).trans hl, (grownBy_keeps gr (fun r e => (hr r e).2) hk rfl).trans hk⟩
  case stJ =>
    intro s W o v hs
    exact setJ (fun W o v => hS s W o v) W o v hs
  case stX =>
    intro s W o v hs
    obtain ⟨c, hs⟩ := hs
    exact ⟨c, setJ (fun W o v => hSx c s W o v) W o v hs⟩
  case yields =>
    rintro pre x W ⟨hi, hl, hk⟩ hlen
    have hsz : w.heap.size + 1 < W.heap.size := (Array.getElem?_eq_some_iff.1 hl).1
    have hy := run_yield (P := P) (args := encs x) hl (by rw [hR]; exact hps x)
    rw [hR] at hy
    refine ⟨fn, _, assign, body, hy, roundIn_of_wpIn hfn (hassign _ pre x W _ hi hsz ?_)⟩
    clear hy
    intro a' U hkf hkp hi' hax
    replace hl := hkf.same _ _ (by omega) hl rfl
    replace hk := hkf.same _ _ (Nat.le_refl _) hk rfl
    have hlt : w.heap.size + 1 < U.heap.size := (Array.getElem?_eq_some_iff.1 hl).1
    have szU : w.heap.size + 1 < U.heap.size := Nat.lt_of_lt_of_le hsz hkf.size
    refine ⟨_, run_beginRound hl (by rw [hR]), ?_⟩
    obtain ⟨X, hX⟩ : ∃ X, U.putObj (w.heap.size + 1) (.loop { R .ready none with state := .busy }) = X := ⟨_, rfl⟩
    have lX : X.heap[w.heap.size + 1]? = some (.loop { R .ready none with state := .busy }) := by rw [← hX]; exact World.putObj_heap_same hlt
    have kX : X.heap[w.heap.size]? = some (.deferred (some [])) := by rw [← hX]; exact (World.putObj_heap_other (by omega)).trans hk
    have pX : Kp U X := by rw [← hX]; exact hKb _ _ _ _ (by omega) hl rfl rfl
    have iX : I pre X := by rw [← hX]; exact hI.putObj _ hi' (by omega) hl rfl
    have aX : Ax x a' X := by rw [← hX]; exact (hAx x a').putObj (s := ()) _ hax (by omega) hl rfl
    have szX : w.heap.size + 1 < X.heap.size := by rw [← hX]; simpa [World.putObj] using szU
    rw [hX]
    refine wpIn_mono (hbody _ pre x a' X iX aX hlen szX) ?_
    have fin : ∀ (jump : Option Code) (Y : World), KeepsFrom w.heap.size X Y →
        (Instr.endRound (w.heap.size + 1) jump).run P Y = .ok (.bool jump.isNone) (Y.putObj (w.heap.size + 1) (.loop (R (if jump.isNone then .ready else .done) jump))) ∧
        Y.heap[w.heap.size + 1]? = some (.loop { R .ready none with state := .busy }) ∧
        (Y.putObj (w.heap.size + 1) (.loop (R (if jump.isNone then .ready else .done) jump))).heap[w.heap.size + 1]? = some (.loop (R (if jump.isNone then .ready else .done) jump)) ∧
        (Y.putObj (w.heap.size + 1) (.loop (R (if jump.isNone then .ready else .done) jump))).heap[w.heap.size]? = some (.deferred (some [])) := fun jump Y hkY => by
      have lY := hkY.same _ _ (by omega) lX rfl
      have := run_endRound (P := P) jump lY
      rw [hR] at this ⊢
      exact ⟨this, by rw [hR] at lY; exact lY, World.putObj_heap_same (Array.getElem?_eq_some_iff.1 lY).1, (World.putObj_heap_other (by omega)).trans (hkY.same _ _ (Nat.le_refl _) kX rfl)⟩
    rintro e a3 Y hp
    cases e with
    | normal =>
      obtain ⟨hkY, hpY, hiY⟩ := hp
      obtain ⟨hr, hl3, hl4, hk4⟩ := fin none Y hkY
      exact ⟨_, _, hr, .inl ⟨rfl, ⟨hI.putObj _ hiY (by omega) hl3 rfl, hl4, hk4⟩, hKt hkp (hKt (hKt pX hpY) (hKb _ _ _ _ (by omega) hl3 rfl rfl))⟩⟩
    | ret =>
      obtain ⟨hkY, hiY⟩ := hp
      obtain ⟨hr, hl3, hl4, hk4⟩ := fin (some .ret) Y hkY
      exact ⟨_, _, hr, .inr ⟨rfl, .ret, (hIx _).putObj _ hiY (by omega) hl3 rfl, hl4, hk4⟩⟩
    | exit id =>
      obtain ⟨hkY, hiY⟩ := hp
      obtain ⟨hr, hl3, hl4, hk4⟩ := fin (some (.exit id)) Y hkY
      exact ⟨_, _, hr, .inr ⟨rfl, .exit id, (hIx _).putObj _ hiY (by omega) hl3 rfl, hl4, hk4⟩⟩
    | goto t =>
      obtain ⟨hkY, hiY⟩ := hp
      obtain ⟨hr, hl3, hl4, hk4⟩ := fin (some (.goto t)) Y hkY
      exact ⟨_, _, hr, .inr ⟨rfl, .goto t, (hIx _).putObj _ hiY (by omega) hl3 rfl, hl4, hk4⟩⟩
    | panic ch => exact hp.elim
    | outgrown => exact hp.elim
  case behind =>
    rintro e Y ⟨⟨v, rfl⟩, (⟨xs, hxs, hi, hl, hk⟩ | ⟨pre, hpre, c, hi, hl, hk⟩)⟩
    · exact ⟨none, _, by have := run_endLoop (P := P) hl (by rw [hR]; simp); rw [hR] at this; exact this, hdone _ xs _ (Nat.le_refl _) hxs (hI.putObj _ hi (by omega) hl rfl) ((World.putObj_heap_other (by omega)).trans hk)⟩
    · exact ⟨some c, _, by have := run_endLoop (P := P) hl (by rw [hR]; simp); rw [hR] at this; exact this, hstop _ c pre _ (Nat.le_refl _) hpre ((hIx c).putObj _ hi (by omega) hl rfl) ((World.putObj_heap_other (by omega)).trans hk)⟩

end Go.Proofs.YtapachlhdgehjaaGreatDoor

/-
  Helpers for functions that range over an iterator.
-/
namespace Go.Proofs.YtapachlhdgehjaaGreatDoor
open Go.RowKit

end Go.Proofs.YtapachlhdgehjaaGreatDoor

/-
  slices.Backward over strokes: what it hands on.
-/
namespace Go.Proofs.YtapachlhdgehjaaGreatDoor
open Go.RowKit Go.Shelf
attribute [local go_sem] Oper.semAt_some

def KpB (sb g : Nat) (A B : World) : Prop := B.heap[sb]? = A.heap[sb]? ∧ B.heap[g]? = A.heap[g]?
theorem KpB.trans {sb g : Nat} {A B C : World} (h : KpB sb g A B) (k : KpB sb g B C) : KpB sb g A C := ⟨k.1.trans h.1, k.2.trans h.2⟩
theorem KpB.refl (sb g : Nat) (A : World) : KpB sb g A A := ⟨rfl, rfl⟩
theorem KpB.put {sb g l : Nat} {W : World} {o : Obj} (h1 : sb ≠ l) (h2 : g ≠ l) : KpB sb g W (W.putObj l o) := ⟨World.putObj_heap_other h1, World.putObj_heap_other h2⟩

end Go.Proofs.YtapachlhdgehjaaGreatDoor

/-
  The same inside of a fence: a region that draws its order, by what holds between its operations.
-/
namespace Go.Proofs.YtapachlhdgehjaaGreatDoor
open Go.RowKit

section
variable {F : Fence} {n : Nat} {P : Program} {ops : Array Oper} {Q : Exit → Act → World → Prop}

theorem wpAnyIn_inv (I : (Nat → Bool) → Act → World → Prop) (acy : acyB ops = true)
    (step : ∀ b a w i o, I b a w → b i = false → ops[i]? = some o → (∀ p ∈ preds ops i, b p = true) → ∀ K' : Act → World → Prop, (∀ a' w', I (fun j => if j = i then true else b j) a' w' → K' a' w') → if Region.wanted o (yielded ops a.tmps) = true then Oper.wpIn F n P o a w K' Q else (∀ f, o.about P w a.eval = some f → F.fn f) ∧ K' (a.put o.dst undef) w)
    (fin : ∀ b a w, I b a w → (∀ i, i < ops.size → b i = true) → Q .normal a w) :
    ∀ (fuel : Nat) (l : Array Bool) (a : Act) (w : World), l.size = ops.size → I (fun j => l.getD j false) a w → left ops.size l ≤ fuel → wpAnyIn F n P .any ops Q fuel l a w := by
  have hac : ∀ i, i < ops.size → ∀ p ∈ preds ops i, p < i := by
    unfold acyB at acy
    simp only [Bool.and_eq_true, List.all_eq_true, List.mem_range, decide_eq_true_eq] at acy
    exact acy.1
  have hready : ∀ (l : Array Bool) (i : Nat), i ∈ Region.ready .any ops l → l.size = ops.size → i < ops.size ∧ l.getD i false = false ∧ ∃ o, ops[i]? = some o ∧ ∀ p ∈ preds ops i, l.getD p false = true := by
    intro l i hi hs
    obtain ⟨h1, o, ho, h2⟩ := mem_ready.1 hi
    have hlt : i < ops.size := (Array.getElem?_eq_some_iff.1 ho).1
    refine ⟨hlt, ?_, o, ho, fun p hp => ?_⟩
    · have : i < l.size := by rw [hs]; exact hlt
      simp [Array.getD_eq_getD_getElem?, this] at h1 ⊢
      exact h1
    · unfold preds at hp
      rw [ho] at hp
      simp only [List.mem_map, List.mem_filter] at hp
      obtain ⟨e, ⟨he, hb⟩, rfl⟩ := hp
      exact h2 e (by simpa using he) hb
  have hempty : ∀ (l : Array Bool), l.size = ops.size → Region.ready .any ops l = [] → ∀ i, i < ops.size → l.getD i false = true := by
    intro l hs he i
    induction i using Nat.strongRecOn with
    | ind i ih =>
      intro hi
      cases hv : l.getD i false with
      | true => rfl
      | false =>
        exfalso
        refine absurd (mem_ready (md := .any).2 ⟨?_, ?_⟩ : i ∈ Region.ready .any ops l) (by rw [he]; simp)
        · have : i < l.size := by rw [hs]; exact hi
          simp [Array.getD_eq_getD_getElem?, this] at hv ⊢
          exact hv
        · refine ⟨ops[i]'hi, by simp, fun e hem hb => ?_⟩
          have hp : e.on ∈ preds ops i := by
            unfold preds
            rw [show ops[i]? = some (ops[i]'hi) by simp]
            simp only [List.mem_map, List.mem_filter]
            exact ⟨e, ⟨by simpa using hem, hb⟩, rfl⟩
          have hlt := hac i hi _ hp
          exact ih e.on hlt (by omega)
  intro fuel
  induction fuel with
  | zero =>
    intro l a w hs hI hl
    have hall := left_zero (n := ops.size) (l := l) (by omega)
    refine ⟨?_, fin _ a w hI hall⟩
    cases hr : Region.ready .any ops l with
    | nil => rfl
    | cons i rs =>
      have hm : i ∈ Region.ready .any ops l := by rw [hr]; simp
      obtain ⟨h1, h2, _⟩ := hready l i hm hs
      rw [hall i h1] at h2
      cases h2
  | succ fuel ih =>
    intro l a w hs hI hl
    refine ⟨fun he => fin _ a w hI (hempty l hs he), fun i hi => ?_⟩
    obtain ⟨h1, h2, o, ho, h3⟩ := hready l i hi hs
    refine wpOpIn_step ho fun K2 hK2 => step _ a w i o hI h2 ho h3 _ fun a' w' hI' => hK2 _ _ ?_
    have hil : i < l.size := by rw [hs]; exact h1
    refine ih _ a' w' (by simp [hs]) ?_ ?_
    · have e : (fun j => (l.setIfInBounds i true).getD j false) = fun j => if j = i then true else l.getD j false := by
        funext j
        rw [getD_set l i j hil]
        by_cases c : i = j
        · rw [if_pos c, if_pos c.symm]
        · rw [if_neg c, if_neg (fun e => c e.symm)]
      rw [e]
      exact hI'
    · have := left_set ops.size l i h1 hil h2
      omega
theorem wpIn_region_inv {id : Nat} {a0 : Act} {W : World} {l : List Oper} (I : (Nat → Bool) → Act → World → Prop) (hm : P.follows .mixedOrders = true) (acy : acyB l.toArray = true) (h0 : I (fun _ => false) a0 W.drew)
    (step : ∀ b a w i o, I b a w → b i = false → l.toArray[i]? = some o → (∀ p ∈ preds l.toArray i, b p = true) → ∀ K' : Act → World → Prop, (∀ a' w', I (fun j => if j = i then true else b j) a' w' → K' a' w') → if Region.wanted o (yielded l.toArray a.tmps) = true then Oper.wpIn F n P o a w K' Q else (∀ f, o.about P w a.eval = some f → F.fn f) ∧ K' (a.put o.dst undef) w)
    (fin : ∀ b a w, I b a w → (∀ i, i < l.toArray.size → b i = true) → Q .normal a w) :
    (Code.region id l.toArray true).wpIn F n P Q a0 W := by
  refine wpIn_region_any hm ?_
  refine wpAnyIn_inv I acy step fin _ _ a0 _ (by simp) ?_ ?_
  · have e : (fun j => (Array.replicate l.toArray.size false).getD j false) = fun _ => false := by
      funext k
      simp [Array.getD_eq_getD_getElem?, Array.getElem?_replicate]
      split <;> rfl
    rw [e]
    exact h0
  · unfold left
    exact Nat.le_trans (List.length_filter_le _ _) (by simp)
end

end Go.Proofs.YtapachlhdgehjaaGreatDoor
