/-
  awake of stage 15 answers true.
-/
import Derived.Test.YtapachlhdgehjaaGreatDoorK56
import Derived.Test.YtapachlhdgehjaaGreatDoorK57
import Derived.Test.YtapachlhdgehjaaGreatDoorK45
import Derived.Test.YtapachlhdgehjaaGreatDoorK9
import Derived.Deep.RegionWith
import Derived.Deep.DeepCutAuto
import Derived.Deep.CutRange
import Derived.Deep.RegionHeld
namespace Go.Proofs.YtapachlhdgehjaaGreatDoor
open Go.RowKit

set_option maxHeartbeats 1000000 in
theorem awRect (x y n m : Int) (w : World) : Calls Tryz.prog 21 #[.int .i64 x, .int .i64 y, .int .i64 n, .int .i64 m] w fun e w' => e = .returned (.agg #[.int .i64 x, .int .i64 y, .int .i64 n, .int .i64 m]) ∧ Below w.heap.size w w' := by
  go_enter Tryz.func21, Tryz.ntmps21
  obtain ⟨c0, c1, c2, c3⟩ := (Bk.new w #[.int .i64 x, .int .i64 y, .int .i64 n, .int .i64 m] 52).at4
  go_wp2
  exact bodyPost_ret (v := .agg #[.int .i64 x, .int .i64 y, .int .i64 n, .int .i64 m]) (by simp [results, Tryz.results21, go_sem, c0, c1, c2, c3]) rfl ⟨rfl, (Below.refl _ w).alloc (Nat.le_refl _) _⟩
theorem lsc_far3 {x : World} {qb : Nat} {T : TypeId} (z : Bk x qb #[.int .i64 0, .int .i64 0, .slice none 0 0] T) {v : Value} {L : List Ce} (a b c : Value) (h : LsC x v L) : LsC (((x.setCell ⟨qb, 0, none⟩ a).setCell ⟨qb, 1, none⟩ b).setCell ⟨qb, 2, none⟩ c) v L := by
  obtain ⟨oa, cap, e, hc, hg⟩ := h
  refine ⟨oa, cap, e, hc, fun hp => ?_⟩
  obtain ⟨g, o, e1, g1, g2⟩ := hg hp
  have hne : g ≠ qb := by
    intro e2
    subst e2
    have h0 := (g2 0 hp).1
    rw [z.cell] at h0
    rcases (show o + 0 * 11 = 0 ∨ o + 0 * 11 = 1 ∨ o + 0 * 11 = 2 ∨ 3 ≤ o + 0 * 11 by omega) with h | h | h | h
    · rw [h] at h0; simp at h0
    · rw [h] at h0; simp at h0
    · rw [h] at h0; simp at h0
    · rw [Array.getElem?_eq_none (by simpa using h)] at h0; cases h0
  refine ⟨g, o, e1, by simpa using g1, fun i hi => (g2 i hi).kept fun j => ?_⟩
  rw [World.cell?_setCell_far _ _ _ _ (fun e => hne e.symm), World.cell?_setCell_far _ _ _ _ (fun e => hne e.symm), World.cell?_setCell_far _ _ _ _ (fun e => hne e.symm)]

def B8 : List Ce := drwS 4 S8 (flaL [st2])
theorem aw_c3 {x : World} {gc cc : Nat} (h : LsC x (.slice (some ⟨gc, 0, none⟩) 8 cc) B8) : x.cell? ⟨gc, 42, none⟩ = some (.bool true) ∧ x.cell? ⟨gc, 33, none⟩ = some (.int .i32 19968) := by
  obtain ⟨oa, cap, e, hc, hg⟩ := h
  have hl : B8.length = 8 := b8_eq.1
  obtain ⟨g, o, e1, g1, g2⟩ := hg (by omega)
  injection e with e2 e3 e4
  rw [e1] at e2
  cases e2
  have h3 := g2 3 (by omega)
  have hq : B8[3]'(by omega) = B8.getD 3 ceZ := by rw [List.getD_eq_getElem?_getD, List.getElem?_eq_getElem (by omega)]; rfl
  rw [hq] at h3
  obtain ⟨k0, _, _, _, _, _, _, _, _, k9, _⟩ := h3
  rw [show (B8.getD 3 ceZ).r = 19968 from b8_eq.2.2] at k0
  rw [show (B8.getD 3 ceZ).wd = true from b8_eq.2.1] at k9
  exact ⟨k9, k0⟩
theorem aw_l1 {x : World} {gu ou cu : Nat} (h : AwU x gu ou cu) : x.cell? ⟨gu, ou + 3, none⟩ = some (.int .i64 1) ∧ x.cell? ⟨gu, ou + 3 + 1, none⟩ = some (.int .i64 1) := by
  obtain ⟨v1, v2, _, oa, cap, e, hg⟩ := h
  obtain ⟨g, o, e1, _, g2⟩ := hg (by simp)
  rw [e1] at e
  cases e
  have h3 := g2 1 (by simp)
  exact ⟨h3.1, h3.2.1⟩
def JA1 (W3 : World) (gs : Nat) (LL : List Ce) (b : Nat → Bool) (u4 u5 u28 u29 u30 u31 u32 u33 u34 u35 u36 : Value) (x : World) : Prop :=
  (b 0 = true → u29 = .agg #[.int .i64 4, .int .i64 2, .slice (some ⟨gs, 0, none⟩) 8 8]) ∧
  (b 1 = true → u30 = .agg #[.int .i64 1, .int .i64 0, .int .i64 2, .int .i64 2]) ∧
  (b 2 = true → u31 = .agg #[.int .u8 255, .int .u8 255, .int .u8 255, .int .u8 255]) ∧
  (b 3 = true → u32 = (Value.agg #[.int .u8 st1.k, .int .i64 st1.r.x, .int .i64 st1.r.y, .int .i64 st1.r.w, .int .i64 st1.r.h, .int .u8 st1.c.r, .int .u8 st1.c.g, .int .u8 st1.c.b, .int .u8 st1.c.a, .int .u8 st1.b.r, .int .u8 st1.b.g, .int .u8 st1.b.b, .int .u8 st1.b.a, .string st1.t, .int .i64 st1.n])) ∧
  (b 4 = true → ∃ gx, u33 = .slice (some ⟨gx, 0, none⟩) 1 1 ∧ W3.heap.size ≤ gx ∧ Bk x gx (#[.int .u8 st1.k, .int .i64 st1.r.x, .int .i64 st1.r.y, .int .i64 st1.r.w, .int .i64 st1.r.h, .int .u8 st1.c.r, .int .u8 st1.c.g, .int .u8 st1.c.b, .int .u8 st1.c.a, .int .u8 st1.b.r, .int .u8 st1.b.g, .int .u8 st1.b.b, .int .u8 st1.b.a, .string st1.t, .int .i64 st1.n]) 55) ∧
  (b 5 = true → ∃ ga ca, u34 = .tuple #[.agg #[.int .i64 4, .int .i64 2, .slice (some ⟨ga, 0, none⟩) 8 ca], .int .i64 0] ∧ LsC x (.slice (some ⟨ga, 0, none⟩) 8 ca) LL) ∧
  (b 6 = true → b 5 = true ∧ u28 = u34) ∧
  (b 7 = true → b 5 = true ∧ ∃ ga ca, u34 = .tuple #[.agg #[.int .i64 4, .int .i64 2, .slice (some ⟨ga, 0, none⟩) 8 ca], .int .i64 0] ∧ u35 = .agg #[.int .i64 4, .int .i64 2, .slice (some ⟨ga, 0, none⟩) 8 ca]) ∧
  (b 8 = true → u36 = .int .i64 0) ∧
  (b 9 = true → ∃ qb, u4 = .pointer (some ⟨qb, 0, none⟩) ∧ W3.heap.size ≤ qb ∧ (b 10 = false → Bk x qb #[.int .i64 0, .int .i64 0, .slice none 0 0] 26) ∧ (b 10 = true → ∃ ga ca, u34 = .tuple #[.agg #[.int .i64 4, .int .i64 2, .slice (some ⟨ga, 0, none⟩) 8 ca], .int .i64 0] ∧ Bk x qb #[.int .i64 4, .int .i64 2, .slice (some ⟨ga, 0, none⟩) 8 ca] 26)) ∧
  (b 10 = true → b 9 = true ∧ b 7 = true) ∧
  (b 11 = true → u5 = .int .i64 0) ∧
  Below W3.heap.size W3 x
def JA2 (W3 : World) (gs : Nat) (LL : List Ce) (b : Nat → Bool) (u18 u19 u66 u67 u68 u69 u70 u71 u72 u73 u74 : Value) (x : World) : Prop :=
  (b 0 = true → u67 = .agg #[.int .i64 4, .int .i64 2, .slice (some ⟨gs, 0, none⟩) 8 8]) ∧
  (b 1 = true → u68 = .agg #[.int .i64 3, .int .i64 0, .int .i64 1, .int .i64 1]) ∧
  (b 2 = true → u69 = .agg #[.int .u8 255, .int .u8 255, .int .u8 255, .int .u8 255]) ∧
  (b 3 = true → u70 = (Value.agg #[.int .u8 st2.k, .int .i64 st2.r.x, .int .i64 st2.r.y, .int .i64 st2.r.w, .int .i64 st2.r.h, .int .u8 st2.c.r, .int .u8 st2.c.g, .int .u8 st2.c.b, .int .u8 st2.c.a, .int .u8 st2.b.r, .int .u8 st2.b.g, .int .u8 st2.b.b, .int .u8 st2.b.a, .string st2.t, .int .i64 st2.n])) ∧
  (b 4 = true → ∃ gx, u71 = .slice (some ⟨gx, 0, none⟩) 1 1 ∧ W3.heap.size ≤ gx ∧ Bk x gx (#[.int .u8 st2.k, .int .i64 st2.r.x, .int .i64 st2.r.y, .int .i64 st2.r.w, .int .i64 st2.r.h, .int .u8 st2.c.r, .int .u8 st2.c.g, .int .u8 st2.c.b, .int .u8 st2.c.a, .int .u8 st2.b.r, .int .u8 st2.b.g, .int .u8 st2.b.b, .int .u8 st2.b.a, .string st2.t, .int .i64 st2.n]) 55) ∧
  (b 5 = true → ∃ ga ca, u72 = .tuple #[.agg #[.int .i64 4, .int .i64 2, .slice (some ⟨ga, 0, none⟩) 8 ca], .int .i64 0] ∧ LsC x (.slice (some ⟨ga, 0, none⟩) 8 ca) LL) ∧
  (b 6 = true → b 5 = true ∧ u66 = u72) ∧
  (b 7 = true → b 5 = true ∧ ∃ ga ca, u72 = .tuple #[.agg #[.int .i64 4, .int .i64 2, .slice (some ⟨ga, 0, none⟩) 8 ca], .int .i64 0] ∧ u73 = .agg #[.int .i64 4, .int .i64 2, .slice (some ⟨ga, 0, none⟩) 8 ca]) ∧
  (b 8 = true → u74 = .int .i64 0) ∧
  (b 9 = true → ∃ qb, u18 = .pointer (some ⟨qb, 0, none⟩) ∧ W3.heap.size ≤ qb ∧ (b 10 = false → Bk x qb #[.int .i64 0, .int .i64 0, .slice none 0 0] 26) ∧ (b 10 = true → ∃ ga ca, u72 = .tuple #[.agg #[.int .i64 4, .int .i64 2, .slice (some ⟨ga, 0, none⟩) 8 ca], .int .i64 0] ∧ Bk x qb #[.int .i64 4, .int .i64 2, .slice (some ⟨ga, 0, none⟩) 8 ca] 26)) ∧
  (b 10 = true → b 9 = true ∧ b 7 = true) ∧
  (b 11 = true → u19 = .int .i64 0) ∧
  Below W3.heap.size W3 x

set_option maxRecDepth 20000 in
set_option maxHeartbeats 8000000 in
theorem awake15_any (w : World) (hE : Env15 w) : Calls Tryz.prog 6 #[] w fun e w' => e = .returned (.bool true) ∧ Below w.heap.size w w' := by
  have H0 : Hid (∀ W, W = w.alloc (.cells #[.int .u8 255, .int .u8 255, .int .u8 255, .int .u8 255] 38) → Bk W w.heap.size #[.int .u8 255, .int .u8 255, .int .u8 255, .int .u8 255] 38 ∧ Below w.heap.size w W) := fun W hW => by
    subst hW
    exact ⟨Bk.new _ _ _, (Below.refl _ w).alloc (Nat.le_refl _) _⟩
  have HE : Hid (Env15 w) := hE
  clear hE
  go_enter Tryz.func6, Tryz.ntmps6
  go_wp2_with fail
  obtain ⟨W1, hW1⟩ : ∃ W1, W1 = w.alloc (.cells #[.int .u8 255, .int .u8 255, .int .u8 255, .int .u8 255] 38) := ⟨_, rfl⟩
  obtain ⟨wB, hwB⟩ : ∃ wB, wB = w.heap.size := ⟨_, rfl⟩
  have H1 : Hid (Bk W1 wB #[.int .u8 255, .int .u8 255, .int .u8 255, .int .u8 255] 38 ∧ Below w.heap.size w W1) := by rw [hwB]; exact H0.out W1 hW1
  rw [← hW1, ← hwB]
  clear hW1 hwB H0
  refine (awBlank _).mono ?_
  rintro e W2 ⟨gs, rfl, hg1, hg2, hb2⟩
  have H2 : Hid (∀ W, W = W2.alloc (.cells #[.int .i64 4, .int .i64 2, .slice (some ⟨gs, 0, none⟩) 8 8] 26) → AwW w wB W2.heap.size gs W) := fun W hW => by
    subst hW
    have hb := H1.out.2.trans (hb2.mono H1.out.2.size)
    exact ⟨(H1.out.1.below hb2).below ((Below.refl _ _).alloc (Nat.le_refl _) _), Bk.new _ _ _, hg2.below ((Below.refl _ _).alloc (Nat.le_refl _) _), hb.alloc hb.size _⟩
  clear hg1 hg2 hb2 H1
  obtain ⟨W3, hW3⟩ : ∃ W3, W3 = W2.alloc (.cells #[.int .i64 4, .int .i64 2, .slice (some ⟨gs, 0, none⟩) 8 8] 26) := ⟨_, rfl⟩
  obtain ⟨sB, hsB⟩ : ∃ sB, sB = W2.heap.size := ⟨_, rfl⟩
  have H3 : Hid (AwW w wB sB gs W3) := by rw [hsB]; exact H2.out W3 hW3
  clear H2
  have HA : Hid (∀ W, Below W3.heap.size W3 W → AwW w wB sB gs W) := fun W h => H3.out.below h
  have HRc : Hid (∀ x y n m W, Calls Tryz.prog 21 #[.int .i64 x, .int .i64 y, .int .i64 n, .int .i64 m] W fun e w' => e = .returned (.agg #[.int .i64 x, .int .i64 y, .int .i64 n, .int .i64 m]) ∧ Below W.heap.size W w') := awRect
  have HDr : Hid (∀ W gx, Below W3.heap.size W3 W → Bk W gx (#[.int .u8 st1.k, .int .i64 st1.r.x, .int .i64 st1.r.y, .int .i64 st1.r.w, .int .i64 st1.r.h, .int .u8 st1.c.r, .int .u8 st1.c.g, .int .u8 st1.c.b, .int .u8 st1.c.a, .int .u8 st1.b.r, .int .u8 st1.b.g, .int .u8 st1.b.b, .int .u8 st1.b.a, .string st1.t, .int .i64 st1.n]) 55 → Calls Tryz.prog 8 #[.agg #[.int .i64 4, .int .i64 2, .slice (some ⟨gs, 0, none⟩) 8 8], .slice (some ⟨gx, 0, none⟩) 1 1] W fun e w' => ∃ ga ca, e = .returned (.tuple #[.agg #[.int .i64 4, .int .i64 2, .slice (some ⟨ga, 0, none⟩) 8 ca], .int .i64 0]) ∧ Hid (LsC w' (.slice (some ⟨ga, 0, none⟩) 8 ca) A8 ∧ Below W.heap.size W w')) := fun W gx h1 h2 => by
    have := awDraw st1 st_wf.1 chk1.1 w wB sB gs gx W HE.out (H3.out.below h1) h2
    rw [a8_eq] at this
    exact this
  have HFar : Hid (∀ x qb, Bk x qb #[.int .i64 0, .int .i64 0, .slice none 0 0] 26 → ∀ v a b c, LsC x v A8 → LsC (((x.setCell ⟨qb, 0, none⟩ a).setCell ⟨qb, 1, none⟩ b).setCell ⟨qb, 2, none⟩ c) v A8) := fun x qb z v a b c h => lsc_far3 z a b c h
  have HTx : Hid (∀ qb ga ca W, AwS w wB sB gs qb ga ca W → Calls Tryz.prog 22 #[.agg #[.int .i64 4, .int .i64 2, .slice (some ⟨ga, 0, none⟩) 8 ca]] W fun e w' => e = .returned (.tuple #[.string ⟨#[32, 97, 98, 32, 10, 32, 99, 32, 32, 10]⟩, .int .i64 0]) ∧ Below W.heap.size W w') := fun qb ga ca W h => awText w wB sB gs qb ga ca W HE.out h
  have HRu : Hid (∀ qb ga ca W, AwS w wB sB gs qb ga ca W → Calls Tryz.prog 23 #[.agg #[.int .i64 4, .int .i64 2, .slice (some ⟨gs, 0, none⟩) 8 8], .agg #[.int .i64 4, .int .i64 2, .slice (some ⟨ga, 0, none⟩) 8 ca]] W fun e w' => ∃ gu ou cu, e = .returned (.tuple #[.slice (some ⟨gu, ou, none⟩) 2 cu, .int .i64 0]) ∧ Hid (AwU w' gu ou cu ∧ Below W.heap.size W w')) := fun qb ga ca W h => awRuns w wB sB gs qb ga ca W HE.out h
  have HEs : Hid (∀ gu ou cu W, Below w.heap.size w W → AwU W gu ou cu → Calls Tryz.prog 24 #[.slice (some ⟨gu, ou, none⟩) 2 cu] W fun e w' => e = .returned (.tuple #[.string x8, .int .i64 0]) ∧ Below W.heap.size W w') := fun gu ou cu W hb h => awEsc w gu ou cu W HE.out hb h
  have HRd : Hid (∀ W, AwW w wB sB gs W → Calls Tryz.prog 25 #[.agg #[.int .i64 4, .int .i64 2, .slice (some ⟨gs, 0, none⟩) 8 8], .string x8] W fun e w' => ∃ g cap, e = .returned (.tuple #[.agg #[.int .i64 4, .int .i64 2, .slice (some ⟨g, 0, none⟩) 8 cap], .int .i64 0, .int .i64 0]) ∧ Hid (LsC w' (.slice (some ⟨g, 0, none⟩) 8 cap) A8 ∧ Below W.heap.size W w')) := fun W h => awRead w wB sB gs W HE.out h
  have HR2 : Hid (∀ W, AwW w wB sB gs W → Calls Tryz.prog 25 #[.agg #[.int .i64 4, .int .i64 2, .slice (some ⟨gs, 0, none⟩) 8 8], .string ⟨#[27, 91, 49, 59, 52, 72, 97, 98]⟩] W fun e w' => e = .returned (.tuple #[.agg #[.int .i64 0, .int .i64 0, .slice none 0 0], .int .i64 7, .int .i64 150]) ∧ Below W.heap.size W w') := fun W h => awRead2 w wB sB gs W HE.out h
  have HCk : Hid (∀ W, Below w.heap.size w W → Calls Tryz.prog 26 #[.agg #[.int .i64 1, .int .i64 0, .slice none 0 0]] W fun e w' => e = .returned (.int .i64 0) ∧ Below W.heap.size W w') := fun W hb => awCheck w W HE.out hb
  have HSm : Hid (∀ W va vb, LsC W va A8 → LsC W vb A8 → Calls Tryz.prog 10 #[.agg #[.int .i64 4, .int .i64 2, va], .agg #[.int .i64 4, .int .i64 2, vb]] W fun e w' => e = .returned (.bool true) ∧ Below W.heap.size W w') := fun W va vb h1 h2 => scr15_any 4 2 A8 va vb W h1 h2 (by decide)
  go_upto_region 3 with fail
  rw [← hW3, ← hsB]
  clear hW3 hsB
  refine wp_region_inv (I := (fun b a x => ∃ u4 u5 u28 u29 u30 u31 u32 u33 u34 u35 u36, a = ⟨#[.bool false, .pointer (some ⟨wB, 0, none⟩), .pointer (some ⟨sB, 0, none⟩), .int .i64 0, u4, u5, undef, undef, undef, undef, undef, undef, undef, undef, undef, undef, undef, undef, undef, undef, undef, .agg #[.int .u8 255, .int .u8 255, .int .u8 255, .int .u8 255], .tuple #[.agg #[.int .i64 4, .int .i64 2, .slice (some ⟨gs, 0, none⟩) 8 8], .int .i64 0], .agg #[.int .i64 4, .int .i64 2], .agg #[.int .u8 0, .int .u8 0, .int .u8 0, .int .u8 0], .tuple #[.agg #[.int .i64 4, .int .i64 2, .slice (some ⟨gs, 0, none⟩) 8 8], .int .i64 0], .agg #[.int .i64 4, .int .i64 2, .slice (some ⟨gs, 0, none⟩) 8 8], .int .i64 0, u28, u29, u30, u31, u32, u33, u34, u35, u36, undef, undef, undef, undef, undef, undef, undef, undef, undef, undef, undef, undef, undef, undef, undef, undef, undef, undef, undef, undef, undef, undef, undef, undef, undef, undef, undef, undef, undef, undef, undef, undef, undef, undef, undef, undef, undef, undef, undef, undef, undef, undef, undef, undef, undef, undef, undef, undef, undef, undef, undef, undef, undef, undef, undef, undef, undef, undef, undef, undef, undef, undef, undef, undef, undef, undef, undef, undef, undef, undef, undef, undef, undef, undef, undef, undef, undef, undef, undef, undef, undef, undef, undef, undef, undef, undef, undef, undef, undef, undef, undef, undef, undef, undef, undef, undef, undef, undef, undef, undef, undef, undef, undef, undef, undef, undef, undef, undef, undef, undef, undef, undef, undef, undef, undef, undef, undef, undef, undef, undef, undef, undef, undef, undef], []⟩ ∧ Hid (JA1 W3 gs A8 b u4 u5 u28 u29 u30 u31 u32 u33 u34 u35 u36 x))) (by kernel_rfl) (by kernel_rfl) ?_ ?_ ?_
  · exact ⟨_, _, _, _, _, _, _, _, _, _, _, rfl, ⟨(fun e => by cases e), (fun e => by cases e), (fun e => by cases e), (fun e => by cases e), (fun e => by cases e), (fun e => by cases e), (fun e => by cases e), (fun e => by cases e), (fun e => by cases e), (fun e => by cases e), (fun e => by cases e), (fun e => by cases e), (Below.refl _ W3).drew⟩⟩
  · intro b a x i o hI hbi ho hpre K' hK
    obtain ⟨u4, u5, u28, u29, u30, u31, u32, u33, u34, u35, u36, rfl, HJ⟩ := hI
    have hi : i < 12 := by have := (Array.getElem?_eq_some_iff.1 ho).1; simpa using this
    rcases (show i = 0 ∨ i = 1 ∨ i = 2 ∨ i = 3 ∨ i = 4 ∨ i = 5 ∨ i = 6 ∨ i = 7 ∨ i = 8 ∨ i = 9 ∨ i = 10 ∨ i = 11 by omega) with rfl | rfl | rfl | rfl | rfl | rfl | rfl | rfl | rfl | rfl | rfl | rfl
    · injection (show some _ = some o from ho) with ho
      subst ho
      have hbx : Below W3.heap.size W3 x := by obtain ⟨j0, j1, j2, j3, j4, j5, j6, j7, j8, j9, j10, j11, e0⟩ := HJ.out; exact e0
      obtain ⟨c0, c1, c2⟩ := Bk.at3S (HA.out x hbx).sb
      have HN : Hid (JA1 W3 gs A8 (fun j => if j = 0 then true else b j) u4 u5 u28 (.agg #[.int .i64 4, .int .i64 2, .slice (some ⟨gs, 0, none⟩) 8 8]) u30 u31 u32 u33 u34 u35 u36 x) := by
        obtain ⟨j0, j1, j2, j3, j4, j5, j6, j7, j8, j9, j10, j11, e0⟩ := HJ.out
        exact ⟨fun _ => rfl, j1, j2, j3, j4, j5, j6, j7, j8, j9, j10, j11, e0⟩
      clear HJ hpre
      go_simp
      exact hK _ _ ⟨u4, u5, u28, _, u30, u31, u32, u33, u34, u35, u36, rfl, HN⟩
    · injection (show some _ = some o from ho) with ho
      subst ho
      have HN : Hid (∀ x', Below x.heap.size x x' → JA1 W3 gs A8 (fun j => if j = 1 then true else b j) u4 u5 u28 u29 (.agg #[.int .i64 1, .int .i64 0, .int .i64 2, .int .i64 2]) u31 u32 u33 u34 u35 u36 x') := fun x' hb => by
        obtain ⟨j0, j1, j2, j3, j4, j5, j6, j7, j8, j9, j10, j11, e0⟩ := HJ.out
        exact ⟨j0, fun _ => rfl, j2, j3, (fun h => by obtain ⟨gx, k1, k2, k3⟩ := j4 h; exact ⟨gx, k1, k2, k3.below hb⟩), (fun h => by obtain ⟨ga, ca, k1, k2⟩ := j5 h; exact ⟨ga, ca, k1, k2.below hb⟩), j6, j7, j8, (fun h => by obtain ⟨qb, k1, k2, k3, k4⟩ := j9 h; exact ⟨qb, k1, k2, fun c => (k3 c).below hb, fun c => by obtain ⟨ga, ca, m1, m2⟩ := k4 c; exact ⟨ga, ca, m1, m2.below hb⟩⟩), j10, j11, e0.trans (hb.mono e0.size)⟩
      clear HJ hpre
      go_simp
      refine (HRc.out _ _ _ _ x).mono ?_
      rintro e x' ⟨rfl, hx'⟩
      exact hK _ _ ⟨u4, u5, u28, u29, _, u31, u32, u33, u34, u35, u36, rfl, HN.out x' hx'⟩
    · injection (show some _ = some o from ho) with ho
      subst ho
      have hbx : Below W3.heap.size W3 x := by obtain ⟨j0, j1, j2, j3, j4, j5, j6, j7, j8, j9, j10, j11, e0⟩ := HJ.out; exact e0
      have w0 := (HA.out x hbx).wb.cell 0
      have w1 := (HA.out x hbx).wb.cell 1
      have w2 := (HA.out x hbx).wb.cell 2
      have w3 := (HA.out x hbx).wb.cell 3
      simp only [List.getElem?_toArray, List.getElem?_cons_zero, List.getElem?_cons_succ] at w0 w1 w2 w3
      have HN : Hid (JA1 W3 gs A8 (fun j => if j = 2 then true else b j) u4 u5 u28 u29 u30 (.agg #[.int .u8 255, .int .u8 255, .int .u8 255, .int .u8 255]) u32 u33 u34 u35 u36 x) := by
        obtain ⟨j0, j1, j2, j3, j4, j5, j6, j7, j8, j9, j10, j11, e0⟩ := HJ.out
        exact ⟨j0, j1, fun _ => rfl, j3, j4, j5, j6, j7, j8, j9, j10, j11, e0⟩
      clear HJ hpre
      go_simp
      exact hK _ _ ⟨u4, u5, u28, u29, u30, _, u32, u33, u34, u35, u36, rfl, HN⟩
    · injection (show some _ = some o from ho) with ho
      subst ho
      have p1 : b 1 = true := hpre 1 (by decide +kernel)
      obtain rfl : u30 = .agg #[.int .i64 1, .int .i64 0, .int .i64 2, .int .i64 2] := by obtain ⟨j0, j1, j2, j3, j4, j5, j6, j7, j8, j9, j10, j11, e0⟩ := HJ.out; exact (j1 p1)
      have p2 : b 2 = true := hpre 2 (by decide +kernel)
      obtain rfl : u31 = .agg #[.int .u8 255, .int .u8 255, .int .u8 255, .int .u8 255] := by obtain ⟨j0, j1, j2, j3, j4, j5, j6, j7, j8, j9, j10, j11, e0⟩ := HJ.out; exact (j2 p2)
      have HN : Hid (JA1 W3 gs A8 (fun j => if j = 3 then true else b j) u4 u5 u28 u29 (.agg #[.int .i64 1, .int .i64 0, .int .i64 2, .int .i64 2]) (.agg #[.int .u8 255, .int .u8 255, .int .u8 255, .int .u8 255]) ((Value.agg #[.int .u8 st1.k, .int .i64 st1.r.x, .int .i64 st1.r.y, .int .i64 st1.r.w, .int .i64 st1.r.h, .int .u8 st1.c.r, .int .u8 st1.c.g, .int .u8 st1.c.b, .int .u8 st1.c.a, .int .u8 st1.b.r, .int .u8 st1.b.g, .int .u8 st1.b.b, .int .u8 st1.b.a, .string st1.t, .int .i64 st1.n])) u33 u34 u35 u36 x) := by
        obtain ⟨j0, j1, j2, j3, j4, j5, j6, j7, j8, j9, j10, j11, e0⟩ := HJ.out
        exact ⟨j0, j1, j2, fun _ => rfl, j4, j5, j6, j7, j8, j9, j10, j11, e0⟩
      clear HJ hpre
      go_simp
      exact hK _ _ ⟨u4, u5, u28, u29, _, _, _, u33, u34, u35, u36, rfl, HN⟩
    · injection (show some _ = some o from ho) with ho
      subst ho
      have p3 : b 3 = true := hpre 3 (by decide +kernel)
      obtain rfl : u32 = (Value.agg #[.int .u8 st1.k, .int .i64 st1.r.x, .int .i64 st1.r.y, .int .i64 st1.r.w, .int .i64 st1.r.h, .int .u8 st1.c.r, .int .u8 st1.c.g, .int .u8 st1.c.b, .int .u8 st1.c.a, .int .u8 st1.b.r, .int .u8 st1.b.g, .int .u8 st1.b.b, .int .u8 st1.b.a, .string st1.t, .int .i64 st1.n]) := by obtain ⟨j0, j1, j2, j3, j4, j5, j6, j7, j8, j9, j10, j11, e0⟩ := HJ.out; exact (j3 p3)
      have hbn : Below x.heap.size x (x.alloc (.cells (#[.int .u8 st1.k, .int .i64 st1.r.x, .int .i64 st1.r.y, .int .i64 st1.r.w, .int .i64 st1.r.h, .int .u8 st1.c.r, .int .u8 st1.c.g, .int .u8 st1.c.b, .int .u8 st1.c.a, .int .u8 st1.b.r, .int .u8 st1.b.g, .int .u8 st1.b.b, .int .u8 st1.b.a, .string st1.t, .int .i64 st1.n]) 55)) := (Below.refl _ x).alloc (Nat.le_refl _) _
      have HN : Hid (JA1 W3 gs A8 (fun j => if j = 4 then true else b j) u4 u5 u28 u29 u30 u31 ((Value.agg #[.int .u8 st1.k, .int .i64 st1.r.x, .int .i64 st1.r.y, .int .i64 st1.r.w, .int .i64 st1.r.h, .int .u8 st1.c.r, .int .u8 st1.c.g, .int .u8 st1.c.b, .int .u8 st1.c.a, .int .u8 st1.b.r, .int .u8 st1.b.g, .int .u8 st1.b.b, .int .u8 st1.b.a, .string st1.t, .int .i64 st1.n])) (.slice (some ⟨x.heap.size, 0, none⟩) 1 1) u34 u35 u36 (x.alloc (.cells (#[.int .u8 st1.k, .int .i64 st1.r.x, .int .i64 st1.r.y, .int .i64 st1.r.w, .int .i64 st1.r.h, .int .u8 st1.c.r, .int .u8 st1.c.g, .int .u8 st1.c.b, .int .u8 st1.c.a, .int .u8 st1.b.r, .int .u8 st1.b.g, .int .u8 st1.b.b, .int .u8 st1.b.a, .string st1.t, .int .i64 st1.n]) 55))) := by
        obtain ⟨j0, j1, j2, j3, j4, j5, j6, j7, j8, j9, j10, j11, e0⟩ := HJ.out
        exact ⟨j0, j1, j2, j3, fun _ => ⟨x.heap.size, rfl, e0.size, Bk.new _ _ _⟩, (fun h => by obtain ⟨ga, ca, k1, k2⟩ := j5 h; exact ⟨ga, ca, k1, k2.below hbn⟩), j6, j7, j8, (fun h => by obtain ⟨qb, k1, k2, k3, k4⟩ := j9 h; exact ⟨qb, k1, k2, fun c => (k3 c).below hbn, fun c => by obtain ⟨ga, ca, m1, m2⟩ := k4 c; exact ⟨ga, ca, m1, m2.below hbn⟩⟩), j10, j11, e0.alloc e0.size _⟩
      clear HJ hpre hbn
      go_simp
      exact hK _ _ ⟨u4, u5, u28, u29, u30, u31, _, _, u34, u35, u36, rfl, HN⟩
    · injection (show some _ = some o from ho) with ho
      subst ho
      have p0 : b 0 = true := hpre 0 (by decide +kernel)
      obtain rfl : u29 = .agg #[.int .i64 4, .int .i64 2, .slice (some ⟨gs, 0, none⟩) 8 8] := by obtain ⟨j0, j1, j2, j3, j4, j5, j6, j7, j8, j9, j10, j11, e0⟩ := HJ.out; exact (j0 p0)
      have p4 : b 4 = true := hpre 4 (by decide +kernel)
      obtain ⟨gx, rfl, hgl, hgx⟩ : ∃ gx, u33 = .slice (some ⟨gx, 0, none⟩) 1 1 ∧ W3.heap.size ≤ gx ∧ Bk x gx (#[.int .u8 st1.k, .int .i64 st1.r.x, .int .i64 st1.r.y, .int .i64 st1.r.w, .int .i64 st1.r.h, .int .u8 st1.c.r, .int .u8 st1.c.g, .int .u8 st1.c.b, .int .u8 st1.c.a, .int .u8 st1.b.r, .int .u8 st1.b.g, .int .u8 st1.b.b, .int .u8 st1.b.a, .string st1.t, .int .i64 st1.n]) 55 := by obtain ⟨j0, j1, j2, j3, j4, j5, j6, j7, j8, j9, j10, j11, e0⟩ := HJ.out; exact j4 p4
      have hbx : Below W3.heap.size W3 x := by obtain ⟨j0, j1, j2, j3, j4, j5, j6, j7, j8, j9, j10, j11, e0⟩ := HJ.out; exact e0
      have HC := HDr.out x gx hbx hgx
      have HN : Hid (∀ x' ga ca, Below x.heap.size x x' → LsC x' (.slice (some ⟨ga, 0, none⟩) 8 ca) A8 → JA1 W3 gs A8 (fun j => if j = 5 then true else b j) u4 u5 u28 (.agg #[.int .i64 4, .int .i64 2, .slice (some ⟨gs, 0, none⟩) 8 8]) u30 u31 u32 (.slice (some ⟨gx, 0, none⟩) 1 1) (.tuple #[.agg #[.int .i64 4, .int .i64 2, .slice (some ⟨ga, 0, none⟩) 8 ca], .int .i64 0]) u35 u36 x') := fun x' ga ca hb hls => by
        obtain ⟨j0, j1, j2, j3, j4, j5, j6, j7, j8, j9, j10, j11, e0⟩ := HJ.out
        exact ⟨j0, j1, j2, j3, (fun h => ⟨gx, rfl, hgl, hgx.below hb⟩), (fun _ => ⟨ga, ca, rfl, hls⟩), (fun h => absurd (hbi.symm.trans (j6 h).1) (by decide)), (fun h => absurd (hbi.symm.trans (j7 h).1) (by decide)), j8, (fun h => by obtain ⟨qb, k1, k2, k3, k4⟩ := j9 h; exact ⟨qb, k1, k2, fun c => (k3 c).below hb, fun c => absurd (hbi.symm.trans (j7 (j10 c).2).1) (by decide)⟩), j10, j11, e0.trans (hb.mono e0.size)⟩
      clear HJ hpre hgx hbx
      go_simp
      refine HC.mono ?_
      rintro e x' ⟨ga, ca, rfl, hh⟩
      exact hK _ _ ⟨u4, u5, u28, _, u30, u31, u32, _, _, u35, u36, rfl, HN.out x' ga ca hh.out.2 hh.out.1⟩
    · injection (show some _ = some o from ho) with ho
      subst ho
      have p5 : b 5 = true := hpre 5 (by decide +kernel)
      obtain ⟨ga, ca, rfl⟩ : ∃ ga ca, u34 = .tuple #[.agg #[.int .i64 4, .int .i64 2, .slice (some ⟨ga, 0, none⟩) 8 ca], .int .i64 0] := by obtain ⟨j0, j1, j2, j3, j4, j5, j6, j7, j8, j9, j10, j11, e0⟩ := HJ.out; obtain ⟨ga, ca, k1, _⟩ := j5 p5; exact ⟨ga, ca, k1⟩
      have HN : Hid (JA1 W3 gs A8 (fun j => if j = 6 then true else b j) u4 u5 (.tuple #[.agg #[.int .i64 4, .int .i64 2, .slice (some ⟨ga, 0, none⟩) 8 ca], .int .i64 0]) u29 u30 u31 u32 u33 (.tuple #[.agg #[.int .i64 4, .int .i64 2, .slice (some ⟨ga, 0, none⟩) 8 ca], .int .i64 0]) u35 u36 x) := by
        obtain ⟨j0, j1, j2, j3, j4, j5, j6, j7, j8, j9, j10, j11, e0⟩ := HJ.out
        exact ⟨j0, j1, j2, j3, j4, j5, fun _ => ⟨p5, rfl⟩, j7, j8, j9, j10, j11, e0⟩
      clear HJ hpre
      go_simp
      exact hK _ _ ⟨u4, u5, _, u29, u30, u31, u32, u33, _, u35, u36, rfl, HN⟩
    · injection (show some _ = some o from ho) with ho
      subst ho
      have p6 : b 6 = true := hpre 6 (by decide +kernel)
      have p5 : b 5 = true := by obtain ⟨j0, j1, j2, j3, j4, j5, j6, j7, j8, j9, j10, j11, e0⟩ := HJ.out; exact (j6 p6).1
      obtain rfl : u34 = u28 := by obtain ⟨j0, j1, j2, j3, j4, j5, j6, j7, j8, j9, j10, j11, e0⟩ := HJ.out; exact (j6 p6).2.symm
      obtain ⟨ga, ca, rfl⟩ : ∃ ga ca, u34 = .tuple #[.agg #[.int .i64 4, .int .i64 2, .slice (some ⟨ga, 0, none⟩) 8 ca], .int .i64 0] := by obtain ⟨j0, j1, j2, j3, j4, j5, j6, j7, j8, j9, j10, j11, e0⟩ := HJ.out; obtain ⟨ga, ca, k1, _⟩ := j5 p5; exact ⟨ga, ca, k1⟩
      have HN : Hid (JA1 W3 gs A8 (fun j => if j = 7 then true else b j) u4 u5 (.tuple #[.agg #[.int .i64 4, .int .i64 2, .slice (some ⟨ga, 0, none⟩) 8 ca], .int .i64 0]) u29 u30 u31 u32 u33 (.tuple #[.agg #[.int .i64 4, .int .i64 2, .slice (some ⟨ga, 0, none⟩) 8 ca], .int .i64 0]) (.agg #[.int .i64 4, .int .i64 2, .slice (some ⟨ga, 0, none⟩) 8 ca]) u36 x) := by
        obtain ⟨j0, j1, j2, j3, j4, j5, j6, j7, j8, j9, j10, j11, e0⟩ := HJ.out
        exact ⟨j0, j1, j2, j3, j4, j5, j6, (fun _ => ⟨p5, ga, ca, rfl, rfl⟩), j8, j9, (fun h => ⟨(j10 h).1, rfl⟩), j11, e0⟩
      clear HJ hpre
      go_simp
      exact hK _ _ ⟨u4, u5, _, u29, u30, u31, u32, u33, _, _, u36, rfl, HN⟩
    · injection (show some _ = some o from ho) with ho
      subst ho
      have p6 : b 6 = true := hpre 6 (by decide +kernel)
      have p5 : b 5 = true := by obtain ⟨j0, j1, j2, j3, j4, j5, j6, j7, j8, j9, j10, j11, e0⟩ := HJ.out; exact (j6 p6).1
      obtain rfl : u34 = u28 := by obtain ⟨j0, j1, j2, j3, j4, j5, j6, j7, j8, j9, j10, j11, e0⟩ := HJ.out; exact (j6 p6).2.symm
      obtain ⟨ga, ca, rfl⟩ : ∃ ga ca, u34 = .tuple #[.agg #[.int .i64 4, .int .i64 2, .slice (some ⟨ga, 0, none⟩) 8 ca], .int .i64 0] := by obtain ⟨j0, j1, j2, j3, j4, j5, j6, j7, j8, j9, j10, j11, e0⟩ := HJ.out; obtain ⟨ga, ca, k1, _⟩ := j5 p5; exact ⟨ga, ca, k1⟩
      have HN : Hid (JA1 W3 gs A8 (fun j => if j = 8 then true else b j) u4 u5 (.tuple #[.agg #[.int .i64 4, .int .i64 2, .slice (some ⟨ga, 0, none⟩) 8 ca], .int .i64 0]) u29 u30 u31 u32 u33 (.tuple #[.agg #[.int .i64 4, .int .i64 2, .slice (some ⟨ga, 0, none⟩) 8 ca], .int .i64 0]) u35 (.int .i64 0) x) := by
        obtain ⟨j0, j1, j2, j3, j4, j5, j6, j7, j8, j9, j10, j11, e0⟩ := HJ.out
        exact ⟨j0, j1, j2, j3, j4, j5, j6, j7, (fun _ => rfl), j9, j10, j11, e0⟩
      clear HJ hpre
      go_simp
      exact hK _ _ ⟨u4, u5, _, u29, u30, u31, u32, u33, _, u35, _, rfl, HN⟩
    · injection (show some _ = some o from ho) with ho
      subst ho
      have hbn : Below x.heap.size x (x.alloc (.cells #[.int .i64 0, .int .i64 0, .slice none 0 0] 26)) := (Below.refl _ x).alloc (Nat.le_refl _) _
      have HN : Hid (JA1 W3 gs A8 (fun j => if j = 9 then true else b j) (.pointer (some ⟨x.heap.size, 0, none⟩)) u5 u28 u29 u30 u31 u32 u33 u34 u35 u36 (x.alloc (.cells #[.int .i64 0, .int .i64 0, .slice none 0 0] 26))) := by
        obtain ⟨j0, j1, j2, j3, j4, j5, j6, j7, j8, j9, j10, j11, e0⟩ := HJ.out
        exact ⟨j0, j1, j2, j3, (fun h => by obtain ⟨gx, k1, k2, k3⟩ := j4 h; exact ⟨gx, k1, k2, k3.below hbn⟩), (fun h => by obtain ⟨ga, ca, k1, k2⟩ := j5 h; exact ⟨ga, ca, k1, k2.below hbn⟩), j6, j7, j8, (fun _ => ⟨x.heap.size, rfl, e0.size, fun _ => Bk.new _ _ _, fun c => absurd (hbi.symm.trans (j10 c).1) (by decide)⟩), (fun c => absurd (hbi.symm.trans (j10 c).1) (by decide)), j11, e0.alloc e0.size _⟩
      clear HJ hpre hbn
      go_simp
      exact hK _ _ ⟨_, u5, u28, u29, u30, u31, u32, u33, u34, u35, u36, rfl, HN⟩
    · injection (show some _ = some o from ho) with ho
      subst ho
      have p9 : b 9 = true := hpre 9 (by decide +kernel)
      have p7 : b 7 = true := hpre 7 (by decide +kernel)
      obtain ⟨p5, ga, ca, rfl, rfl⟩ : b 5 = true ∧ ∃ ga ca, u34 = .tuple #[.agg #[.int .i64 4, .int .i64 2, .slice (some ⟨ga, 0, none⟩) 8 ca], .int .i64 0] ∧ u35 = .agg #[.int .i64 4, .int .i64 2, .slice (some ⟨ga, 0, none⟩) 8 ca] := by obtain ⟨j0, j1, j2, j3, j4, j5, j6, j7, j8, j9, j10, j11, e0⟩ := HJ.out; exact j7 p7
      obtain ⟨qb, rfl, hq1, z⟩ : ∃ qb, u4 = .pointer (some ⟨qb, 0, none⟩) ∧ W3.heap.size ≤ qb ∧ Bk x qb #[.int .i64 0, .int .i64 0, .slice none 0 0] 26 := by
        obtain ⟨j0, j1, j2, j3, j4, j5, j6, j7, j8, j9, j10, j11, e0⟩ := HJ.out
        obtain ⟨qb, k1, k2, k3, _⟩ := j9 p9
        exact ⟨qb, k1, k2, k3 hbi⟩
      obtain ⟨z0, z1, z2⟩ := Bk.at3S z
      have f0 := z.frozen
      have hput : Bk (((x.setCell ⟨qb, 0, none⟩ (.int .i64 4)).setCell ⟨qb, 1, none⟩ (.int .i64 2)).setCell ⟨qb, 2, none⟩ (.slice (some ⟨ga, 0, none⟩) 8 ca)) qb #[.int .i64 4, .int .i64 2, .slice (some ⟨ga, 0, none⟩) 8 ca] 26 := ((z.put 0 (.int .i64 4)).put 1 (.int .i64 2)).put 2 (.slice (some ⟨ga, 0, none⟩) 8 ca)
      have hoth : ∀ {g : Nat} {vs : Array Value} {t : TypeId}, Bk x g vs t → t ≠ 26 → Bk (((x.setCell ⟨qb, 0, none⟩ (.int .i64 4)).setCell ⟨qb, 1, none⟩ (.int .i64 2)).setCell ⟨qb, 2, none⟩ (.slice (some ⟨ga, 0, none⟩) 8 ca)) g vs t := fun {g vs t} h ht => by
        have hne : (qb : Nat) ≠ g := fun e => by subst e; exact ht (h.tyk z)
        exact ((h.other ⟨qb, 0, none⟩ _ hne).other ⟨qb, 1, none⟩ _ hne).other ⟨qb, 2, none⟩ _ hne
      have hlsc : ∀ {v : Value}, LsC x v A8 → LsC (((x.setCell ⟨qb, 0, none⟩ (.int .i64 4)).setCell ⟨qb, 1, none⟩ (.int .i64 2)).setCell ⟨qb, 2, none⟩ (.slice (some ⟨ga, 0, none⟩) 8 ca)) v A8 := fun {v} h => HFar.out x qb z v _ _ _ h
      have HN : Hid (JA1 W3 gs A8 (fun j => if j = 10 then true else b j) (.pointer (some ⟨qb, 0, none⟩)) u5 u28 u29 u30 u31 u32 u33 (.tuple #[.agg #[.int .i64 4, .int .i64 2, .slice (some ⟨ga, 0, none⟩) 8 ca], .int .i64 0]) (.agg #[.int .i64 4, .int .i64 2, .slice (some ⟨ga, 0, none⟩) 8 ca]) u36 (((x.setCell ⟨qb, 0, none⟩ (.int .i64 4)).setCell ⟨qb, 1, none⟩ (.int .i64 2)).setCell ⟨qb, 2, none⟩ (.slice (some ⟨ga, 0, none⟩) 8 ca))) := by
        obtain ⟨j0, j1, j2, j3, j4, j5, j6, j7, j8, j9, j10, j11, e0⟩ := HJ.out
        exact ⟨j0, j1, j2, j3, (fun h => by obtain ⟨gx, k1, k2, k3⟩ := j4 h; exact ⟨gx, k1, k2, hoth k3 (by decide)⟩), (fun h => by obtain ⟨ga2, ca2, k1, k2⟩ := j5 h; exact ⟨ga2, ca2, k1, hlsc k2⟩), j6, j7, j8, (fun _ => ⟨qb, rfl, hq1, (fun c => by cases c), fun _ => ⟨ga, ca, rfl, hput⟩⟩), (fun _ => ⟨p9, p7⟩), j11, ((e0.setCell (p := ⟨qb, 0, none⟩) hq1 _).setCell (p := ⟨qb, 1, none⟩) hq1 _).setCell (p := ⟨qb, 2, none⟩) hq1 _⟩
      clear HJ hpre z hput hoth hlsc
      go_simp
      exact hK _ _ ⟨_, u5, u28, u29, u30, u31, u32, u33, _, _, u36, rfl, HN⟩
    · injection (show some _ = some o from ho) with ho
      subst ho
      have p8 : b 8 = true := hpre 8 (by decide +kernel)
      obtain rfl : u36 = .int .i64 0 := by obtain ⟨j0, j1, j2, j3, j4, j5, j6, j7, j8, j9, j10, j11, e0⟩ := HJ.out; exact j8 p8
      have HN : Hid (JA1 W3 gs A8 (fun j => if j = 11 then true else b j) u4 (.int .i64 0) u28 u29 u30 u31 u32 u33 u34 u35 (.int .i64 0) x) := by
        obtain ⟨j0, j1, j2, j3, j4, j5, j6, j7, j8, j9, j10, j11, e0⟩ := HJ.out
        exact ⟨j0, j1, j2, j3, j4, j5, j6, j7, j8, j9, j10, fun _ => rfl, e0⟩
      clear HJ hpre
      go_simp
      exact hK _ _ ⟨u4, _, u28, u29, u30, u31, u32, u33, u34, u35, _, rfl, HN⟩
  · intro b a x hI hall
    obtain ⟨u4, u5, u28, u29, u30, u31, u32, u33, u34, u35, u36, rfl, HJ⟩ := hI
    have hall' : ∀ i, i < 12 → b i = true := fun i hi => hall i (by simpa using hi)
    obtain ⟨j0, j1, j2, j3, j4, j5, j6, j7, j8, j9, j10, j11, e0⟩ := HJ.out
    obtain ⟨ga, ca, k1, hls⟩ := j5 (hall' 5 (by omega))
    obtain ⟨qb, rfl, hqb, _, k4⟩ := j9 (hall' 9 (by omega))
    obtain ⟨ga2, ca2, k5, hbk⟩ := k4 (hall' 10 (by omega))
    obtain rfl := j11 (hall' 11 (by omega))
    rw [k1] at k5
    injection k5 with k5
    have HF1 : Hid (AwS w wB sB gs qb ga ca x) := by
      simp at k5
      obtain ⟨k7, k8⟩ := k5
      subst k7 k8
      exact ⟨HA.out x e0, hbk, hls⟩
    obtain ⟨q0, q1, q2⟩ := Bk.at3S HF1.out.q
    clear HJ hall hall' hls hbk k4 k5 HA HDr HFar hqb k1 j0 j1 j2 j3 j4 j5 j6 j7 j8 j9 j10 j11 e0
    go_wp2_with fail
    refine (HTx.out qb ga ca x HF1.out).mono ?_
    rintro e x2 ⟨rfl, hx2⟩
    have HF2 : Hid (AwS w wB sB gs qb ga ca x2) := HF1.out.below hx2
    clear HF1 hx2 q0 q1 q2 HTx
    obtain ⟨q0, q1, q2⟩ := Bk.at3S HF2.out.q
    obtain ⟨s0, s1, s2⟩ := Bk.at3S HF2.out.a.sb
    go_wp2_with fail
    refine (HRu.out qb ga ca x2 HF2.out).mono ?_
    rintro e x3 ⟨gu, ou, cu, rfl, hx3⟩
    have HF3 : Hid (AwS w wB sB gs qb ga ca x3 ∧ AwU x3 gu ou cu) := ⟨HF2.out.below hx3.out.2, hx3.out.1⟩
    clear HF2 hx3 q0 q1 q2 s0 s1 s2 HRu
    go_wp2_with fail
    refine (HEs.out gu ou cu x3 HF3.out.1.a.lo HF3.out.2).mono ?_
    rintro e x4 ⟨rfl, hx4⟩
    have HF4 : Hid (AwS w wB sB gs qb ga ca x4 ∧ AwU x4 gu ou cu) := ⟨HF3.out.1.below hx4, HF3.out.2.below hx4⟩
    clear HF3 hx4 HEs
    obtain ⟨s0, s1, s2⟩ := Bk.at3S HF4.out.1.a.sb
    go_wp2_with fail
    refine (HRd.out x4 HF4.out.1.a).mono ?_
    rintro e x5 ⟨gr, cr, rfl, hx5⟩
    have HF5 : Hid (AwS w wB sB gs qb ga ca x5 ∧ AwU x5 gu ou cu ∧ LsC x5 (.slice (some ⟨gr, 0, none⟩) 8 cr) A8) := ⟨HF4.out.1.below hx5.out.2, HF4.out.2.below hx5.out.2, hx5.out.1⟩
    clear HF4 hx5 HRd s0 s1 s2
    obtain ⟨W6, hW6⟩ : ∃ W6, W6 = x5.alloc (.cells #[.int .i64 4, .int .i64 2, .slice (some ⟨gr, 0, none⟩) 8 cr] 26) := ⟨_, rfl⟩
    obtain ⟨rB, hrB⟩ : ∃ rB, rB = x5.heap.size := ⟨_, rfl⟩
    have HF6 : Hid (AwS w wB sB gs qb ga ca W6 ∧ AwU W6 gu ou cu ∧ LsC W6 (.slice (some ⟨gr, 0, none⟩) 8 cr) A8 ∧ Bk W6 rB #[.int .i64 4, .int .i64 2, .slice (some ⟨gr, 0, none⟩) 8 cr] 26) := by
      have hb : Below x5.heap.size x5 W6 := by rw [hW6]; exact (Below.refl _ x5).alloc (Nat.le_refl _) _
      exact ⟨HF5.out.1.below hb, HF5.out.2.1.below hb, HF5.out.2.2.below hb, by rw [hW6, hrB]; exact Bk.new _ _ _⟩
    obtain ⟨s0, s1, s2⟩ := Bk.at3S HF6.out.1.a.sb
    rw [hW6] at s0 s1 s2
    clear HF5
    go_wp2_with fail
    rw [← hW6, ← hrB]
    clear s0 s1 s2 hW6 hrB
    refine (HR2.out W6 HF6.out.1.a).mono ?_
    rintro e x7 ⟨rfl, hx7⟩
    have HF7 : Hid (AwS w wB sB gs qb ga ca x7 ∧ AwU x7 gu ou cu ∧ LsC x7 (.slice (some ⟨gr, 0, none⟩) 8 cr) A8 ∧ Bk x7 rB #[.int .i64 4, .int .i64 2, .slice (some ⟨gr, 0, none⟩) 8 cr] 26) := ⟨HF6.out.1.below hx7, HF6.out.2.1.below hx7, HF6.out.2.2.1.below hx7, HF6.out.2.2.2.below hx7⟩
    clear HF6 hx7 HR2
    have HN8 : Hid (∀ W, W = x7.alloc (.cells #[.int .i64 0, .int .i64 0, .slice none 0 0] 26) → Bk W x7.heap.size #[.int .i64 0, .int .i64 0, .slice none 0 0] 26 ∧ Below x7.heap.size x7 W) := fun W hW => by
      subst hW
      exact ⟨Bk.new _ _ _, (Below.refl _ x7).alloc (Nat.le_refl _) _⟩
    go_upto_region 9 with fail
    obtain ⟨W8, hW8⟩ : ∃ W8, W8 = x7.alloc (.cells #[.int .i64 0, .int .i64 0, .slice none 0 0] 26) := ⟨_, rfl⟩
    obtain ⟨dB, hdB⟩ : ∃ dB, dB = x7.heap.size := ⟨_, rfl⟩
    have HF8 : Hid (AwS w wB sB gs qb ga ca W8 ∧ AwU W8 gu ou cu ∧ LsC W8 (.slice (some ⟨gr, 0, none⟩) 8 cr) A8 ∧ Bk W8 rB #[.int .i64 4, .int .i64 2, .slice (some ⟨gr, 0, none⟩) 8 cr] 26) := by
      have hx7 := (HN8.out W8 hW8).2
      exact ⟨HF7.out.1.below hx7, HF7.out.2.1.below hx7, HF7.out.2.2.1.below hx7, HF7.out.2.2.2.below hx7⟩
    rw [← hW8, ← hdB]
    clear HF7 HN8 hW8 hdB
    have HA2 : Hid (∀ W, Below W8.heap.size W8 W → AwW w wB sB gs W) := fun W h => HF8.out.1.a.below h
    have HDr2 : Hid (∀ W gx, Below W8.heap.size W8 W → Bk W gx (#[.int .u8 st2.k, .int .i64 st2.r.x, .int .i64 st2.r.y, .int .i64 st2.r.w, .int .i64 st2.r.h, .int .u8 st2.c.r, .int .u8 st2.c.g, .int .u8 st2.c.b, .int .u8 st2.c.a, .int .u8 st2.b.r, .int .u8 st2.b.g, .int .u8 st2.b.b, .int .u8 st2.b.a, .string st2.t, .int .i64 st2.n]) 55 → Calls Tryz.prog 8 #[.agg #[.int .i64 4, .int .i64 2, .slice (some ⟨gs, 0, none⟩) 8 8], .slice (some ⟨gx, 0, none⟩) 1 1] W fun e w' => ∃ ga ca, e = .returned (.tuple #[.agg #[.int .i64 4, .int .i64 2, .slice (some ⟨ga, 0, none⟩) 8 ca], .int .i64 0]) ∧ Hid (LsC w' (.slice (some ⟨ga, 0, none⟩) 8 ca) B8 ∧ Below W.heap.size W w')) := fun W gx h1 h2 => awDraw st2 st_wf.2 chk1.2 w wB sB gs gx W HE.out (HF8.out.1.a.below h1) h2
    have HFar2 : Hid (∀ x qb, Bk x qb #[.int .i64 0, .int .i64 0, .slice none 0 0] 26 → ∀ v a b c, LsC x v B8 → LsC (((x.setCell ⟨qb, 0, none⟩ a).setCell ⟨qb, 1, none⟩ b).setCell ⟨qb, 2, none⟩ c) v B8) := fun x qb z v a b c h => lsc_far3 z a b c h
    clear HE
    refine wp_region_inv (I := (fun b a x => ∃ u18 u19 u66 u67 u68 u69 u70 u71 u72 u73 u74, a = ⟨#[.bool false, .pointer (some ⟨wB, 0, none⟩), .pointer (some ⟨sB, 0, none⟩), .int .i64 0, .pointer (some ⟨qb, 0, none⟩), .int .i64 0, .string ⟨#[32, 97, 98, 32, 10, 32, 99, 32, 32, 10]⟩, .int .i64 0, .slice (some ⟨gu, ou, none⟩) 2 cu, .int .i64 0, .string x8, .int .i64 0, .pointer (some ⟨rB, 0, none⟩), .int .i64 0, .int .i64 0, .pointer (some ⟨dB, 0, none⟩), .int .i64 7, .int .i64 150, u18, u19, undef, .agg #[.int .u8 255, .int .u8 255, .int .u8 255, .int .u8 255], .tuple #[.agg #[.int .i64 4, .int .i64 2, .slice (some ⟨gs, 0, none⟩) 8 8], .int .i64 0], .agg #[.int .i64 4, .int .i64 2], .agg #[.int .u8 0, .int .u8 0, .int .u8 0, .int .u8 0], .tuple #[.agg #[.int .i64 4, .int .i64 2, .slice (some ⟨gs, 0, none⟩) 8 8], .int .i64 0], .agg #[.int .i64 4, .int .i64 2, .slice (some ⟨gs, 0, none⟩) 8 8], .int .i64 0, u28, u29, u30, u31, u32, u33, u34, u35, u36, .tuple #[.string ⟨#[32, 97, 98, 32, 10, 32, 99, 32, 32, 10]⟩, .int .i64 0], .agg #[.int .i64 4, .int .i64 2, .slice (some ⟨ga, 0, none⟩) 8 ca], .tuple #[.string ⟨#[32, 97, 98, 32, 10, 32, 99, 32, 32, 10]⟩, .int .i64 0], .string ⟨#[32, 97, 98, 32, 10, 32, 99, 32, 32, 10]⟩, .int .i64 0, .tuple #[.slice (some ⟨gu, ou, none⟩) 2 cu, .int .i64 0], .agg #[.int .i64 4, .int .i64 2, .slice (some ⟨gs, 0, none⟩) 8 8], .agg #[.int .i64 4, .int .i64 2, .slice (some ⟨ga, 0, none⟩) 8 ca], .tuple #[.slice (some ⟨gu, ou, none⟩) 2 cu, .int .i64 0], .slice (some ⟨gu, ou, none⟩) 2 cu, .int .i64 0, .tuple #[.string x8, .int .i64 0], .slice (some ⟨gu, ou, none⟩) 2 cu, .tuple #[.string x8, .int .i64 0], .string x8, .int .i64 0, .tuple #[.agg #[.int .i64 4, .int .i64 2, .slice (some ⟨gr, 0, none⟩) 8 cr], .int .i64 0, .int .i64 0], .agg #[.int .i64 4, .int .i64 2, .slice (some ⟨gs, 0, none⟩) 8 8], .string x8, .tuple #[.agg #[.int .i64 4, .int .i64 2, .slice (some ⟨gr, 0, none⟩) 8 cr], .int .i64 0, .int .i64 0], .agg #[.int .i64 4, .int .i64 2, .slice (some ⟨gr, 0, none⟩) 8 cr], .int .i64 0, .int .i64 0, .tuple #[.agg #[.int .i64 0, .int .i64 0, .slice none 0 0], .int .i64 7, .int .i64 150], .agg #[.int .i64 4, .int .i64 2, .slice (some ⟨gs, 0, none⟩) 8 8], .tuple #[.agg #[.int .i64 0, .int .i64 0, .slice none 0 0], .int .i64 7, .int .i64 150], .agg #[.int .i64 0, .int .i64 0, .slice none 0 0], .int .i64 7, .int .i64 150, u66, u67, u68, u69, u70, u71, u72, u73, u74, undef, undef, undef, undef, undef, undef, undef, undef, undef, undef, undef, undef, undef, undef, undef, undef, undef, undef, undef, undef, undef, undef, undef, undef, undef, undef, undef, undef, undef, undef, undef, undef, undef, undef, undef, undef, undef, undef, undef, undef, undef, undef, undef, undef, undef, undef, undef, undef, undef, undef, undef, undef, undef, undef, undef, undef, undef, undef, undef, undef, undef, undef, undef, undef, undef, undef, undef, undef, undef, undef, undef, undef, undef, undef, undef, undef, undef, undef, undef, undef, undef, undef, undef, undef, undef, undef], []⟩ ∧ Hid (JA2 W8 gs B8 b u18 u19 u66 u67 u68 u69 u70 u71 u72 u73 u74 x))) (by kernel_rfl) (by kernel_rfl) ?_ ?_ ?_
    · exact ⟨_, _, _, _, _, _, _, _, _, _, _, rfl, ⟨(fun e => by cases e), (fun e => by cases e), (fun e => by cases e), (fun e => by cases e), (fun e => by cases e), (fun e => by cases e), (fun e => by cases e), (fun e => by cases e), (fun e => by cases e), (fun e => by cases e), (fun e => by cases e), (fun e => by cases e), (Below.refl _ W8).drew⟩⟩
    · intro b a x i o hI hbi ho hpre K' hK
      obtain ⟨u18, u19, u66, u67, u68, u69, u70, u71, u72, u73, u74, rfl, HJ⟩ := hI
      have hi : i < 12 := by have := (Array.getElem?_eq_some_iff.1 ho).1; simpa using this
      rcases (show i = 0 ∨ i = 1 ∨ i = 2 ∨ i = 3 ∨ i = 4 ∨ i = 5 ∨ i = 6 ∨ i = 7 ∨ i = 8 ∨ i = 9 ∨ i = 10 ∨ i = 11 by omega) with rfl | rfl | rfl | rfl | rfl | rfl | rfl | rfl | rfl | rfl | rfl | rfl
      · injection (show some _ = some o from ho) with ho
        subst ho
        have hbx : Below W8.heap.size W8 x := by obtain ⟨j0, j1, j2, j3, j4, j5, j6, j7, j8, j9, j10, j11, e0⟩ := HJ.out; exact e0
        obtain ⟨c0, c1, c2⟩ := Bk.at3S (HA2.out x hbx).sb
        have HN : Hid (JA2 W8 gs B8 (fun j => if j = 0 then true else b j) u18 u19 u66 (.agg #[.int .i64 4, .int .i64 2, .slice (some ⟨gs, 0, none⟩) 8 8]) u68 u69 u70 u71 u72 u73 u74 x) := by
          obtain ⟨j0, j1, j2, j3, j4, j5, j6, j7, j8, j9, j10, j11, e0⟩ := HJ.out
          exact ⟨fun _ => rfl, j1, j2, j3, j4, j5, j6, j7, j8, j9, j10, j11, e0⟩
        clear HJ hpre
        go_simp
        exact hK _ _ ⟨u18, u19, u66, _, u68, u69, u70, u71, u72, u73, u74, rfl, HN⟩
      · injection (show some _ = some o from ho) with ho
        subst ho
        have HN : Hid (∀ x', Below x.heap.size x x' → JA2 W8 gs B8 (fun j => if j = 1 then true else b j) u18 u19 u66 u67 (.agg #[.int .i64 3, .int .i64 0, .int .i64 1, .int .i64 1]) u69 u70 u71 u72 u73 u74 x') := fun x' hb => by
          obtain ⟨j0, j1, j2, j3, j4, j5, j6, j7, j8, j9, j10, j11, e0⟩ := HJ.out
          exact ⟨j0, fun _ => rfl, j2, j3, (fun h => by obtain ⟨gx, k1, k2, k3⟩ := j4 h; exact ⟨gx, k1, k2, k3.below hb⟩), (fun h => by obtain ⟨ga, ca, k1, k2⟩ := j5 h; exact ⟨ga, ca, k1, k2.below hb⟩), j6, j7, j8, (fun h => by obtain ⟨qb, k1, k2, k3, k4⟩ := j9 h; exact ⟨qb, k1, k2, fun c => (k3 c).below hb, fun c => by obtain ⟨ga, ca, m1, m2⟩ := k4 c; exact ⟨ga, ca, m1, m2.below hb⟩⟩), j10, j11, e0.trans (hb.mono e0.size)⟩
        clear HJ hpre
        go_simp
        refine (HRc.out _ _ _ _ x).mono ?_
        rintro e x' ⟨rfl, hx'⟩
        exact hK _ _ ⟨u18, u19, u66, u67, _, u69, u70, u71, u72, u73, u74, rfl, HN.out x' hx'⟩
      · injection (show some _ = some o from ho) with ho
        subst ho
        have hbx : Below W8.heap.size W8 x := by obtain ⟨j0, j1, j2, j3, j4, j5, j6, j7, j8, j9, j10, j11, e0⟩ := HJ.out; exact e0
        have w0 := (HA2.out x hbx).wb.cell 0
        have w1 := (HA2.out x hbx).wb.cell 1
        have w2 := (HA2.out x hbx).wb.cell 2
        have w3 := (HA2.out x hbx).wb.cell 3
        simp only [List.getElem?_toArray, List.getElem?_cons_zero, List.getElem?_cons_succ] at w0 w1 w2 w3
        have HN : Hid (JA2 W8 gs B8 (fun j => if j = 2 then true else b j) u18 u19 u66 u67 u68 (.agg #[.int .u8 255, .int .u8 255, .int .u8 255, .int .u8 255]) u70 u71 u72 u73 u74 x) := by
          obtain ⟨j0, j1, j2, j3, j4, j5, j6, j7, j8, j9, j10, j11, e0⟩ := HJ.out
          exact ⟨j0, j1, fun _ => rfl, j3, j4, j5, j6, j7, j8, j9, j10, j11, e0⟩
        clear HJ hpre
        go_simp
        exact hK _ _ ⟨u18, u19, u66, u67, u68, _, u70, u71, u72, u73, u74, rfl, HN⟩
      · injection (show some _ = some o from ho) with ho
        subst ho
        have p1 : b 1 = true := hpre 1 (by decide +kernel)
        obtain rfl : u68 = .agg #[.int .i64 3, .int .i64 0, .int .i64 1, .int .i64 1] := by obtain ⟨j0, j1, j2, j3, j4, j5, j6, j7, j8, j9, j10, j11, e0⟩ := HJ.out; exact (j1 p1)
        have p2 : b 2 = true := hpre 2 (by decide +kernel)
        obtain rfl : u69 = .agg #[.int .u8 255, .int .u8 255, .int .u8 255, .int .u8 255] := by obtain ⟨j0, j1, j2, j3, j4, j5, j6, j7, j8, j9, j10, j11, e0⟩ := HJ.out; exact (j2 p2)
        have HN : Hid (JA2 W8 gs B8 (fun j => if j = 3 then true else b j) u18 u19 u66 u67 (.agg #[.int .i64 3, .int .i64 0, .int .i64 1, .int .i64 1]) (.agg #[.int .u8 255, .int .u8 255, .int .u8 255, .int .u8 255]) ((Value.agg #[.int .u8 st2.k, .int .i64 st2.r.x, .int .i64 st2.r.y, .int .i64 st2.r.w, .int .i64 st2.r.h, .int .u8 st2.c.r, .int .u8 st2.c.g, .int .u8 st2.c.b, .int .u8 st2.c.a, .int .u8 st2.b.r, .int .u8 st2.b.g, .int .u8 st2.b.b, .int .u8 st2.b.a, .string st2.t, .int .i64 st2.n])) u71 u72 u73 u74 x) := by
          obtain ⟨j0, j1, j2, j3, j4, j5, j6, j7, j8, j9, j10, j11, e0⟩ := HJ.out
          exact ⟨j0, j1, j2, fun _ => rfl, j4, j5, j6, j7, j8, j9, j10, j11, e0⟩
        clear HJ hpre
        go_simp
        exact hK _ _ ⟨u18, u19, u66, u67, _, _, _, u71, u72, u73, u74, rfl, HN⟩
      · injection (show some _ = some o from ho) with ho
        subst ho
        have p3 : b 3 = true := hpre 3 (by decide +kernel)
        obtain rfl : u70 = (Value.agg #[.int .u8 st2.k, .int .i64 st2.r.x, .int .i64 st2.r.y, .int .i64 st2.r.w, .int .i64 st2.r.h, .int .u8 st2.c.r, .int .u8 st2.c.g, .int .u8 st2.c.b, .int .u8 st2.c.a, .int .u8 st2.b.r, .int .u8 st2.b.g, .int .u8 st2.b.b, .int .u8 st2.b.a, .string st2.t, .int .i64 st2.n]) := by obtain ⟨j0, j1, j2, j3, j4, j5, j6, j7, j8, j9, j10, j11, e0⟩ := HJ.out; exact (j3 p3)
        have hbn : Below x.heap.size x (x.alloc (.cells (#[.int .u8 st2.k, .int .i64 st2.r.x, .int .i64 st2.r.y, .int .i64 st2.r.w, .int .i64 st2.r.h, .int .u8 st2.c.r, .int .u8 st2.c.g, .int .u8 st2.c.b, .int .u8 st2.c.a, .int .u8 st2.b.r, .int .u8 st2.b.g, .int .u8 st2.b.b, .int .u8 st2.b.a, .string st2.t, .int .i64 st2.n]) 55)) := (Below.refl _ x).alloc (Nat.le_refl _) _
        have HN : Hid (JA2 W8 gs B8 (fun j => if j = 4 then true else b j) u18 u19 u66 u67 u68 u69 ((Value.agg #[.int .u8 st2.k, .int .i64 st2.r.x, .int .i64 st2.r.y, .int .i64 st2.r.w, .int .i64 st2.r.h, .int .u8 st2.c.r, .int .u8 st2.c.g, .int .u8 st2.c.b, .int .u8 st2.c.a, .int .u8 st2.b.r, .int .u8 st2.b.g, .int .u8 st2.b.b, .int .u8 st2.b.a, .string st2.t, .int .i64 st2.n])) (.slice (some ⟨x.heap.size, 0, none⟩) 1 1) u72 u73 u74 (x.alloc (.cells (#[.int .u8 st2.k, .int .i64 st2.r.x, .int .i64 st2.r.y, .int .i64 st2.r.w, .int .i64 st2.r.h, .int .u8 st2.c.r, .int .u8 st2.c.g, .int .u8 st2.c.b, .int .u8 st2.c.a, .int .u8 st2.b.r, .int .u8 st2.b.g, .int .u8 st2.b.b, .int .u8 st2.b.a, .string st2.t, .int .i64 st2.n]) 55))) := by
          obtain ⟨j0, j1, j2, j3, j4, j5, j6, j7, j8, j9, j10, j11, e0⟩ := HJ.out
          exact ⟨j0, j1, j2, j3, fun _ => ⟨x.heap.size, rfl, e0.size, Bk.new _ _ _⟩, (fun h => by obtain ⟨ga, ca, k1, k2⟩ := j5 h; exact ⟨ga, ca, k1, k2.below hbn⟩), j6, j7, j8, (fun h => by obtain ⟨qb, k1, k2, k3, k4⟩ := j9 h; exact ⟨qb, k1, k2, fun c => (k3 c).below hbn, fun c => by obtain ⟨ga, ca, m1, m2⟩ := k4 c; exact ⟨ga, ca, m1, m2.below hbn⟩⟩), j10, j11, e0.alloc e0.size _⟩
        clear HJ hpre hbn
        go_simp
        exact hK _ _ ⟨u18, u19, u66, u67, u68, u69, _, _, u72, u73, u74, rfl, HN⟩
      · injection (show some _ = some o from ho) with ho
        subst ho
        have p0 : b 0 = true := hpre 0 (by decide +kernel)
        obtain rfl : u67 = .agg #[.int .i64 4, .int .i64 2, .slice (some ⟨gs, 0, none⟩) 8 8] := by obtain ⟨j0, j1, j2, j3, j4, j5, j6, j7, j8, j9, j10, j11, e0⟩ := HJ.out; exact (j0 p0)
        have p4 : b 4 = true := hpre 4 (by decide +kernel)
        obtain ⟨gx, rfl, hgl, hgx⟩ : ∃ gx, u71 = .slice (some ⟨gx, 0, none⟩) 1 1 ∧ W8.heap.size ≤ gx ∧ Bk x gx (#[.int .u8 st2.k, .int .i64 st2.r.x, .int .i64 st2.r.y, .int .i64 st2.r.w, .int .i64 st2.r.h, .int .u8 st2.c.r, .int .u8 st2.c.g, .int .u8 st2.c.b, .int .u8 st2.c.a, .int .u8 st2.b.r, .int .u8 st2.b.g, .int .u8 st2.b.b, .int .u8 st2.b.a, .string st2.t, .int .i64 st2.n]) 55 := by obtain ⟨j0, j1, j2, j3, j4, j5, j6, j7, j8, j9, j10, j11, e0⟩ := HJ.out; exact j4 p4
        have hbx : Below W8.heap.size W8 x := by obtain ⟨j0, j1, j2, j3, j4, j5, j6, j7, j8, j9, j10, j11, e0⟩ := HJ.out; exact e0
        have HC := HDr2.out x gx hbx hgx
        have HN : Hid (∀ x' ga ca, Below x.heap.size x x' → LsC x' (.slice (some ⟨ga, 0, none⟩) 8 ca) B8 → JA2 W8 gs B8 (fun j => if j = 5 then true else b j) u18 u19 u66 (.agg #[.int .i64 4, .int .i64 2, .slice (some ⟨gs, 0, none⟩) 8 8]) u68 u69 u70 (.slice (some ⟨gx, 0, none⟩) 1 1) (.tuple #[.agg #[.int .i64 4, .int .i64 2, .slice (some ⟨ga, 0, none⟩) 8 ca], .int .i64 0]) u73 u74 x') := fun x' ga ca hb hls => by
          obtain ⟨j0, j1, j2, j3, j4, j5, j6, j7, j8, j9, j10, j11, e0⟩ := HJ.out
          exact ⟨j0, j1, j2, j3, (fun h => ⟨gx, rfl, hgl, hgx.below hb⟩), (fun _ => ⟨ga, ca, rfl, hls⟩), (fun h => absurd (hbi.symm.trans (j6 h).1) (by decide)), (fun h => absurd (hbi.symm.trans (j7 h).1) (by decide)), j8, (fun h => by obtain ⟨qb, k1, k2, k3, k4⟩ := j9 h; exact ⟨qb, k1, k2, fun c => (k3 c).below hb, fun c => absurd (hbi.symm.trans (j7 (j10 c).2).1) (by decide)⟩), j10, j11, e0.trans (hb.mono e0.size)⟩
        clear HJ hpre hgx hbx
        go_simp
        refine HC.mono ?_
        rintro e x' ⟨ga, ca, rfl, hh⟩
        exact hK _ _ ⟨u18, u19, u66, _, u68, u69, u70, _, _, u73, u74, rfl, HN.out x' ga ca hh.out.2 hh.out.1⟩
      · injection (show some _ = some o from ho) with ho
        subst ho
        have p5 : b 5 = true := hpre 5 (by decide +kernel)
        obtain ⟨ga, ca, rfl⟩ : ∃ ga ca, u72 = .tuple #[.agg #[.int .i64 4, .int .i64 2, .slice (some ⟨ga, 0, none⟩) 8 ca], .int .i64 0] := by obtain ⟨j0, j1, j2, j3, j4, j5, j6, j7, j8, j9, j10, j11, e0⟩ := HJ.out; obtain ⟨ga, ca, k1, _⟩ := j5 p5; exact ⟨ga, ca, k1⟩
        have HN : Hid (JA2 W8 gs B8 (fun j => if j = 6 then true else b j) u18 u19 (.tuple #[.agg #[.int .i64 4, .int .i64 2, .slice (some ⟨ga, 0, none⟩) 8 ca], .int .i64 0]) u67 u68 u69 u70 u71 (.tuple #[.agg #[.int .i64 4, .int .i64 2, .slice (some ⟨ga, 0, none⟩) 8 ca], .int .i64 0]) u73 u74 x) := by
          obtain ⟨j0, j1, j2, j3, j4, j5, j6, j7, j8, j9, j10, j11, e0⟩ := HJ.out
          exact ⟨j0, j1, j2, j3, j4, j5, fun _ => ⟨p5, rfl⟩, j7, j8, j9, j10, j11, e0⟩
        clear HJ hpre
        go_simp
        exact hK _ _ ⟨u18, u19, _, u67, u68, u69, u70, u71, _, u73, u74, rfl, HN⟩
      · injection (show some _ = some o from ho) with ho
        subst ho
        have p6 : b 6 = true := hpre 6 (by decide +kernel)
        have p5 : b 5 = true := by obtain ⟨j0, j1, j2, j3, j4, j5, j6, j7, j8, j9, j10, j11, e0⟩ := HJ.out; exact (j6 p6).1
        obtain rfl : u72 = u66 := by obtain ⟨j0, j1, j2, j3, j4, j5, j6, j7, j8, j9, j10, j11, e0⟩ := HJ.out; exact (j6 p6).2.symm
        obtain ⟨ga, ca, rfl⟩ : ∃ ga ca, u72 = .tuple #[.agg #[.int .i64 4, .int .i64 2, .slice (some ⟨ga, 0, none⟩) 8 ca], .int .i64 0] := by obtain ⟨j0, j1, j2, j3, j4, j5, j6, j7, j8, j9, j10, j11, e0⟩ := HJ.out; obtain ⟨ga, ca, k1, _⟩ := j5 p5; exact ⟨ga, ca, k1⟩
        have HN : Hid (JA2 W8 gs B8 (fun j => if j = 7 then true else b j) u18 u19 (.tuple #[.agg #[.int .i64 4, .int .i64 2, .slice (some ⟨ga, 0, none⟩) 8 ca], .int .i64 0]) u67 u68 u69 u70 u71 (.tuple #[.agg #[.int .i64 4, .int .i64 2, .slice (some ⟨ga, 0, none⟩) 8 ca], .int .i64 0]) (.agg #[.int .i64 4, .int .i64 2, .slice (some ⟨ga, 0, none⟩) 8 ca]) u74 x) := by
          obtain ⟨j0, j1, j2, j3, j4, j5, j6, j7, j8, j9, j10, j11, e0⟩ := HJ.out
          exact ⟨j0, j1, j2, j3, j4, j5, j6, (fun _ => ⟨p5, ga, ca, rfl, rfl⟩), j8, j9, (fun h => ⟨(j10 h).1, rfl⟩), j11, e0⟩
        clear HJ hpre
        go_simp
        exact hK _ _ ⟨u18, u19, _, u67, u68, u69, u70, u71, _, _, u74, rfl, HN⟩
      · injection (show some _ = some o from ho) with ho
        subst ho
        have p6 : b 6 = true := hpre 6 (by decide +kernel)
        have p5 : b 5 = true := by obtain ⟨j0, j1, j2, j3, j4, j5, j6, j7, j8, j9, j10, j11, e0⟩ := HJ.out; exact (j6 p6).1
        obtain rfl : u72 = u66 := by obtain ⟨j0, j1, j2, j3, j4, j5, j6, j7, j8, j9, j10, j11, e0⟩ := HJ.out; exact (j6 p6).2.symm
        obtain ⟨ga, ca, rfl⟩ : ∃ ga ca, u72 = .tuple #[.agg #[.int .i64 4, .int .i64 2, .slice (some ⟨ga, 0, none⟩) 8 ca], .int .i64 0] := by obtain ⟨j0, j1, j2, j3, j4, j5, j6, j7, j8, j9, j10, j11, e0⟩ := HJ.out; obtain ⟨ga, ca, k1, _⟩ := j5 p5; exact ⟨ga, ca, k1⟩
        have HN : Hid (JA2 W8 gs B8 (fun j => if j = 8 then true else b j) u18 u19 (.tuple #[.agg #[.int .i64 4, .int .i64 2, .slice (some ⟨ga, 0, none⟩) 8 ca], .int .i64 0]) u67 u68 u69 u70 u71 (.tuple #[.agg #[.int .i64 4, .int .i64 2, .slice (some ⟨ga, 0, none⟩) 8 ca], .int .i64 0]) u73 (.int .i64 0) x) := by
          obtain ⟨j0, j1, j2, j3, j4, j5, j6, j7, j8, j9, j10, j11, e0⟩ := HJ.out
          exact ⟨j0, j1, j2, j3, j4, j5, j6, j7, (fun _ => rfl), j9, j10, j11, e0⟩
        clear HJ hpre
        go_simp
        exact hK _ _ ⟨u18, u19, _, u67, u68, u69, u70, u71, _, u73, _, rfl, HN⟩
      · injection (show some _ = some o from ho) with ho
        subst ho
        have hbn : Below x.heap.size x (x.alloc (.cells #[.int .i64 0, .int .i64 0, .slice none 0 0] 26)) := (Below.refl _ x).alloc (Nat.le_refl _) _
        have HN : Hid (JA2 W8 gs B8 (fun j => if j = 9 then true else b j) (.pointer (some ⟨x.heap.size, 0, none⟩)) u19 u66 u67 u68 u69 u70 u71 u72 u73 u74 (x.alloc (.cells #[.int .i64 0, .int .i64 0, .slice none 0 0] 26))) := by
          obtain ⟨j0, j1, j2, j3, j4, j5, j6, j7, j8, j9, j10, j11, e0⟩ := HJ.out
          exact ⟨j0, j1, j2, j3, (fun h => by obtain ⟨gx, k1, k2, k3⟩ := j4 h; exact ⟨gx, k1, k2, k3.below hbn⟩), (fun h => by obtain ⟨ga, ca, k1, k2⟩ := j5 h; exact ⟨ga, ca, k1, k2.below hbn⟩), j6, j7, j8, (fun _ => ⟨x.heap.size, rfl, e0.size, fun _ => Bk.new _ _ _, fun c => absurd (hbi.symm.trans (j10 c).1) (by decide)⟩), (fun c => absurd (hbi.symm.trans (j10 c).1) (by decide)), j11, e0.alloc e0.size _⟩
        clear HJ hpre hbn
        go_simp
        exact hK _ _ ⟨_, u19, u66, u67, u68, u69, u70, u71, u72, u73, u74, rfl, HN⟩
      · injection (show some _ = some o from ho) with ho
        subst ho
        have p9 : b 9 = true := hpre 9 (by decide +kernel)
        have p7 : b 7 = true := hpre 7 (by decide +kernel)
        obtain ⟨p5, ga, ca, rfl, rfl⟩ : b 5 = true ∧ ∃ ga ca, u72 = .tuple #[.agg #[.int .i64 4, .int .i64 2, .slice (some ⟨ga, 0, none⟩) 8 ca], .int .i64 0] ∧ u73 = .agg #[.int .i64 4, .int .i64 2, .slice (some ⟨ga, 0, none⟩) 8 ca] := by obtain ⟨j0, j1, j2, j3, j4, j5, j6, j7, j8, j9, j10, j11, e0⟩ := HJ.out; exact j7 p7
        obtain ⟨qb, rfl, hq1, z⟩ : ∃ qb, u18 = .pointer (some ⟨qb, 0, none⟩) ∧ W8.heap.size ≤ qb ∧ Bk x qb #[.int .i64 0, .int .i64 0, .slice none 0 0] 26 := by
          obtain ⟨j0, j1, j2, j3, j4, j5, j6, j7, j8, j9, j10, j11, e0⟩ := HJ.out
          obtain ⟨qb, k1, k2, k3, _⟩ := j9 p9
          exact ⟨qb, k1, k2, k3 hbi⟩
        obtain ⟨z0, z1, z2⟩ := Bk.at3S z
        have f0 := z.frozen
        have hput : Bk (((x.setCell ⟨qb, 0, none⟩ (.int .i64 4)).setCell ⟨qb, 1, none⟩ (.int .i64 2)).setCell ⟨qb, 2, none⟩ (.slice (some ⟨ga, 0, none⟩) 8 ca)) qb #[.int .i64 4, .int .i64 2, .slice (some ⟨ga, 0, none⟩) 8 ca] 26 := ((z.put 0 (.int .i64 4)).put 1 (.int .i64 2)).put 2 (.slice (some ⟨ga, 0, none⟩) 8 ca)
        have hoth : ∀ {g : Nat} {vs : Array Value} {t : TypeId}, Bk x g vs t → t ≠ 26 → Bk (((x.setCell ⟨qb, 0, none⟩ (.int .i64 4)).setCell ⟨qb, 1, none⟩ (.int .i64 2)).setCell ⟨qb, 2, none⟩ (.slice (some ⟨ga, 0, none⟩) 8 ca)) g vs t := fun {g vs t} h ht => by
          have hne : (qb : Nat) ≠ g := fun e => by subst e; exact ht (h.tyk z)
          exact ((h.other ⟨qb, 0, none⟩ _ hne).other ⟨qb, 1, none⟩ _ hne).other ⟨qb, 2, none⟩ _ hne
        have hlsc : ∀ {v : Value}, LsC x v B8 → LsC (((x.setCell ⟨qb, 0, none⟩ (.int .i64 4)).setCell ⟨qb, 1, none⟩ (.int .i64 2)).setCell ⟨qb, 2, none⟩ (.slice (some ⟨ga, 0, none⟩) 8 ca)) v B8 := fun {v} h => HFar2.out x qb z v _ _ _ h
        have HN : Hid (JA2 W8 gs B8 (fun j => if j = 10 then true else b j) (.pointer (some ⟨qb, 0, none⟩)) u19 u66 u67 u68 u69 u70 u71 (.tuple #[.agg #[.int .i64 4, .int .i64 2, .slice (some ⟨ga, 0, none⟩) 8 ca], .int .i64 0]) (.agg #[.int .i64 4, .int .i64 2, .slice (some ⟨ga, 0, none⟩) 8 ca]) u74 (((x.setCell ⟨qb, 0, none⟩ (.int .i64 4)).setCell ⟨qb, 1, none⟩ (.int .i64 2)).setCell ⟨qb, 2, none⟩ (.slice (some ⟨ga, 0, none⟩) 8 ca))) := by
          obtain ⟨j0, j1, j2, j3, j4, j5, j6, j7, j8, j9, j10, j11, e0⟩ := HJ.out
          exact ⟨j0, j1, j2, j3, (fun h => by obtain ⟨gx, k1, k2, k3⟩ := j4 h; exact ⟨gx, k1, k2, hoth k3 (by decide)⟩), (fun h => by obtain ⟨ga2, ca2, k1, k2⟩ := j5 h; exact ⟨ga2, ca2, k1, hlsc k2⟩), j6, j7, j8, (fun _ => ⟨qb, rfl, hq1, (fun c => by cases c), fun _ => ⟨ga, ca, rfl, hput⟩⟩), (fun _ => ⟨p9, p7⟩), j11, ((e0.setCell (p := ⟨qb, 0, none⟩) hq1 _).setCell (p := ⟨qb, 1, none⟩) hq1 _).setCell (p := ⟨qb, 2, none⟩) hq1 _⟩
        clear HJ hpre z hput hoth hlsc
        go_simp
        exact hK _ _ ⟨_, u19, u66, u67, u68, u69, u70, u71, _, _, u74, rfl, HN⟩
      · injection (show some _ = some o from ho) with ho
        subst ho
        have p8 : b 8 = true := hpre 8 (by decide +kernel)
        obtain rfl : u74 = .int .i64 0 := by obtain ⟨j0, j1, j2, j3, j4, j5, j6, j7, j8, j9, j10, j11, e0⟩ := HJ.out; exact j8 p8
        have HN : Hid (JA2 W8 gs B8 (fun j => if j = 11 then true else b j) u18 (.int .i64 0) u66 u67 u68 u69 u70 u71 u72 u73 (.int .i64 0) x) := by
          obtain ⟨j0, j1, j2, j3, j4, j5, j6, j7, j8, j9, j10, j11, e0⟩ := HJ.out
          exact ⟨j0, j1, j2, j3, j4, j5, j6, j7, j8, j9, j10, fun _ => rfl, e0⟩
        clear HJ hpre
        go_simp
        exact hK _ _ ⟨u18, _, u66, u67, u68, u69, u70, u71, u72, u73, _, rfl, HN⟩
    · intro b a x hI hall
      obtain ⟨u18, u19, u66, u67, u68, u69, u70, u71, u72, u73, u74, rfl, HJ⟩ := hI
      have hall' : ∀ i, i < 12 → b i = true := fun i hi => hall i (by simpa using hi)
      obtain ⟨j0, j1, j2, j3, j4, j5, j6, j7, j8, j9, j10, j11, e0⟩ := HJ.out
      obtain ⟨gc, cc, k1, hls⟩ := j5 (hall' 5 (by omega))
      obtain ⟨cB, rfl, hqb, _, k4⟩ := j9 (hall' 9 (by omega))
      obtain ⟨gc2, cc2, k5, hbk⟩ := k4 (hall' 10 (by omega))
      obtain rfl := j11 (hall' 11 (by omega))
      rw [k1] at k5
      injection k5 with k5
      have HF9 : Hid (AwS w wB sB gs qb ga ca x ∧ AwU x gu ou cu ∧ LsC x (.slice (some ⟨gr, 0, none⟩) 8 cr) A8 ∧ Bk x rB #[.int .i64 4, .int .i64 2, .slice (some ⟨gr, 0, none⟩) 8 cr] 26 ∧ Bk x cB #[.int .i64 4, .int .i64 2, .slice (some ⟨gc, 0, none⟩) 8 cc] 26 ∧ LsC x (.slice (some ⟨gc, 0, none⟩) 8 cc) B8) := by
        simp at k5
        obtain ⟨k7, k8⟩ := k5
        subst k7 k8
        exact ⟨HF8.out.1.below e0, HF8.out.2.1.below e0, HF8.out.2.2.1.below e0, HF8.out.2.2.2.below e0, hbk, hls⟩
      clear HJ hall hall' hls hbk k4 k5 HA2 HRc HDr2 HFar2 hqb k1 j0 j1 j2 j3 j4 j5 j6 j7 j8 j9 j10 j11 e0
      obtain ⟨c0, c1, c2⟩ := Bk.at3S HF9.out.2.2.2.2.1
      obtain ⟨l0, l1⟩ := aw_l1 HF9.out.2.1
      obtain ⟨q0, q1, q2⟩ := Bk.at3S HF9.out.1.q
      obtain ⟨r0, r1, r2⟩ := Bk.at3S HF9.out.2.2.2.1
      go_wp2_with fail
      refine (HSm.out x _ _ HF9.out.1.l HF9.out.2.2.1).mono ?_
      rintro e x10 ⟨rfl, hx10⟩
      have HF10 : Hid (Below w.heap.size w x10 ∧ Bk x10 cB #[.int .i64 4, .int .i64 2, .slice (some ⟨gc, 0, none⟩) 8 cc] 26 ∧ LsC x10 (.slice (some ⟨gc, 0, none⟩) 8 cc) B8) := ⟨(HF9.out.1.below hx10).a.lo, HF9.out.2.2.2.2.1.below hx10, HF9.out.2.2.2.2.2.below hx10⟩
      clear c0 c1 c2 l0 l1 q0 q1 q2 r0 r1 r2 HF9 hx10 HSm
      obtain ⟨c0, c1, c2⟩ := Bk.at3S HF10.out.2.1
      obtain ⟨d0, d1⟩ := aw_c3 HF10.out.2.2
      go_wp2_with fail
      refine (HCk.out x10 HF10.out.1).mono ?_
      rintro e x11 ⟨rfl, hx11⟩
      have HF11 : Hid (Below w.heap.size w x11) := (HF10.out.1).trans (hx11.mono HF10.out.1.size)
      clear c0 c1 c2 d0 d1 HF10 hx11 HCk
      go_wp2_with fail
      exact bodyPost_ret (v := .bool true) (by simp [results, Tryz.results6, go_sem]) rfl ⟨rfl, HF11.out⟩

end Go.Proofs.YtapachlhdgehjaaGreatDoor
