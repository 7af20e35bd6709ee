/-
  Texts of this claim, one behind the other: what each is about stands ahead of it.
-/
import Derived.Test.YtbghjmkgicdnoaaK19
import Derived.Deep.RegionWith
import Derived.Test.YtbghjmkgicdnoaaK1
/-
  The statements' own helpers of layer 13: r, red, fill, clip, open, of, alike.
-/
namespace Go.Proofs.Ytbghjmkgicdnoaa
open Go.RowKit

theorem Bk.at15 {W : World} {b : Nat} {a0 a1 a2 a3 a4 a5 a6 a7 a8 a9 a10 a11 a12 a13 a14 : Value} {t : TypeId} (h : Bk W b #[a0, a1, a2, a3, a4, a5, a6, a7, a8, a9, a10, a11, a12, a13, a14] t) : W.cell? ⟨b, 0, none⟩ = some a0 ∧ W.cell? ⟨b, 1, none⟩ = some a1 ∧ W.cell? ⟨b, 2, none⟩ = some a2 ∧ W.cell? ⟨b, 3, none⟩ = some a3 ∧ W.cell? ⟨b, 4, none⟩ = some a4 ∧ W.cell? ⟨b, 5, none⟩ = some a5 ∧ W.cell? ⟨b, 6, none⟩ = some a6 ∧ W.cell? ⟨b, 7, none⟩ = some a7 ∧ W.cell? ⟨b, 8, none⟩ = some a8 ∧ W.cell? ⟨b, 9, none⟩ = some a9 ∧ W.cell? ⟨b, 10, none⟩ = some a10 ∧ W.cell? ⟨b, 11, none⟩ = some a11 ∧ W.cell? ⟨b, 12, none⟩ = some a12 ∧ W.cell? ⟨b, 13, none⟩ = some a13 ∧ W.cell? ⟨b, 14, none⟩ = some a14 := ⟨by rw [h.cell]; rfl, by rw [h.cell]; rfl, by rw [h.cell]; rfl, by rw [h.cell]; rfl, by rw [h.cell]; rfl, by rw [h.cell]; rfl, by rw [h.cell]; rfl, by rw [h.cell]; rfl, by rw [h.cell]; rfl, by rw [h.cell]; rfl, by rw [h.cell]; rfl, by rw [h.cell]; rfl, by rw [h.cell]; rfl, by rw [h.cell]; rfl, by rw [h.cell]; rfl⟩
theorem Bk.put15 {W : World} {b : Nat} {a0 a1 a2 a3 a4 a5 a6 a7 a8 a9 a10 a11 a12 a13 a14 v0 v1 v2 v3 v4 v5 v6 v7 v8 v9 v10 v11 v12 v13 v14 : Value} {t : TypeId} (h : Bk W b #[a0, a1, a2, a3, a4, a5, a6, a7, a8, a9, a10, a11, a12, a13, a14] t) : Bk (((((((((((((((W.setCell ⟨b, 0, none⟩ v0).setCell ⟨b, 1, none⟩ v1).setCell ⟨b, 2, none⟩ v2).setCell ⟨b, 3, none⟩ v3).setCell ⟨b, 4, none⟩ v4).setCell ⟨b, 5, none⟩ v5).setCell ⟨b, 6, none⟩ v6).setCell ⟨b, 7, none⟩ v7).setCell ⟨b, 8, none⟩ v8).setCell ⟨b, 9, none⟩ v9).setCell ⟨b, 10, none⟩ v10).setCell ⟨b, 11, none⟩ v11).setCell ⟨b, 12, none⟩ v12).setCell ⟨b, 13, none⟩ v13).setCell ⟨b, 14, none⟩ v14) b #[v0, v1, v2, v3, v4, v5, v6, v7, v8, v9, v10, v11, v12, v13, v14] t := by
  have h0 : Bk (W.setCell ⟨b, 0, none⟩ v0) b #[v0, a1, a2, a3, a4, a5, a6, a7, a8, a9, a10, a11, a12, a13, a14] t := h.put 0 v0
  have h1 : Bk ((W.setCell ⟨b, 0, none⟩ v0).setCell ⟨b, 1, none⟩ v1) b #[v0, v1, a2, a3, a4, a5, a6, a7, a8, a9, a10, a11, a12, a13, a14] t := h0.put 1 v1
  have h2 : Bk (((W.setCell ⟨b, 0, none⟩ v0).setCell ⟨b, 1, none⟩ v1).setCell ⟨b, 2, none⟩ v2) b #[v0, v1, v2, a3, a4, a5, a6, a7, a8, a9, a10, a11, a12, a13, a14] t := h1.put 2 v2
  have h3 : Bk ((((W.setCell ⟨b, 0, none⟩ v0).setCell ⟨b, 1, none⟩ v1).setCell ⟨b, 2, none⟩ v2).setCell ⟨b, 3, none⟩ v3) b #[v0, v1, v2, v3, a4, a5, a6, a7, a8, a9, a10, a11, a12, a13, a14] t := h2.put 3 v3
  have h4 : Bk (((((W.setCell ⟨b, 0, none⟩ v0).setCell ⟨b, 1, none⟩ v1).setCell ⟨b, 2, none⟩ v2).setCell ⟨b, 3, none⟩ v3).setCell ⟨b, 4, none⟩ v4) b #[v0, v1, v2, v3, v4, a5, a6, a7, a8, a9, a10, a11, a12, a13, a14] t := h3.put 4 v4
  have h5 : Bk ((((((W.setCell ⟨b, 0, none⟩ v0).setCell ⟨b, 1, none⟩ v1).setCell ⟨b, 2, none⟩ v2).setCell ⟨b, 3, none⟩ v3).setCell ⟨b, 4, none⟩ v4).setCell ⟨b, 5, none⟩ v5) b #[v0, v1, v2, v3, v4, v5, a6, a7, a8, a9, a10, a11, a12, a13, a14] t := h4.put 5 v5
  have h6 : Bk (((((((W.setCell ⟨b, 0, none⟩ v0).setCell ⟨b, 1, none⟩ v1).setCell ⟨b, 2, none⟩ v2).setCell ⟨b, 3, none⟩ v3).setCell ⟨b, 4, none⟩ v4).setCell ⟨b, 5, none⟩ v5).setCell ⟨b, 6, none⟩ v6) b #[v0, v1, v2, v3, v4, v5, v6, a7, a8, a9, a10, a11, a12, a13, a14] t := h5.put 6 v6
  have h7 : Bk ((((((((W.setCell ⟨b, 0, none⟩ v0).setCell ⟨b, 1, none⟩ v1).setCell ⟨b, 2, none⟩ v2).setCell ⟨b, 3, none⟩ v3).setCell ⟨b, 4, none⟩ v4).setCell ⟨b, 5, none⟩ v5).setCell ⟨b, 6, none⟩ v6).setCell ⟨b, 7, none⟩ v7) b #[v0, v1, v2, v3, v4, v5, v6, v7, a8, a9, a10, a11, a12, a13, a14] t := h6.put 7 v7
  have h8 : Bk (((((((((W.setCell ⟨b, 0, none⟩ v0).setCell ⟨b, 1, none⟩ v1).setCell ⟨b, 2, none⟩ v2).setCell ⟨b, 3, none⟩ v3).setCell ⟨b, 4, none⟩ v4).setCell ⟨b, 5, none⟩ v5).setCell ⟨b, 6, none⟩ v6).setCell ⟨b, 7, none⟩ v7).setCell ⟨b, 8, none⟩ v8) b #[v0, v1, v2, v3, v4, v5, v6, v7, v8, a9, a10, a11, a12, a13, a14] t := h7.put 8 v8
  have h9 : Bk ((((((((((W.setCell ⟨b, 0, none⟩ v0).setCell ⟨b, 1, none⟩ v1).setCell ⟨b, 2, none⟩ v2).setCell ⟨b, 3, none⟩ v3).setCell ⟨b, 4, none⟩ v4).setCell ⟨b, 5, none⟩ v5).setCell ⟨b, 6, none⟩ v6).setCell ⟨b, 7, none⟩ v7).setCell ⟨b, 8, none⟩ v8).setCell ⟨b, 9, none⟩ v9) b #[v0, v1, v2, v3, v4, v5, v6, v7, v8, v9, a10, a11, a12, a13, a14] t := h8.put 9 v9
  have h10 : Bk (((((((((((W.setCell ⟨b, 0, none⟩ v0).setCell ⟨b, 1, none⟩ v1).setCell ⟨b, 2, none⟩ v2).setCell ⟨b, 3, none⟩ v3).setCell ⟨b, 4, none⟩ v4).setCell ⟨b, 5, none⟩ v5).setCell ⟨b, 6, none⟩ v6).setCell ⟨b, 7, none⟩ v7).setCell ⟨b, 8, none⟩ v8).setCell ⟨b, 9, none⟩ v9).setCell ⟨b, 10, none⟩ v10) b #[v0, v1, v2, v3, v4, v5, v6, v7, v8, v9, v10, a11, a12, a13, a14] t := h9.put 10 v10
  have h11 : Bk ((((((((((((W.setCell ⟨b, 0, none⟩ v0).setCell ⟨b, 1, none⟩ v1).setCell ⟨b, 2, none⟩ v2).setCell ⟨b, 3, none⟩ v3).setCell ⟨b, 4, none⟩ v4).setCell ⟨b, 5, none⟩ v5).setCell ⟨b, 6, none⟩ v6).setCell ⟨b, 7, none⟩ v7).setCell ⟨b, 8, none⟩ v8).setCell ⟨b, 9, none⟩ v9).setCell ⟨b, 10, none⟩ v10).setCell ⟨b, 11, none⟩ v11) b #[v0, v1, v2, v3, v4, v5, v6, v7, v8, v9, v10, v11, a12, a13, a14] t := h10.put 11 v11
  have h12 : Bk (((((((((((((W.setCell ⟨b, 0, none⟩ v0).setCell ⟨b, 1, none⟩ v1).setCell ⟨b, 2, none⟩ v2).setCell ⟨b, 3, none⟩ v3).setCell ⟨b, 4, none⟩ v4).setCell ⟨b, 5, none⟩ v5).setCell ⟨b, 6, none⟩ v6).setCell ⟨b, 7, none⟩ v7).setCell ⟨b, 8, none⟩ v8).setCell ⟨b, 9, none⟩ v9).setCell ⟨b, 10, none⟩ v10).setCell ⟨b, 11, none⟩ v11).setCell ⟨b, 12, none⟩ v12) b #[v0, v1, v2, v3, v4, v5, v6, v7, v8, v9, v10, v11, v12, a13, a14] t := h11.put 12 v12
  have h13 : Bk ((((((((((((((W.setCell ⟨b, 0, none⟩ v0).setCell ⟨b, 1, none⟩ v1).setCell ⟨b, 2, none⟩ v2).setCell ⟨b, 3, none⟩ v3).setCell ⟨b, 4, none⟩ v4).setCell ⟨b, 5, none⟩ v5).setCell ⟨b, 6, none⟩ v6).setCell ⟨b, 7, none⟩ v7).setCell ⟨b, 8, none⟩ v8).setCell ⟨b, 9, none⟩ v9).setCell ⟨b, 10, none⟩ v10).setCell ⟨b, 11, none⟩ v11).setCell ⟨b, 12, none⟩ v12).setCell ⟨b, 13, none⟩ v13) b #[v0, v1, v2, v3, v4, v5, v6, v7, v8, v9, v10, v11, v12, v13, a14] t := h12.put 13 v13
  have h14 : Bk (((((((((((((((W.setCell ⟨b, 0, none⟩ v0).setCell ⟨b, 1, none⟩ v1).setCell ⟨b, 2, none⟩ v2).setCell ⟨b, 3, none⟩ v3).setCell ⟨b, 4, none⟩ v4).setCell ⟨b, 5, none⟩ v5).setCell ⟨b, 6, none⟩ v6).setCell ⟨b, 7, none⟩ v7).setCell ⟨b, 8, none⟩ v8).setCell ⟨b, 9, none⟩ v9).setCell ⟨b, 10, none⟩ v10).setCell ⟨b, 11, none⟩ v11).setCell ⟨b, 12, none⟩ v12).setCell ⟨b, 13, none⟩ v13).setCell ⟨b, 14, none⟩ v14) b #[v0, v1, v2, v3, v4, v5, v6, v7, v8, v9, v10, v11, v12, v13, v14] t := h13.put 14 v14
  exact h14
theorem below15 {B : Nat} {w W : World} {b : Nat} {v0 v1 v2 v3 v4 v5 v6 v7 v8 v9 v10 v11 v12 v13 v14 : Value} (h : Below B w W) (hb : B ≤ b) : Below B w (((((((((((((((W.setCell ⟨b, 0, none⟩ v0).setCell ⟨b, 1, none⟩ v1).setCell ⟨b, 2, none⟩ v2).setCell ⟨b, 3, none⟩ v3).setCell ⟨b, 4, none⟩ v4).setCell ⟨b, 5, none⟩ v5).setCell ⟨b, 6, none⟩ v6).setCell ⟨b, 7, none⟩ v7).setCell ⟨b, 8, none⟩ v8).setCell ⟨b, 9, none⟩ v9).setCell ⟨b, 10, none⟩ v10).setCell ⟨b, 11, none⟩ v11).setCell ⟨b, 12, none⟩ v12).setCell ⟨b, 13, none⟩ v13).setCell ⟨b, 14, none⟩ v14) := (((((((((((((((h.setCell (p := ⟨b, 0, none⟩) hb v0).setCell (p := ⟨b, 1, none⟩) hb v1).setCell (p := ⟨b, 2, none⟩) hb v2).setCell (p := ⟨b, 3, none⟩) hb v3).setCell (p := ⟨b, 4, none⟩) hb v4).setCell (p := ⟨b, 5, none⟩) hb v5).setCell (p := ⟨b, 6, none⟩) hb v6).setCell (p := ⟨b, 7, none⟩) hb v7).setCell (p := ⟨b, 8, none⟩) hb v8).setCell (p := ⟨b, 9, none⟩) hb v9).setCell (p := ⟨b, 10, none⟩) hb v10).setCell (p := ⟨b, 11, none⟩) hb v11).setCell (p := ⟨b, 12, none⟩) hb v12).setCell (p := ⟨b, 13, none⟩) hb v13).setCell (p := ⟨b, 14, none⟩) hb v14)

/-- A rectangle. -/
theorem zr_any (x y n m : Int) (w : World) : Calls Try.prog 8 #[.int .i64 x, .int .i64 y, .int .i64 n, .int .i64 m] w fun e w' => e = .returned (.agg #[.int .i64 x, .int .i64 y, .int .i64 n, .int .i64 m]) ∧ Below w.heap.size w w' := by
  go_enter Try.func8, Try.ntmps8
  obtain ⟨c0, c1, c2, c3⟩ := (Bk.new w #[.int .i64 x, .int .i64 y, .int .i64 n, .int .i64 m] 27).at4
  go_wp2
  exact bodyPost_ret (v := .agg #[.int .i64 x, .int .i64 y, .int .i64 n, .int .i64 m]) (by simp [results, Try.results8, go_sem, c0, c1, c2, c3]) rfl ⟨rfl, (Below.refl _ w).alloc (Nat.le_refl _) _⟩

theorem red_any (w : World) : Calls Try.prog 14 #[] w fun e w' => e = .returned (.agg #[.int .u8 255, .int .u8 0, .int .u8 0, .int .u8 255]) ∧ Below w.heap.size w w' := by
  go_enter Try.func14, Try.ntmps14
  obtain ⟨c0, c1, c2, c3⟩ := (Bk.new w #[.int .u8 255, .int .u8 0, .int .u8 0, .int .u8 255] 29).at4
  go_wp2
  exact bodyPost_ret (v := .agg #[.int .u8 255, .int .u8 0, .int .u8 0, .int .u8 255]) (by simp [results, Try.results14, go_sem, c0, c1, c2, c3]) rfl ⟨rfl, (Below.refl _ w).alloc (Nat.le_refl _) _⟩

def filS (r : Rc) : St := ⟨1, r, ⟨255, 0, 0, 255⟩, ⟨0, 0, 0, 0⟩, ByteArray.empty, 0⟩
def clpS (r : Rc) : St := ⟨4, r, ⟨0, 0, 0, 0⟩, ⟨0, 0, 0, 0⟩, ByteArray.empty, 0⟩
def opeZ : St := ⟨5, ⟨0, 0, 0, 0⟩, ⟨0, 0, 0, 0⟩, ⟨0, 0, 0, 0⟩, ByteArray.empty, 0⟩

theorem ope_any (w : World) : Calls Try.prog 12 #[] w fun e w' => e = .returned (Value.agg #[.int .u8 opeZ.k, .int .i64 opeZ.r.x, .int .i64 opeZ.r.y, .int .i64 opeZ.r.w, .int .i64 opeZ.r.h, .int .u8 opeZ.c.r, .int .u8 opeZ.c.g, .int .u8 opeZ.c.b, .int .u8 opeZ.c.a, .int .u8 opeZ.b.r, .int .u8 opeZ.b.g, .int .u8 opeZ.b.b, .int .u8 opeZ.b.a, .string opeZ.t, .int .i64 opeZ.n]) ∧ Below w.heap.size w w' := by
  go_enter Try.func12, Try.ntmps12
  go_wp2
  exact bodyPost_ret (v := .agg #[.int .u8 5, .int .i64 0, .int .i64 0, .int .i64 0, .int .i64 0, .int .u8 0, .int .u8 0, .int .u8 0, .int .u8 0, .int .u8 0, .int .u8 0, .int .u8 0, .int .u8 0, .string ByteArray.empty, .int .i64 0]) (by simp [results, Try.results12, go_sem]; rfl) rfl ⟨rfl, (Below.refl _ w).alloc (Nat.le_refl _) _⟩

theorem clip_any (r : Rc) (w : World) : Calls Try.prog 9 #[.agg #[.int .i64 r.x, .int .i64 r.y, .int .i64 r.w, .int .i64 r.h]] w fun e w' => e = .returned (Value.agg #[.int .u8 (clpS r).k, .int .i64 (clpS r).r.x, .int .i64 (clpS r).r.y, .int .i64 (clpS r).r.w, .int .i64 (clpS r).r.h, .int .u8 (clpS r).c.r, .int .u8 (clpS r).c.g, .int .u8 (clpS r).c.b, .int .u8 (clpS r).c.a, .int .u8 (clpS r).b.r, .int .u8 (clpS r).b.g, .int .u8 (clpS r).b.b, .int .u8 (clpS r).b.a, .string (clpS r).t, .int .i64 (clpS r).n]) ∧ Below w.heap.size w w' := by
  go_enter Try.func9, Try.ntmps9
  have HB : Hid (Below w.heap.size w ((w.alloc (.cells #[.int .i64 r.x, .int .i64 r.y, .int .i64 r.w, .int .i64 r.h] 27)).alloc (.cells #[.int .u8 4, .int .i64 r.x, .int .i64 r.y, .int .i64 r.w, .int .i64 r.h, .int .u8 0, .int .u8 0, .int .u8 0, .int .u8 0, .int .u8 0, .int .u8 0, .int .u8 0, .int .u8 0, .string ByteArray.empty, .int .i64 0] 31))) := ((Below.refl _ w).alloc (Nat.le_refl _) _).alloc (by simp) _
  go_wp2
  exact bodyPost_ret (v := .agg #[.int .u8 4, .int .i64 r.x, .int .i64 r.y, .int .i64 r.w, .int .i64 r.h, .int .u8 0, .int .u8 0, .int .u8 0, .int .u8 0, .int .u8 0, .int .u8 0, .int .u8 0, .int .u8 0, .string ByteArray.empty, .int .i64 0]) (by simp [results, Try.results9, go_sem]; rfl) rfl ⟨rfl, HB.out⟩

set_option maxHeartbeats 2000000 in
theorem fill_any (r : Rc) (w : World) : Calls Try.prog 7 #[.agg #[.int .i64 r.x, .int .i64 r.y, .int .i64 r.w, .int .i64 r.h]] w fun e w' => e = .returned (Value.agg #[.int .u8 (filS r).k, .int .i64 (filS r).r.x, .int .i64 (filS r).r.y, .int .i64 (filS r).r.w, .int .i64 (filS r).r.h, .int .u8 (filS r).c.r, .int .u8 (filS r).c.g, .int .u8 (filS r).c.b, .int .u8 (filS r).c.a, .int .u8 (filS r).b.r, .int .u8 (filS r).b.g, .int .u8 (filS r).b.b, .int .u8 (filS r).b.a, .string (filS r).t, .int .i64 (filS r).n]) ∧ Below w.heap.size w w' := by
  obtain ⟨bx, hbx⟩ : ∃ bx, bx = w.heap.size := ⟨_, rfl⟩
  obtain ⟨bs, hbs⟩ : ∃ bs, bs = w.heap.size + 1 := ⟨_, rfl⟩
  obtain ⟨W2, hW2⟩ : ∃ W2, W2 = (w.alloc (.cells #[.int .i64 r.x, .int .i64 r.y, .int .i64 r.w, .int .i64 r.h] 27)).alloc (.cells #[.int .u8 0, .int .i64 0, .int .i64 0, .int .i64 0, .int .i64 0, .int .u8 0, .int .u8 0, .int .u8 0, .int .u8 0, .int .u8 0, .int .u8 0, .int .u8 0, .int .u8 0, .string ⟨#[]⟩, .int .i64 0] 31) := ⟨_, rfl⟩
  have HA : Hid (Bk W2 bx #[.int .i64 r.x, .int .i64 r.y, .int .i64 r.w, .int .i64 r.h] 27 ∧ Bk W2 bs #[.int .u8 0, .int .i64 0, .int .i64 0, .int .i64 0, .int .i64 0, .int .u8 0, .int .u8 0, .int .u8 0, .int .u8 0, .int .u8 0, .int .u8 0, .int .u8 0, .int .u8 0, .string ⟨#[]⟩, .int .i64 0] 31 ∧ Below w.heap.size w W2 ∧ w.heap.size ≤ bs) := by
    subst hbx; subst hW2
    have hbs : bs = (w.alloc (.cells #[.int .i64 r.x, .int .i64 r.y, .int .i64 r.w, .int .i64 r.h] 27)).heap.size := by rw [hbs]; simp
    exact ⟨(Bk.new _ _ _).below ((Below.refl _ _).alloc (Nat.le_refl _) _), by rw [hbs]; exact Bk.new _ _ _, ((Below.refl _ w).alloc (Nat.le_refl _) _).alloc (by simp) _, by rw [hbs]; simp⟩
  go_enter Try.func7, Try.ntmps7
  go_wp2_with fail
  rw [← hbs, ← hbx]
  rw [← hW2]
  clear hW2 hbs hbx
  obtain ⟨x0, x1, x2, x3⟩ := HA.out.1.at4
  go_region_with (go_at_call 14; refine (red_any _).mono ?_; rintro e w3 ⟨rfl, hb3⟩; obtain ⟨hx, hs, hw, hbb⟩ := HA.out; have HB : Hid (Below w.heap.size w w3 ∧ w.heap.size ≤ bs ∧ Bk w3 bs #[.int .u8 0, .int .i64 0, .int .i64 0, .int .i64 0, .int .i64 0, .int .u8 0, .int .u8 0, .int .u8 0, .int .u8 0, .int .u8 0, .int .u8 0, .int .u8 0, .int .u8 0, .string ⟨#[]⟩, .int .i64 0] 31) := ⟨hw.trans ((below_drewN (Below.refl W2.heap.size W2)).trans hb3 |>.mono hw.size), hbb, (HA.out.2.1).below ((Below.refl _ W2).drew.trans hb3)⟩; have hs := HB.out.2.2; obtain ⟨y0, y1, y2, y3⟩ := (hx.below ((Below.refl _ W2).drew.trans hb3)).at4; obtain ⟨z0, z1, z2, z3, z4, z5, z6, z7, z8, z9, z10, z11, z12, z13, z14⟩ := hs.at15; have f0 := hs.frozen 0; have f1 := hs.frozen 1; have f2 := hs.frozen 2; have f3 := hs.frozen 3; have f4 := hs.frozen 4; have f5 := hs.frozen 5; have f6 := hs.frozen 6; have f7 := hs.frozen 7; have f8 := hs.frozen 8; have f9 := hs.frozen 9; have f10 := hs.frozen 10; have f11 := hs.frozen 11; have f12 := hs.frozen 12; have f13 := hs.frozen 13; have f14 := hs.frozen 14; clear hx hs hw hb3)
  all_goals
    go_wp2
    have HF : Hid (Bk (((((((((((((((w3.setCell ⟨bs, 0, none⟩ (.int .u8 1)).setCell ⟨bs, 1, none⟩ (.int .i64 r.x)).setCell ⟨bs, 2, none⟩ (.int .i64 r.y)).setCell ⟨bs, 3, none⟩ (.int .i64 r.w)).setCell ⟨bs, 4, none⟩ (.int .i64 r.h)).setCell ⟨bs, 5, none⟩ (.int .u8 255)).setCell ⟨bs, 6, none⟩ (.int .u8 0)).setCell ⟨bs, 7, none⟩ (.int .u8 0)).setCell ⟨bs, 8, none⟩ (.int .u8 255)).setCell ⟨bs, 9, none⟩ (.int .u8 0)).setCell ⟨bs, 10, none⟩ (.int .u8 0)).setCell ⟨bs, 11, none⟩ (.int .u8 0)).setCell ⟨bs, 12, none⟩ (.int .u8 0)).setCell ⟨bs, 13, none⟩ (.string ⟨#[]⟩)).setCell ⟨bs, 14, none⟩ (.int .i64 0)) bs #[.int .u8 1, .int .i64 r.x, .int .i64 r.y, .int .i64 r.w, .int .i64 r.h, .int .u8 255, .int .u8 0, .int .u8 0, .int .u8 255, .int .u8 0, .int .u8 0, .int .u8 0, .int .u8 0, .string ⟨#[]⟩, .int .i64 0] 31 ∧ Below w.heap.size w (((((((((((((((w3.setCell ⟨bs, 0, none⟩ (.int .u8 1)).setCell ⟨bs, 1, none⟩ (.int .i64 r.x)).setCell ⟨bs, 2, none⟩ (.int .i64 r.y)).setCell ⟨bs, 3, none⟩ (.int .i64 r.w)).setCell ⟨bs, 4, none⟩ (.int .i64 r.h)).setCell ⟨bs, 5, none⟩ (.int .u8 255)).setCell ⟨bs, 6, none⟩ (.int .u8 0)).setCell ⟨bs, 7, none⟩ (.int .u8 0)).setCell ⟨bs, 8, none⟩ (.int .u8 255)).setCell ⟨bs, 9, none⟩ (.int .u8 0)).setCell ⟨bs, 10, none⟩ (.int .u8 0)).setCell ⟨bs, 11, none⟩ (.int .u8 0)).setCell ⟨bs, 12, none⟩ (.int .u8 0)).setCell ⟨bs, 13, none⟩ (.string ⟨#[]⟩)).setCell ⟨bs, 14, none⟩ (.int .i64 0))) := ⟨HB.out.2.2.put15, below15 HB.out.1 HB.out.2.1⟩
    generalize (((((((((((((((w3.setCell ⟨bs, 0, none⟩ (.int .u8 1)).setCell ⟨bs, 1, none⟩ (.int .i64 r.x)).setCell ⟨bs, 2, none⟩ (.int .i64 r.y)).setCell ⟨bs, 3, none⟩ (.int .i64 r.w)).setCell ⟨bs, 4, none⟩ (.int .i64 r.h)).setCell ⟨bs, 5, none⟩ (.int .u8 255)).setCell ⟨bs, 6, none⟩ (.int .u8 0)).setCell ⟨bs, 7, none⟩ (.int .u8 0)).setCell ⟨bs, 8, none⟩ (.int .u8 255)).setCell ⟨bs, 9, none⟩ (.int .u8 0)).setCell ⟨bs, 10, none⟩ (.int .u8 0)).setCell ⟨bs, 11, none⟩ (.int .u8 0)).setCell ⟨bs, 12, none⟩ (.int .u8 0)).setCell ⟨bs, 13, none⟩ (.string ⟨#[]⟩)).setCell ⟨bs, 14, none⟩ (.int .i64 0)) = WF at *
    obtain ⟨c0, c1, c2, c3, c4, c5, c6, c7, c8, c9, c10, c11, c12, c13, c14⟩ := HF.out.1.at15
    exact bodyPost_ret (v := .agg #[.int .u8 1, .int .i64 r.x, .int .i64 r.y, .int .i64 r.w, .int .i64 r.h, .int .u8 255, .int .u8 0, .int .u8 0, .int .u8 255, .int .u8 0, .int .u8 0, .int .u8 0, .int .u8 0, .string ⟨#[]⟩, .int .i64 0]) (by simp [results, Try.results7, go_sem, c0, c1, c2, c3, c4, c5, c6, c7, c8, c9, c10, c11, c12, c13, c14]) rfl ⟨rfl, HF.out.2⟩

theorem ofS_any (v : Value) (w : World) : Calls Try.prog 11 #[v] w fun e w' => e = .returned v ∧ w' = w := by
  go_enter Try.func11, Try.ntmps11
  go_wp2
  go_ret
  exact ⟨rfl, rfl⟩


set_option maxRecDepth 20000 in
set_option maxHeartbeats 4000000 in
theorem alikS_any (a b : List St) (va vb : Value) (w : World) (ha : LsS w va a) (hb : LsS w vb b) (hl : a.length < 1000000) :
    Calls Try.prog 31 #[va, vb] w fun e w' => e = .returned (.bool (samZ a b)) ∧ Below w.heap.size w w' := by
  obtain ⟨oa, ca, rfl, hca, hga⟩ := ha
  obtain ⟨ob, cb, rfl, hcb, hgb⟩ := hb
  by_cases hn : a.length = b.length
  case neg =>
    have hn' : ((a.length : Int) == (b.length : Int)) = false := beq_eq_false_iff_ne.2 (by omega)
    rw [samZ_no (fun h => hn (by rw [h]))]
    clear hga hgb hn
    go_enter Try.func31, Try.ntmps31
    go_wp2
    go_ret
    exact ⟨rfl, Below.refl _ _⟩
  case pos =>
    have HA : Hid (0 < a.length → ∃ g o, oa = some ⟨g, o, none⟩ ∧ g < w.heap.size ∧ ∀ i (h : i < a.length), StAt w g (o + i * 15) a[i]) := hga
    have HB : Hid (0 < b.length → ∃ g o, ob = some ⟨g, o, none⟩ ∧ g < w.heap.size ∧ ∀ i (h : i < b.length), StAt w g (o + i * 15) b[i]) := hgb
    obtain ⟨R, HR⟩ : ∃ R, Hid (samZ a b = R) := ⟨_, rfl⟩
    rw [HR.out]
    have HN : Hid (a.length = b.length) := hn
    obtain ⟨m, hm⟩ : ∃ m, m = b.length := ⟨_, rfl⟩
    have hm2 : a.length = m := by rw [hm]; exact hn
    have HM : Hid (b.length = m ∧ a.length = m) := ⟨hm.symm, hm2⟩
    rw [← hm]
    rw [hm2]
    rw [hm2] at hl
    clear hga hgb hn hm hm2 hca hcb
    go_enter Try.func31, Try.ntmps31
    go_wp2_with fail
    go_loopw [5] (fun i wr => ∃ k : Nat, k ≤ m ∧ i = .int .i64 k ∧ Hid ((∀ j, j < k → a[j]? = b[j]?) ∧ Below w.heap.size w wr)) (fun i _ => m - (intOf i).toNat)
    case atStart => exact ⟨0, Nat.zero_le _, rfl, fun j hj => absurd hj (Nat.not_lt_zero _), Below.refl _ _⟩
    case round =>
      obtain ⟨k, hk, rfl, HK⟩ := hrel
      by_cases hlt : k < m
      · have ik : (k : Int) < m := by omega
        have hla : k < a.length := by rw [HM.out.2]; exact hlt
        have hlb : k < b.length := by rw [HM.out.1]; exact hlt
        obtain ⟨g, o, rfl, hg, hat⟩ := HA.out (by omega)
        obtain ⟨g', o', rfl, hg', hat'⟩ := HB.out (by omega)
        have hx := (hat k hla).kept (w' := wr) fun j => HK.out.2.cell (p := ⟨g, j, none⟩) hg
        have hy := (hat' k hlb).kept (w' := wr) fun j => HK.out.2.cell (p := ⟨g', j, none⟩) hg'
        have HE : Hid (a[k]? = some a[k] ∧ b[k]? = some b[k]) := ⟨List.getElem?_eq_getElem hla, List.getElem?_eq_getElem hlb⟩
        clear hat hat'
        generalize a[k] = x at *
        generalize b[k] = y at *
        obtain ⟨x0, x1, x2, x3, x4, x5, x6, x7, x8, x9, x10, x11, x12, x13, x14⟩ := hx
        obtain ⟨y0, y1, y2, y3, y4, y5, y6, y7, y8, y9, y10, y11, y12, y13, y14⟩ := hy
        have hq := neq_stroke x y
        cases ht : eqS x y
        · have HF : Hid (R = false ∧ Below w.heap.size w wr) := by
            refine ⟨?_, HK.out.2⟩
            rw [← HR.out]
            refine samZ_no fun e => ?_
            have h1 := HE.out.1
            rw [e, HE.out.2] at h1
            injection h1 with h1
            rw [h1, eqS_self] at ht
            cases ht
          rw [ht] at hq
          clear HK HE ht hla hlb
          go_wp2_with fail
          go_quiet (fail)
          go_wp2
          go_ret
          exact ⟨by rw [HF.out.1]; rfl, below_drewN HF.out.2⟩
        · have HF : Hid ((∀ j, j < k + 1 → a[j]? = b[j]?) ∧ Below w.heap.size w wr) := by
            refine ⟨fun j hj => ?_, HK.out.2⟩
            by_cases hjk : j = k
            · subst hjk; rw [HE.out.1, HE.out.2, (eqS_iff x y).1 ht]
            · exact HK.out.1 j (by omega)
          rw [ht] at hq
          clear HK HE ht hla hlb
          go_wp2_with fail
          go_quiet (fail)
          go_wp2
          go_roundw
          case rel => exact ⟨k + 1, by omega, by go_num, HF.out.1, below_drewN HF.out.2⟩
          case measure => simp [intOf]; omega
      · obtain rfl : k = m := by omega
        have HF : Hid (R = true ∧ Below w.heap.size w wr) := by
          refine ⟨?_, HK.out.2⟩
          rw [← HR.out, samZ_iff]
          refine List.ext_getElem? fun j => ?_
          by_cases hj : j < k
          · exact HK.out.1 j hj
          · rw [List.getElem?_eq_none (by have := HM.out.2; omega), List.getElem?_eq_none (by have := HM.out.1; omega)]
        clear HK
        go_wp2
        go_ret
        exact ⟨by rw [HF.out.1]; rfl, HF.out.2⟩


end Go.Proofs.Ytbghjmkgicdnoaa

/-
  The statements' own alive of layer 13, over what is asked of package list.
-/
namespace Go.Proofs.Ytbghjmkgicdnoaa
open Go.RowKit

theorem lss_lit (w : World) (xs : List St) (t : TypeId) : LsS (w.alloc (.cells (flatZ xs).toArray t)) (.slice (some ⟨w.heap.size, 0, none⟩) xs.length xs.length) xs := by
  refine ⟨_, _, rfl, Nat.le_refl _, fun _ => ⟨w.heap.size, 0, rfl, by simp, fun i hi => ?_⟩⟩
  rw [stat_iff]
  intro j hj
  rw [Nat.zero_add, (Bk.new w (flatZ xs).toArray t).cell, List.getElem?_toArray]
  exact flatZ_at xs i hi j hj

theorem wfs_fil (x y n m : Int) (h : I64 x ∧ I64 y ∧ I64 n ∧ I64 m) : WfS (filS ⟨x, y, n, m⟩) := by
  refine ⟨⟨?_, ?_⟩, h, ?_, ?_, ?_, ?_⟩ <;> simp [filS, Co.ok, By, I64]
theorem wfs_clp (x y n m : Int) (h : I64 x ∧ I64 y ∧ I64 n ∧ I64 m) : WfS (clpS ⟨x, y, n, m⟩) := by
  refine ⟨⟨?_, ?_⟩, h, ?_, ?_, ?_, ?_⟩ <;> simp [clpS, Co.ok, By, I64]
theorem wfs_ope : WfS opeZ := by
  refine ⟨⟨?_, ?_⟩, ⟨?_, ?_, ?_, ?_⟩, ?_, ?_, ?_, ?_⟩ <;> simp [opeZ, Co.ok, By, I64]

theorem al_chk1 : chkS [clpS ⟨0, 0, 2, 2⟩, filS ⟨0, 0, 4, 4⟩, opeZ] = 0 := by decide +kernel
theorem al_chk2 : chkS [filS ⟨1, 1, 1, 1⟩, filS ⟨0, 0, 4, 4⟩] = 0 := by decide +kernel
theorem al_fla1 : fla1 [clpS ⟨0, 0, 2, 2⟩, filS ⟨0, 0, 4, 4⟩, opeZ] = [filS ⟨0, 0, 4, 4⟩] := by kernel_rfl
theorem al_fla2 : fla2 [clpS ⟨0, 0, 2, 2⟩, filS ⟨0, 0, 4, 4⟩, opeZ] = [⟨0, 0, 2, 2⟩] := by kernel_rfl
theorem al_nor : norE [filS ⟨1, 1, 1, 1⟩, filS ⟨0, 0, 4, 4⟩] = [filS ⟨0, 0, 4, 4⟩] := by kernel_rfl

set_option maxRecDepth 20000 in
set_option maxHeartbeats 8000000 in
theorem alive13_any (CF : LFlat) (CN : LNorm) (w : World) : Calls Try.prog 20 #[] w fun e w' => e = .returned (.bool true) ∧ Below w.heap.size w w' := by
  obtain ⟨s1, h1⟩ : ∃ s, s = clpS ⟨0, 0, 2, 2⟩ := ⟨_, rfl⟩
  obtain ⟨s2, h2⟩ : ∃ s, s = filS ⟨0, 0, 4, 4⟩ := ⟨_, rfl⟩
  obtain ⟨s3, h3⟩ : ∃ s, s = opeZ := ⟨_, rfl⟩
  obtain ⟨s4, h4⟩ : ∃ s, s = filS ⟨1, 1, 1, 1⟩ := ⟨_, rfl⟩
  have H1 : Hid (∀ W, Calls Try.prog 9 #[.agg #[.int .i64 0, .int .i64 0, .int .i64 2, .int .i64 2]] W fun e w' => e = .returned (Value.agg #[.int .u8 s1.k, .int .i64 s1.r.x, .int .i64 s1.r.y, .int .i64 s1.r.w, .int .i64 s1.r.h, .int .u8 s1.c.r, .int .u8 s1.c.g, .int .u8 s1.c.b, .int .u8 s1.c.a, .int .u8 s1.b.r, .int .u8 s1.b.g, .int .u8 s1.b.b, .int .u8 s1.b.a, .string s1.t, .int .i64 s1.n]) ∧ Below W.heap.size W w') := fun W => by rw [h1]; exact clip_any ⟨0, 0, 2, 2⟩ W
  have H2 : Hid (∀ W, Calls Try.prog 7 #[.agg #[.int .i64 0, .int .i64 0, .int .i64 4, .int .i64 4]] W fun e w' => e = .returned (Value.agg #[.int .u8 s2.k, .int .i64 s2.r.x, .int .i64 s2.r.y, .int .i64 s2.r.w, .int .i64 s2.r.h, .int .u8 s2.c.r, .int .u8 s2.c.g, .int .u8 s2.c.b, .int .u8 s2.c.a, .int .u8 s2.b.r, .int .u8 s2.b.g, .int .u8 s2.b.b, .int .u8 s2.b.a, .string s2.t, .int .i64 s2.n]) ∧ Below W.heap.size W w') := fun W => by rw [h2]; exact fill_any ⟨0, 0, 4, 4⟩ W
  have H3 : Hid (∀ W, Calls Try.prog 12 #[] W fun e w' => e = .returned (Value.agg #[.int .u8 s3.k, .int .i64 s3.r.x, .int .i64 s3.r.y, .int .i64 s3.r.w, .int .i64 s3.r.h, .int .u8 s3.c.r, .int .u8 s3.c.g, .int .u8 s3.c.b, .int .u8 s3.c.a, .int .u8 s3.b.r, .int .u8 s3.b.g, .int .u8 s3.b.b, .int .u8 s3.b.a, .string s3.t, .int .i64 s3.n]) ∧ Below W.heap.size W w') := fun W => by rw [h3]; exact ope_any W
  have H4 : Hid (∀ W, Calls Try.prog 7 #[.agg #[.int .i64 1, .int .i64 1, .int .i64 1, .int .i64 1]] W fun e w' => e = .returned (Value.agg #[.int .u8 s4.k, .int .i64 s4.r.x, .int .i64 s4.r.y, .int .i64 s4.r.w, .int .i64 s4.r.h, .int .u8 s4.c.r, .int .u8 s4.c.g, .int .u8 s4.c.b, .int .u8 s4.c.a, .int .u8 s4.b.r, .int .u8 s4.b.g, .int .u8 s4.b.b, .int .u8 s4.b.a, .string s4.t, .int .i64 s4.n]) ∧ Below W.heap.size W w') := fun W => by rw [h4]; exact fill_any ⟨1, 1, 1, 1⟩ W
  have HP : Hid ((chkS [s1, s2, s3] = 0 ∧ fla1 [s1, s2, s3] = [s2] ∧ fla2 [s1, s2, s3] = [⟨0, 0, 2, 2⟩] ∧ chkS [s4, s2] = 0 ∧ norE [s4, s2] = [s2]) ∧ s2.r = ⟨0, 0, 4, 4⟩ ∧ Wfs [s1, s2, s3] ∧ Wfs [s4, s2]) := by
    have i : ∀ n : Nat, n ≤ 4 → I64 (n : Int) := fun n h => ⟨by omega, by omega⟩
    have w1 : WfS s1 := by rw [h1]; exact wfs_clp _ _ _ _ ⟨i 0 (by decide), i 0 (by decide), i 2 (by decide), i 2 (by decide)⟩
    have w2 : WfS s2 := by rw [h2]; exact wfs_fil _ _ _ _ ⟨i 0 (by decide), i 0 (by decide), i 4 (by decide), i 4 (by decide)⟩
    have w3 : WfS s3 := by rw [h3]; exact wfs_ope
    have w4 : WfS s4 := by rw [h4]; exact wfs_fil _ _ _ _ ⟨i 1 (by decide), i 1 (by decide), i 1 (by decide), i 1 (by decide)⟩
    refine ⟨?_, by rw [h2]; rfl, fun s hs => ?_, fun s hs => ?_⟩
    · rw [h1, h2, h3, h4]
      exact ⟨al_chk1, al_fla1, al_fla2, al_chk2, al_nor⟩
    · simp only [List.mem_cons, List.not_mem_nil, or_false] at hs
      rcases hs with rfl | rfl | rfl <;> assumption
    · simp only [List.mem_cons, List.not_mem_nil, or_false] at hs
      rcases hs with rfl | rfl <;> assumption
  have HC : Hid (LFlat ∧ LNorm) := ⟨CF, CN⟩
  clear h1 h2 h3 h4 CF CN
  go_enter Try.func20, Try.ntmps20
  go_wp2_with fail
  refine (zr_any 0 0 2 2 _).mono ?_
  rintro e w1 ⟨rfl, hb⟩
  have B1 : Hid (Below w.heap.size w w1) := hb
  clear hb
  go_wp2_with fail
  refine (H1.out _).mono ?_
  rintro e w2 ⟨rfl, hb⟩
  have B2 : Hid (Below w.heap.size w w2) := B1.out.trans (hb.mono B1.out.size)
  clear hb B1
  go_wp2_with fail
  refine (zr_any 0 0 4 4 _).mono ?_
  rintro e w3 ⟨rfl, hb⟩
  have B3 : Hid (Below w.heap.size w w3) := B2.out.trans (hb.mono B2.out.size)
  clear hb B2
  go_wp2_with fail
  refine (H2.out _).mono ?_
  rintro e w4 ⟨rfl, hb⟩
  have B4 : Hid (Below w.heap.size w w4) := B3.out.trans (hb.mono B3.out.size)
  clear hb B3
  go_wp2_with fail
  refine (H3.out _).mono ?_
  rintro e w5 ⟨rfl, hb⟩
  have B5 : Hid (Below w.heap.size w w5) := B4.out.trans (hb.mono B4.out.size)
  have L5 : Hid (LsS (w5.alloc (.cells (flatZ [s1, s2, s3]).toArray 31)) (.slice (some ⟨w5.heap.size, 0, none⟩) 3 3) [s1, s2, s3]) := lss_lit w5 [s1, s2, s3] _
  clear hb B4
  go_wp2_with fail
  refine (ofS_any _ _).mono ?_
  rintro e w6 ⟨rfl, rfl⟩
  go_wp2_with fail
  refine (HC.out.1 [s1, s2, s3] _ _ L5.out HP.out.2.2.1).mono ?_
  rintro e w7 ⟨a, b, rfl, hab⟩
  have H7 : Hid (OwS 0 w7 a [s2] ∧ OwR 0 w7 b [⟨0, 0, 2, 2⟩] ∧ Below w.heap.size w w7) := by
    obtain ⟨q1, q2, _, q4⟩ := hab.out
    rw [HP.out.1.2.1] at q1
    rw [HP.out.1.2.2.1] at q2
    have b6 := B5.out.alloc B5.out.size (.cells (flatZ [s1, s2, s3]).toArray 31)
    exact ⟨q1.weaken (Nat.zero_le _), q2.weaken (Nat.zero_le _), b6.trans (q4.mono b6.size)⟩
  rw [HP.out.1.1]
  clear hab L5 B5
  obtain ⟨oa, ca, rfl, hca, hoa⟩ := row_val H7.out.1
  obtain ⟨ga, rfl, -, -⟩ := hoa (by simp)
  obtain ⟨ob, cb, rfl, hcb, hob⟩ := row_val H7.out.2.1
  obtain ⟨gb, rfl, -, -⟩ := hob (by simp)
  clear hoa hob
  go_wp2_with fail
  refine (zr_any 1 1 1 1 _).mono ?_
  rintro e w8 ⟨rfl, hb⟩
  have H8 : Hid (OwS 0 w8 (.slice (some ⟨ga, 0, none⟩) 1 ca) [s2] ∧ OwR 0 w8 (.slice (some ⟨gb, 0, none⟩) 1 cb) [⟨0, 0, 2, 2⟩] ∧ Below w.heap.size w w8) := ⟨H7.out.1.below hb, H7.out.2.1.below hb, H7.out.2.2.trans (hb.mono H7.out.2.2.size)⟩
  clear hb H7
  go_wp2_with fail
  refine (H4.out _).mono ?_
  rintro e w9 ⟨rfl, hb⟩
  have H9 : Hid (OwS 0 w9 (.slice (some ⟨ga, 0, none⟩) 1 ca) [s2] ∧ OwR 0 w9 (.slice (some ⟨gb, 0, none⟩) 1 cb) [⟨0, 0, 2, 2⟩] ∧ Below w.heap.size w w9) := ⟨H8.out.1.below hb, H8.out.2.1.below hb, H8.out.2.2.trans (hb.mono H8.out.2.2.size)⟩
  clear hb H8
  go_wp2_with fail
  refine (zr_any 0 0 4 4 _).mono ?_
  rintro e w10 ⟨rfl, hb⟩
  have H10 : Hid (OwS 0 w10 (.slice (some ⟨ga, 0, none⟩) 1 ca) [s2] ∧ OwR 0 w10 (.slice (some ⟨gb, 0, none⟩) 1 cb) [⟨0, 0, 2, 2⟩] ∧ Below w.heap.size w w10) := ⟨H9.out.1.below hb, H9.out.2.1.below hb, H9.out.2.2.trans (hb.mono H9.out.2.2.size)⟩
  clear hb H9
  go_wp2_with fail
  refine (H2.out _).mono ?_
  rintro e w11 ⟨rfl, hb⟩
  have H11 : Hid (OwS 0 w11 (.slice (some ⟨ga, 0, none⟩) 1 ca) [s2] ∧ OwR 0 w11 (.slice (some ⟨gb, 0, none⟩) 1 cb) [⟨0, 0, 2, 2⟩] ∧ Below w.heap.size w w11) := ⟨H10.out.1.below hb, H10.out.2.1.below hb, H10.out.2.2.trans (hb.mono H10.out.2.2.size)⟩
  clear hb H10
  have L11 : Hid (LsS (w11.alloc (.cells (flatZ [s4, s2]).toArray 31)) (.slice (some ⟨w11.heap.size, 0, none⟩) 2 2) [s4, s2]) := lss_lit w11 [s4, s2] _
  go_wp2_with fail
  refine (ofS_any _ _).mono ?_
  rintro e w12 ⟨rfl, rfl⟩
  go_wp2_with fail
  refine (HC.out.2 [s4, s2] _ _ L11.out HP.out.2.2.2).mono ?_
  rintro e w13 ⟨c, rfl, hcc⟩
  have H13 : Hid (OwR 0 w13 (.slice (some ⟨gb, 0, none⟩) 1 cb) [⟨0, 0, 2, 2⟩] ∧ OwS 0 w13 c [s2] ∧ Below w.heap.size w w13) := by
    obtain ⟨q1, q4⟩ := hcc.out
    rw [HP.out.1.2.2.2.2] at q1
    have b6 := H11.out.2.2.alloc H11.out.2.2.size (.cells (flatZ [s4, s2]).toArray 31)
    have b7 := (Below.refl w11.heap.size w11).alloc (Nat.le_refl _) (.cells (flatZ [s4, s2]).toArray 31)
    exact ⟨(H11.out.2.1.below b7).below q4, q1.weaken (Nat.zero_le _), b6.trans (q4.mono b6.size)⟩
  rw [HP.out.1.2.2.2.1]
  clear hcc L11 H11
  obtain ⟨oc, cc, rfl, hcc, hoc⟩ := row_val H13.out.2.1
  obtain ⟨gc, rfl, -, -⟩ := hoc (by simp)
  clear hoc
  have ne := gw_ne (Below.refl 0 w13)
  have hR := fun t : Gw w13 => H13.out.1.below t.below
  have hS := fun t : Gw w13 => H13.out.2.1.below t.below
  have x0 := fun t : Gw w13 => own_cell (hR t) 0 (by decide)
  have x1 := fun t : Gw w13 => own_cell (hR t) 1 (by decide)
  have x2 := fun t : Gw w13 => own_cell (hR t) 2 (by decide)
  have x3 := fun t : Gw w13 => own_cell (hR t) 3 (by decide)
  have y1 : ∀ t : Gw w13, t.wd.cell? ⟨gc, 1, none⟩ = some (.int .i64 0) := fun t => (own_cell (hS t) 1 (by simp)).trans (by show some (Value.int .i64 s2.r.x) = _; rw [HP.out.2.1])
  have y2 : ∀ t : Gw w13, t.wd.cell? ⟨gc, 2, none⟩ = some (.int .i64 0) := fun t => (own_cell (hS t) 2 (by simp)).trans (by show some (Value.int .i64 s2.r.y) = _; rw [HP.out.2.1])
  have y3 : ∀ t : Gw w13, t.wd.cell? ⟨gc, 3, none⟩ = some (.int .i64 4) := fun t => (own_cell (hS t) 3 (by simp)).trans (by show some (Value.int .i64 s2.r.w) = _; rw [HP.out.2.1])
  have y4 : ∀ t : Gw w13, t.wd.cell? ⟨gc, 4, none⟩ = some (.int .i64 4) := fun t => (own_cell (hS t) 4 (by simp)).trans (by show some (Value.int .i64 s2.r.h) = _; rw [HP.out.2.1])
  replace x0 : ∀ t : Gw w13, t.wd.cell? ⟨gb, 0, none⟩ = some (.int .i64 0) := x0
  replace x1 : ∀ t : Gw w13, t.wd.cell? ⟨gb, 1, none⟩ = some (.int .i64 0) := x1
  replace x2 : ∀ t : Gw w13, t.wd.cell? ⟨gb, 2, none⟩ = some (.int .i64 2) := x2
  replace x3 : ∀ t : Gw w13, t.wd.cell? ⟨gb, 3, none⟩ = some (.int .i64 2) := x3
  have HZ : Hid (∀ t : Gw w13, Below w.heap.size w t.wd) := fun t => H13.out.2.2.trans (t.below.mono H13.out.2.2.size)
  clear hR hS H1 H2 H3 H4 HP HC H13
  simp only [List.length_cons, List.length_nil, Nat.zero_add] at hca hcb hcc ⊢
  go_upto_region 3 with fail
  refine wp_region_gw (by kernel_rfl) (by kernel_rfl) ?_
  repeat (go_big_quiet_step (first
    | (go_at_call 8; exact gw_call (zr_any _ _ _ _ _))))
  refine wpQuiet_nil ?_
  rintro _ ⟨tt, rfl⟩
  have HB := HZ.out tt
  go_wp2
  go_ret
  exact ⟨rfl, HB⟩

end Go.Proofs.Ytbghjmkgicdnoaa

/-
  There and back: the plain mathematics of moving, of a size in itself, of what is smaller on all sides.
-/
namespace Go.Proofs.Ytbghjmkgicdnoaa

theorem may_mk {x y w h : Int} (h1 : 0 ≤ w ∧ -16384 ≤ x ∧ w ≤ 16384 - x) (h2 : 0 ≤ h ∧ -16384 ≤ y ∧ h ≤ 16384 - y) : mayB x y w h = true := may_iff.2 ⟨h1, h2⟩
theorem empty_mk {x y w h : Int} (h1 : 0 < w ∧ -16384 ≤ x ∧ w ≤ 16384 - x) (h2 : 0 < h ∧ -16384 ≤ y ∧ h ≤ 16384 - y) : emptyB x y w h = false := by
  unfold emptyB
  rw [may_mk (by omega) (by omega)]
  have e1 : (w == 0) = false := beq_eq_false_iff_ne.2 (by omega)
  have e2 : (h == 0) = false := beq_eq_false_iff_ne.2 (by omega)
  rw [e1, e2]; rfl
theorem mov_cases {x y n m p q : Int} (he : emptyB x y n m = false) : (movE x y n m p q = 9) ∨
    (movE x y n m p q = 0 ∧ movR x y n m p q = ⟨x + p, y + q, n, m⟩ ∧ -32768 ≤ p ∧ p ≤ 32768 ∧ -32768 ≤ q ∧ q ≤ 32768 ∧ -16384 ≤ x + p ∧ x + p ≤ 16384 ∧ -16384 ≤ y + q ∧ y + q ≤ 16384 ∧
      movE (x + p) (y + q) n m (-p) (-q) = 0 ∧ movR (x + p) (y + q) n m (-p) (-q) = ⟨x, y, n, m⟩) := by
  have hm := may_of he
  obtain ⟨a1, a2, a3, a4, a5, a6, a7, a8, a9, a10⟩ := bounds_of he
  cases hw : (witB p (-32768) 32768 && witB q (-32768) 32768)
  · exact .inl (by simp [movE, hm, he, hw])
  · cases hs : mayB (x + p) (y + q) n m
    · exact .inl (by simp [movE, hm, he, hw, szE, hs])
    · refine .inr ?_
      have hs' := may_iff.1 hs
      rw [Bool.and_eq_true, wit_iff, wit_iff] at hw
      have hw' : (witB p (-32768) 32768 && witB q (-32768) 32768) = true := by rw [Bool.and_eq_true, wit_iff, wit_iff]; exact hw
      have e2 : emptyB (x + p) (y + q) n m = false := empty_mk (by omega) (by omega)
      have w2 : (witB (-p) (-32768) 32768 && witB (-q) (-32768) 32768) = true := by rw [Bool.and_eq_true, wit_iff, wit_iff]; omega
      have z1 : x + p + -p = x := by omega
      have z2 : y + q + -q = y := by omega
      refine ⟨by simp [movE, hm, he, hw', szE, hs], by simp [movR, he, hw', szR, hs], by omega, by omega, by omega, by omega, by omega, by omega, by omega, by omega, ?_, ?_⟩
      · simp only [movE, hs, e2, w2, szE, z1, z2, hm]; simp
      · simp only [movR, e2, w2, szR, z1, z2, hm]; simp
theorem ali_self {x y n m u v : Int} (he : emptyB x y n m = false) (u2 : u ≤ 2) (v2 : v ≤ 2) : aliR x y n m n m u v = ⟨x, y, n, m⟩ ∧ aliE x y n m n m u v = 0 := by
  have hm := may_of he
  obtain ⟨a1, a2, a3, a4, a5, a6, a7, a8, a9, a10⟩ := bounds_of he
  have b1 : ∀ p r w : Int, begI p r r w = p := fun p r w => by unfold begI; split <;> (try split) <;> simp
  have k1 : witB n 0 32768 = true := wit_iff.2 (by omega)
  have k2 : witB m 0 32768 = true := wit_iff.2 (by omega)
  have k3 : decide (2 < u) = false := by simp; omega
  have k4 : decide (2 < v) = false := by simp; omega
  have e1 : (n == 0) = false := beq_eq_false_iff_ne.2 (by omega)
  have e2 : (m == 0) = false := beq_eq_false_iff_ne.2 (by omega)
  constructor
  · simp only [aliR, aliB, aliO, szR, b1, hm, k1, k2, k3, k4, e1, e2]; simp
  · simp only [aliE, aliB, aliO, szE, b1, hm, k1, k2, k3, k4, e1, e2]; simp
theorem ins_in {x y n m k : Int} (he : emptyB x y n m = false) (k0 : 0 ≤ k) (k2 : k ≤ 16384) : insE x y n m k = 0 ∧ inB (insR x y n m k).x (insR x y n m k).y (insR x y n m k).w (insR x y n m k).h x y n m = true ∧
    -100000 ≤ (insR x y n m k).x ∧ (insR x y n m k).x ≤ 100000 ∧ -100000 ≤ (insR x y n m k).y ∧ (insR x y n m k).y ≤ 100000 := by
  have hm := may_of he
  obtain ⟨a1, a2, a3, a4, a5, a6, a7, a8, a9, a10⟩ := bounds_of he
  have hw : witB k (-16384) 16384 = true := wit_iff.2 (by omega)
  have e1 : insR x y n m k = szR (btw (x + k) (y + k) (x + n - k) (y + m - k)) := by simp [insR, hm, hw, he]
  have e2 : insE x y n m k = szE (btw (x + k) (y + k) (x + n - k) (y + m - k)) := by simp [insE, hm, hw, he]
  rw [e1, e2]
  by_cases hc : x + n - k ≤ x + k ∨ y + m - k ≤ y + k
  · rw [btw_no hc]
    refine ⟨rfl, ?_, by decide, by decide, by decide, by decide⟩
    show inB 0 0 0 0 x y n m = true
    unfold inB
    rw [show emptyB 0 0 0 0 = true from rfl]
    rfl
  · rw [btw_yes (by omega) (by omega)]
    have hs : mayB (x + k) (y + k) (x + n - k - (x + k)) (y + m - k - (y + k)) = true := may_mk (by omega) (by omega)
    have hr : szR ⟨x + k, y + k, x + n - k - (x + k), y + m - k - (y + k)⟩ = ⟨x + k, y + k, x + n - k - (x + k), y + m - k - (y + k)⟩ := by simp [szR, hs]
    rw [hr]
    refine ⟨by simp [szE, hs], ?_, by simp only; omega, by simp only; omega, by simp only; omega, by simp only; omega⟩
    have h3 : emptyB (x + k) (y + k) (x + n - k - (x + k)) (y + m - k - (y + k)) = false := empty_mk (by omega) (by omega)
    have h4 : meetR (x + k) (y + k) (x + n - k - (x + k)) (y + m - k - (y + k)) x y n m = ⟨x + k, y + k, x + n - k - (x + k), y + m - k - (y + k)⟩ := by
      unfold meetR
      rw [h3, he]
      simp only [Bool.or_self, Bool.false_eq_true, if_false]
      rw [btw_yes (by omega) (by omega)]
      congr 1 <;> omega
    simp [inB, h4, eqB]

end Go.Proofs.Ytbghjmkgicdnoaa

/-
  Places are counted: the pieces beside what two rectangles have together are the whole, and lie where they should.
-/
namespace Go.Proofs.Ytbghjmkgicdnoaa

def areaS : List Rc → Int
  | [] => 0
  | r :: l => areaI r.x r.y r.w r.h + areaS l
def pieceOK (ax ay aw ah bx by' bw bh : Int) (r : Rc) : Prop := emptyB r.x r.y r.w r.h = false ∧ inB r.x r.y r.w r.h ax ay aw ah = true ∧ overB r.x r.y r.w r.h bx by' bw bh = false

theorem in_mk {x y n m bx by' bw bh : Int} (e : emptyB bx by' bw bh = false) (h : emptyB x y n m = false) (h1 : bx ≤ x) (h2 : x + n ≤ bx + bw) (h3 : by' ≤ y) (h4 : y + m ≤ by' + bh) : inB x y n m bx by' bw bh = true := by
  obtain ⟨a1, a2, a3, a4, a5, a6, a7, a8, a9, a10⟩ := bounds_of h
  have hm : meetR x y n m bx by' bw bh = ⟨x, y, n, m⟩ := by
    unfold meetR
    rw [h, e]
    simp only [Bool.or_self, Bool.false_eq_true, if_false]
    rw [btw_yes (by omega) (by omega)]
    congr 1 <;> omega
  simp [inB, hm, eqB]
theorem in_iff {x y n m bx by' bw bh : Int} (e : emptyB bx by' bw bh = false) (h : emptyB x y n m = false) : inB x y n m bx by' bw bh = true ↔ (bx ≤ x ∧ x + n ≤ bx + bw ∧ by' ≤ y ∧ y + m ≤ by' + bh) := by
  obtain ⟨a1, a2, a3, a4, a5, a6, a7, a8, a9, a10⟩ := bounds_of h
  obtain ⟨b1, b2, b3, b4, b5, b6, b7, b8, b9, b10⟩ := bounds_of e
  constructor
  · intro hi
    unfold inB at hi
    rw [h, Bool.false_or] at hi
    unfold meetR at hi
    rw [h, e] at hi
    simp only [Bool.or_self, Bool.false_eq_true, if_false] at hi
    by_cases hc : min (x + n) (bx + bw) ≤ max x bx ∨ min (y + m) (by' + bh) ≤ max y by'
    · rw [btw_no hc] at hi
      simp [eqB, zr] at hi
      omega
    · rw [btw_yes (by omega) (by omega)] at hi
      simp [eqB] at hi
      omega
  · rintro ⟨h1, h2, h3, h4⟩
    exact in_mk e h h1 h2 h3 h4
theorem over_no {x y n m bx by' bw bh : Int} (h : emptyB x y n m = true ∨ emptyB bx by' bw bh = true ∨ x + n ≤ bx ∨ bx + bw ≤ x ∨ y + m ≤ by' ∨ by' + bh ≤ y) : overB x y n m bx by' bw bh = false := by
  have hm : meetR x y n m bx by' bw bh = zr := by
    unfold meetR
    cases h1 : emptyB x y n m
    · cases h2 : emptyB bx by' bw bh
      · obtain ⟨a1, a2, a3, a4, a5, a6, a7, a8, a9, a10⟩ := bounds_of h1
        obtain ⟨b1, b2, b3, b4, b5, b6, b7, b8, b9, b10⟩ := bounds_of h2
        rw [h1, h2] at h
        simp only [Bool.or_self, Bool.false_eq_true, if_false]
        refine btw_no ?_
        simp at h
        omega
      · simp
    · simp
  simp [overB, hm, eqB, zr]
theorem area_btw {lx ly hx hy : Int} (h1 : lx ≤ hx) (h2 : ly ≤ hy) (b1 : -16384 ≤ lx) (b2 : hx ≤ 16384) (b3 : -16384 ≤ ly) (b4 : hy ≤ 16384) : areaI (btw lx ly hx hy).x (btw lx ly hx hy).y (btw lx ly hx hy).w (btw lx ly hx hy).h = (hx - lx) * (hy - ly) := by
  by_cases c : hx ≤ lx ∨ hy ≤ ly
  · rw [btw_no c, show areaI zr.x zr.y zr.w zr.h = 0 from rfl]
    rcases c with c | c
    · rw [show hx - lx = 0 by omega]; simp
    · rw [show hy - ly = 0 by omega]; simp
  · rw [btw_yes (by omega) (by omega)]
    have e : emptyB lx ly (hx - lx) (hy - ly) = false := empty_mk (by omega) (by omega)
    simp [areaI, e]
theorem keep_btw (lx ly hx hy : Int) : keepB (btw lx ly hx hy) = true ↔ (lx < hx ∧ ly < hy) := by
  by_cases c : hx ≤ lx ∨ hy ≤ ly
  · rw [btw_no c]
    simp [keepB, eqB, zr]
    omega
  · rw [btw_yes (by omega) (by omega)]
    simp [keepB, eqB]
    omega
theorem areaS_keep (l : List Rc) (h : ∀ r ∈ l, keepB r = false → areaI r.x r.y r.w r.h = 0) : areaS (l.filter keepB) = areaS l := by
  induction l with
  | nil => rfl
  | cons r l ih =>
    have ih := ih fun s hs => h s (List.mem_cons_of_mem _ hs)
    rw [List.filter_cons]
    cases hk : keepB r
    · rw [if_neg (by simp)]
      show _ = areaI r.x r.y r.w r.h + areaS l
      rw [ih, h r (List.mem_cons_self ..) hk]; omega
    · rw [if_pos rfl]
      show areaI r.x r.y r.w r.h + areaS (l.filter keepB) = areaI r.x r.y r.w r.h + areaS l
      rw [ih]
theorem drop_zero (lx ly hx hy : Int) (h : keepB (btw lx ly hx hy) = false) : areaI (btw lx ly hx hy).x (btw lx ly hx hy).y (btw lx ly hx hy).w (btw lx ly hx hy).h = 0 := by
  have : btw lx ly hx hy = zr := by
    refine btw_no ?_
    have := keep_btw lx ly hx hy
    rw [h] at this
    simp at this
    omega
  rw [this]; rfl
theorem cut_sum (l r w t s h : Int) : w * h + (((l + w + r) * t) + (l * h + (r * h + (l + w + r) * s))) = (l + w + r) * (t + h + s) := by
  simp only [Int.add_mul, Int.mul_add]
  omega

end Go.Proofs.Ytbghjmkgicdnoaa
