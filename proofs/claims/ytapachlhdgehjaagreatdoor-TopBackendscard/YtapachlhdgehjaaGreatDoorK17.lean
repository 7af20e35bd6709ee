/-
  Contracts of package list: what is wrong with a stroke, what is wrong with a list.
-/
import Derived.Test.YtapachlhdgehjaaGreatDoorK3
namespace Go.Proofs.YtapachlhdgehjaaGreatDoor
open Go.RowKit

def Kd (s : St) : Prop := s.k = 1 ∨ s.k = 2 ∨ s.k = 3 ∨ s.k = 4 ∨ s.k = 5
theorem kd_one {s : St} (h : oneE s = 0) : Kd s := (oneE_zero h).2.1
theorem eql_rc0 (a : Rc) (w : World) : (binOp .eql 52 (.agg #[.int .i64 a.x, .int .i64 a.y, .int .i64 a.w, .int .i64 a.h]) (.agg #[.int .i64 0, .int .i64 0, .int .i64 0, .int .i64 0])).run Tryz.prog w = .ok (.bool (zZr a)) w := by
  simp [go_sem]
  exact chainZ (chainZ (chainZ chainY))

set_option maxHeartbeats 1000000 in
theorem draws_any (s : St) (w : World) (hk : Kd s) : Calls Tryz.prog 56 #[(Value.agg #[.int .u8 s.k, .int .i64 s.r.x, .int .i64 s.r.y, .int .i64 s.r.w, .int .i64 s.r.h, .int .u8 s.c.r, .int .u8 s.c.g, .int .u8 s.c.b, .int .u8 s.c.a, .int .u8 s.b.r, .int .u8 s.b.g, .int .u8 s.b.b, .int .u8 s.b.a, .string s.t, .int .i64 s.n])] w fun e w' => e = .returned (.bool (drw s)) ∧ Below w.heap.size w w' := by
  have HL : Hid (∀ c, Below w.heap.size w (w.alloc c)) := fun c => (Below.refl _ w).alloc (Nat.le_refl _) _
  rcases hk with hk | hk | hk | hk | hk
  all_goals
    have hd : drw s = decide (s.k < 4) := rfl
    rw [hk] at hd
    rw [hd]
    clear hd
    go_enter Tryz.func56, Tryz.ntmps56
    go_wp2
    go_ret
    exact ⟨rfl, HL.out _⟩

theorem wroF_cases {s : St} (hk : Kd s) :
    (s.k ≠ 3 ∧ s.t.size ≠ 0 ∧ wroF s = true) ∨ (s.k ≠ 3 ∧ s.t.size = 0 ∧ coE s.b = false ∧ wroF s = true) ∨
    ((s.k = 4 ∨ s.k = 5) ∧ s.t.size = 0 ∧ coE s.b = true ∧ coE s.c = false ∧ wroF s = true) ∨
    ((s.k = 1 ∨ s.k = 2) ∧ s.t.size = 0 ∧ coE s.b = true ∧ wroF s = false) ∨ (s.k = 3 ∧ wroF s = false) ∨
    (s.k = 4 ∧ s.t.size = 0 ∧ coE s.b = true ∧ coE s.c = true ∧ wroF s = false) ∨
    (s.k = 5 ∧ s.t.size = 0 ∧ coE s.b = true ∧ coE s.c = true ∧ wroF s = !zZr s.r) := by
  unfold wroF
  by_cases hz : s.t.size = 0
  · cases hb : coE s.b <;> cases hc : coE s.c <;> cases hr : zZr s.r <;> rcases hk with k | k | k | k | k <;> simp [k, hz]
  · rcases hk with k | k | k | k | k <;> simp [k, hz]

set_option maxRecDepth 20000 in
set_option maxHeartbeats 4000000 in
theorem fields_4c (r : Rc) (c b : Co) (n : Int) (w : World) (hb : coE b = true) (hc : coE c = false) : Calls Tryz.prog 72 #[(Value.agg #[.int .u8 (⟨4, r, c, b, ByteArray.empty, n⟩ : St).k, .int .i64 (⟨4, r, c, b, ByteArray.empty, n⟩ : St).r.x, .int .i64 (⟨4, r, c, b, ByteArray.empty, n⟩ : St).r.y, .int .i64 (⟨4, r, c, b, ByteArray.empty, n⟩ : St).r.w, .int .i64 (⟨4, r, c, b, ByteArray.empty, n⟩ : St).r.h, .int .u8 (⟨4, r, c, b, ByteArray.empty, n⟩ : St).c.r, .int .u8 (⟨4, r, c, b, ByteArray.empty, n⟩ : St).c.g, .int .u8 (⟨4, r, c, b, ByteArray.empty, n⟩ : St).c.b, .int .u8 (⟨4, r, c, b, ByteArray.empty, n⟩ : St).c.a, .int .u8 (⟨4, r, c, b, ByteArray.empty, n⟩ : St).b.r, .int .u8 (⟨4, r, c, b, ByteArray.empty, n⟩ : St).b.g, .int .u8 (⟨4, r, c, b, ByteArray.empty, n⟩ : St).b.b, .int .u8 (⟨4, r, c, b, ByteArray.empty, n⟩ : St).b.a, .string (⟨4, r, c, b, ByteArray.empty, n⟩ : St).t, .int .i64 (⟨4, r, c, b, ByteArray.empty, n⟩ : St).n])] w fun e w' => e = .returned (.bool false) ∧ Below w.heap.size w w' := by
  have HL : Hid (∀ c, Below w.heap.size w (w.alloc c)) := fun c => (Below.refl _ w).alloc (Nat.le_refl _) _
  have HD : Hid (∀ W, Calls Tryz.prog 56 #[(Value.agg #[.int .u8 (⟨4, r, c, b, ByteArray.empty, n⟩ : St).k, .int .i64 (⟨4, r, c, b, ByteArray.empty, n⟩ : St).r.x, .int .i64 (⟨4, r, c, b, ByteArray.empty, n⟩ : St).r.y, .int .i64 (⟨4, r, c, b, ByteArray.empty, n⟩ : St).r.w, .int .i64 (⟨4, r, c, b, ByteArray.empty, n⟩ : St).r.h, .int .u8 (⟨4, r, c, b, ByteArray.empty, n⟩ : St).c.r, .int .u8 (⟨4, r, c, b, ByteArray.empty, n⟩ : St).c.g, .int .u8 (⟨4, r, c, b, ByteArray.empty, n⟩ : St).c.b, .int .u8 (⟨4, r, c, b, ByteArray.empty, n⟩ : St).c.a, .int .u8 (⟨4, r, c, b, ByteArray.empty, n⟩ : St).b.r, .int .u8 (⟨4, r, c, b, ByteArray.empty, n⟩ : St).b.g, .int .u8 (⟨4, r, c, b, ByteArray.empty, n⟩ : St).b.b, .int .u8 (⟨4, r, c, b, ByteArray.empty, n⟩ : St).b.a, .string (⟨4, r, c, b, ByteArray.empty, n⟩ : St).t, .int .i64 (⟨4, r, c, b, ByteArray.empty, n⟩ : St).n])] W fun e w' => e = .returned (.bool false) ∧ Below W.heap.size W w') := fun W => draws_any (⟨4, r, c, b, ByteArray.empty, n⟩ : St) W (by unfold Kd; simp)
  have HB : Hid (∀ W, Below (w.alloc (.cells (#[.int .u8 (⟨4, r, c, b, ByteArray.empty, n⟩ : St).k, .int .i64 (⟨4, r, c, b, ByteArray.empty, n⟩ : St).r.x, .int .i64 (⟨4, r, c, b, ByteArray.empty, n⟩ : St).r.y, .int .i64 (⟨4, r, c, b, ByteArray.empty, n⟩ : St).r.w, .int .i64 (⟨4, r, c, b, ByteArray.empty, n⟩ : St).r.h, .int .u8 (⟨4, r, c, b, ByteArray.empty, n⟩ : St).c.r, .int .u8 (⟨4, r, c, b, ByteArray.empty, n⟩ : St).c.g, .int .u8 (⟨4, r, c, b, ByteArray.empty, n⟩ : St).c.b, .int .u8 (⟨4, r, c, b, ByteArray.empty, n⟩ : St).c.a, .int .u8 (⟨4, r, c, b, ByteArray.empty, n⟩ : St).b.r, .int .u8 (⟨4, r, c, b, ByteArray.empty, n⟩ : St).b.g, .int .u8 (⟨4, r, c, b, ByteArray.empty, n⟩ : St).b.b, .int .u8 (⟨4, r, c, b, ByteArray.empty, n⟩ : St).b.a, .string (⟨4, r, c, b, ByteArray.empty, n⟩ : St).t, .int .i64 (⟨4, r, c, b, ByteArray.empty, n⟩ : St).n]) 55)).heap.size (w.alloc (.cells (#[.int .u8 (⟨4, r, c, b, ByteArray.empty, n⟩ : St).k, .int .i64 (⟨4, r, c, b, ByteArray.empty, n⟩ : St).r.x, .int .i64 (⟨4, r, c, b, ByteArray.empty, n⟩ : St).r.y, .int .i64 (⟨4, r, c, b, ByteArray.empty, n⟩ : St).r.w, .int .i64 (⟨4, r, c, b, ByteArray.empty, n⟩ : St).r.h, .int .u8 (⟨4, r, c, b, ByteArray.empty, n⟩ : St).c.r, .int .u8 (⟨4, r, c, b, ByteArray.empty, n⟩ : St).c.g, .int .u8 (⟨4, r, c, b, ByteArray.empty, n⟩ : St).c.b, .int .u8 (⟨4, r, c, b, ByteArray.empty, n⟩ : St).c.a, .int .u8 (⟨4, r, c, b, ByteArray.empty, n⟩ : St).b.r, .int .u8 (⟨4, r, c, b, ByteArray.empty, n⟩ : St).b.g, .int .u8 (⟨4, r, c, b, ByteArray.empty, n⟩ : St).b.b, .int .u8 (⟨4, r, c, b, ByteArray.empty, n⟩ : St).b.a, .string (⟨4, r, c, b, ByteArray.empty, n⟩ : St).t, .int .i64 (⟨4, r, c, b, ByteArray.empty, n⟩ : St).n]) 55)) W → Bk W w.heap.size (#[.int .u8 (⟨4, r, c, b, ByteArray.empty, n⟩ : St).k, .int .i64 (⟨4, r, c, b, ByteArray.empty, n⟩ : St).r.x, .int .i64 (⟨4, r, c, b, ByteArray.empty, n⟩ : St).r.y, .int .i64 (⟨4, r, c, b, ByteArray.empty, n⟩ : St).r.w, .int .i64 (⟨4, r, c, b, ByteArray.empty, n⟩ : St).r.h, .int .u8 (⟨4, r, c, b, ByteArray.empty, n⟩ : St).c.r, .int .u8 (⟨4, r, c, b, ByteArray.empty, n⟩ : St).c.g, .int .u8 (⟨4, r, c, b, ByteArray.empty, n⟩ : St).c.b, .int .u8 (⟨4, r, c, b, ByteArray.empty, n⟩ : St).c.a, .int .u8 (⟨4, r, c, b, ByteArray.empty, n⟩ : St).b.r, .int .u8 (⟨4, r, c, b, ByteArray.empty, n⟩ : St).b.g, .int .u8 (⟨4, r, c, b, ByteArray.empty, n⟩ : St).b.b, .int .u8 (⟨4, r, c, b, ByteArray.empty, n⟩ : St).b.a, .string (⟨4, r, c, b, ByteArray.empty, n⟩ : St).t, .int .i64 (⟨4, r, c, b, ByteArray.empty, n⟩ : St).n]) 55 ∧ Below w.heap.size w W) := fun W h => ⟨(Bk.new w _ _).below h, (HL.out _).trans (h.mono (HL.out _).size)⟩
  have E1 := neq_co0 b
  have E2 := neq_co0 c
  have E3 := eql_rc0 r
  rw [hb] at E1
  rw [hc] at E2
  go_enter Tryz.func72, Tryz.ntmps72
  go_wp2_with fail
  refine (HD.out _).mono ?_
  rintro e w1 ⟨rfl, hb1⟩
  obtain ⟨B1, B2⟩ := HB.out _ hb1
  have H1 : Hid (Below w.heap.size w w1) := B2
  have cc := B1.cell
  have a5 := cc 5
  have a6 := cc 6
  have a7 := cc 7
  have a8 := cc 8
  simp only [List.getElem?_toArray, List.getElem?_cons_zero, List.getElem?_cons_succ] at a5 a6 a7 a8
  clear hb1 B1 B2 cc HB HD
  go_wp2
  go_ret
  exact ⟨rfl, H1.out⟩

set_option maxRecDepth 20000 in
set_option maxHeartbeats 4000000 in
theorem fields_5c (r : Rc) (c b : Co) (n : Int) (w : World) (hb : coE b = true) (hc : coE c = false) : Calls Tryz.prog 72 #[(Value.agg #[.int .u8 (⟨5, r, c, b, ByteArray.empty, n⟩ : St).k, .int .i64 (⟨5, r, c, b, ByteArray.empty, n⟩ : St).r.x, .int .i64 (⟨5, r, c, b, ByteArray.empty, n⟩ : St).r.y, .int .i64 (⟨5, r, c, b, ByteArray.empty, n⟩ : St).r.w, .int .i64 (⟨5, r, c, b, ByteArray.empty, n⟩ : St).r.h, .int .u8 (⟨5, r, c, b, ByteArray.empty, n⟩ : St).c.r, .int .u8 (⟨5, r, c, b, ByteArray.empty, n⟩ : St).c.g, .int .u8 (⟨5, r, c, b, ByteArray.empty, n⟩ : St).c.b, .int .u8 (⟨5, r, c, b, ByteArray.empty, n⟩ : St).c.a, .int .u8 (⟨5, r, c, b, ByteArray.empty, n⟩ : St).b.r, .int .u8 (⟨5, r, c, b, ByteArray.empty, n⟩ : St).b.g, .int .u8 (⟨5, r, c, b, ByteArray.empty, n⟩ : St).b.b, .int .u8 (⟨5, r, c, b, ByteArray.empty, n⟩ : St).b.a, .string (⟨5, r, c, b, ByteArray.empty, n⟩ : St).t, .int .i64 (⟨5, r, c, b, ByteArray.empty, n⟩ : St).n])] w fun e w' => e = .returned (.bool false) ∧ Below w.heap.size w w' := by
  have HL : Hid (∀ c, Below w.heap.size w (w.alloc c)) := fun c => (Below.refl _ w).alloc (Nat.le_refl _) _
  have HD : Hid (∀ W, Calls Tryz.prog 56 #[(Value.agg #[.int .u8 (⟨5, r, c, b, ByteArray.empty, n⟩ : St).k, .int .i64 (⟨5, r, c, b, ByteArray.empty, n⟩ : St).r.x, .int .i64 (⟨5, r, c, b, ByteArray.empty, n⟩ : St).r.y, .int .i64 (⟨5, r, c, b, ByteArray.empty, n⟩ : St).r.w, .int .i64 (⟨5, r, c, b, ByteArray.empty, n⟩ : St).r.h, .int .u8 (⟨5, r, c, b, ByteArray.empty, n⟩ : St).c.r, .int .u8 (⟨5, r, c, b, ByteArray.empty, n⟩ : St).c.g, .int .u8 (⟨5, r, c, b, ByteArray.empty, n⟩ : St).c.b, .int .u8 (⟨5, r, c, b, ByteArray.empty, n⟩ : St).c.a, .int .u8 (⟨5, r, c, b, ByteArray.empty, n⟩ : St).b.r, .int .u8 (⟨5, r, c, b, ByteArray.empty, n⟩ : St).b.g, .int .u8 (⟨5, r, c, b, ByteArray.empty, n⟩ : St).b.b, .int .u8 (⟨5, r, c, b, ByteArray.empty, n⟩ : St).b.a, .string (⟨5, r, c, b, ByteArray.empty, n⟩ : St).t, .int .i64 (⟨5, r, c, b, ByteArray.empty, n⟩ : St).n])] W fun e w' => e = .returned (.bool false) ∧ Below W.heap.size W w') := fun W => draws_any (⟨5, r, c, b, ByteArray.empty, n⟩ : St) W (by unfold Kd; simp)
  have HB : Hid (∀ W, Below (w.alloc (.cells (#[.int .u8 (⟨5, r, c, b, ByteArray.empty, n⟩ : St).k, .int .i64 (⟨5, r, c, b, ByteArray.empty, n⟩ : St).r.x, .int .i64 (⟨5, r, c, b, ByteArray.empty, n⟩ : St).r.y, .int .i64 (⟨5, r, c, b, ByteArray.empty, n⟩ : St).r.w, .int .i64 (⟨5, r, c, b, ByteArray.empty, n⟩ : St).r.h, .int .u8 (⟨5, r, c, b, ByteArray.empty, n⟩ : St).c.r, .int .u8 (⟨5, r, c, b, ByteArray.empty, n⟩ : St).c.g, .int .u8 (⟨5, r, c, b, ByteArray.empty, n⟩ : St).c.b, .int .u8 (⟨5, r, c, b, ByteArray.empty, n⟩ : St).c.a, .int .u8 (⟨5, r, c, b, ByteArray.empty, n⟩ : St).b.r, .int .u8 (⟨5, r, c, b, ByteArray.empty, n⟩ : St).b.g, .int .u8 (⟨5, r, c, b, ByteArray.empty, n⟩ : St).b.b, .int .u8 (⟨5, r, c, b, ByteArray.empty, n⟩ : St).b.a, .string (⟨5, r, c, b, ByteArray.empty, n⟩ : St).t, .int .i64 (⟨5, r, c, b, ByteArray.empty, n⟩ : St).n]) 55)).heap.size (w.alloc (.cells (#[.int .u8 (⟨5, r, c, b, ByteArray.empty, n⟩ : St).k, .int .i64 (⟨5, r, c, b, ByteArray.empty, n⟩ : St).r.x, .int .i64 (⟨5, r, c, b, ByteArray.empty, n⟩ : St).r.y, .int .i64 (⟨5, r, c, b, ByteArray.empty, n⟩ : St).r.w, .int .i64 (⟨5, r, c, b, ByteArray.empty, n⟩ : St).r.h, .int .u8 (⟨5, r, c, b, ByteArray.empty, n⟩ : St).c.r, .int .u8 (⟨5, r, c, b, ByteArray.empty, n⟩ : St).c.g, .int .u8 (⟨5, r, c, b, ByteArray.empty, n⟩ : St).c.b, .int .u8 (⟨5, r, c, b, ByteArray.empty, n⟩ : St).c.a, .int .u8 (⟨5, r, c, b, ByteArray.empty, n⟩ : St).b.r, .int .u8 (⟨5, r, c, b, ByteArray.empty, n⟩ : St).b.g, .int .u8 (⟨5, r, c, b, ByteArray.empty, n⟩ : St).b.b, .int .u8 (⟨5, r, c, b, ByteArray.empty, n⟩ : St).b.a, .string (⟨5, r, c, b, ByteArray.empty, n⟩ : St).t, .int .i64 (⟨5, r, c, b, ByteArray.empty, n⟩ : St).n]) 55)) W → Bk W w.heap.size (#[.int .u8 (⟨5, r, c, b, ByteArray.empty, n⟩ : St).k, .int .i64 (⟨5, r, c, b, ByteArray.empty, n⟩ : St).r.x, .int .i64 (⟨5, r, c, b, ByteArray.empty, n⟩ : St).r.y, .int .i64 (⟨5, r, c, b, ByteArray.empty, n⟩ : St).r.w, .int .i64 (⟨5, r, c, b, ByteArray.empty, n⟩ : St).r.h, .int .u8 (⟨5, r, c, b, ByteArray.empty, n⟩ : St).c.r, .int .u8 (⟨5, r, c, b, ByteArray.empty, n⟩ : St).c.g, .int .u8 (⟨5, r, c, b, ByteArray.empty, n⟩ : St).c.b, .int .u8 (⟨5, r, c, b, ByteArray.empty, n⟩ : St).c.a, .int .u8 (⟨5, r, c, b, ByteArray.empty, n⟩ : St).b.r, .int .u8 (⟨5, r, c, b, ByteArray.empty, n⟩ : St).b.g, .int .u8 (⟨5, r, c, b, ByteArray.empty, n⟩ : St).b.b, .int .u8 (⟨5, r, c, b, ByteArray.empty, n⟩ : St).b.a, .string (⟨5, r, c, b, ByteArray.empty, n⟩ : St).t, .int .i64 (⟨5, r, c, b, ByteArray.empty, n⟩ : St).n]) 55 ∧ Below w.heap.size w W) := fun W h => ⟨(Bk.new w _ _).below h, (HL.out _).trans (h.mono (HL.out _).size)⟩
  have E1 := neq_co0 b
  have E2 := neq_co0 c
  have E3 := eql_rc0 r
  rw [hb] at E1
  rw [hc] at E2
  go_enter Tryz.func72, Tryz.ntmps72
  go_wp2_with fail
  refine (HD.out _).mono ?_
  rintro e w1 ⟨rfl, hb1⟩
  obtain ⟨B1, B2⟩ := HB.out _ hb1
  have H1 : Hid (Below w.heap.size w w1) := B2
  have cc := B1.cell
  have a5 := cc 5
  have a6 := cc 6
  have a7 := cc 7
  have a8 := cc 8
  simp only [List.getElem?_toArray, List.getElem?_cons_zero, List.getElem?_cons_succ] at a5 a6 a7 a8
  clear hb1 B1 B2 cc HB HD
  go_wp2
  go_ret
  exact ⟨rfl, H1.out⟩

set_option maxRecDepth 20000 in
set_option maxHeartbeats 4000000 in
theorem fields_1d (r : Rc) (c b : Co) (n : Int) (w : World) (hb : coE b = true) : Calls Tryz.prog 72 #[(Value.agg #[.int .u8 (⟨1, r, c, b, ByteArray.empty, n⟩ : St).k, .int .i64 (⟨1, r, c, b, ByteArray.empty, n⟩ : St).r.x, .int .i64 (⟨1, r, c, b, ByteArray.empty, n⟩ : St).r.y, .int .i64 (⟨1, r, c, b, ByteArray.empty, n⟩ : St).r.w, .int .i64 (⟨1, r, c, b, ByteArray.empty, n⟩ : St).r.h, .int .u8 (⟨1, r, c, b, ByteArray.empty, n⟩ : St).c.r, .int .u8 (⟨1, r, c, b, ByteArray.empty, n⟩ : St).c.g, .int .u8 (⟨1, r, c, b, ByteArray.empty, n⟩ : St).c.b, .int .u8 (⟨1, r, c, b, ByteArray.empty, n⟩ : St).c.a, .int .u8 (⟨1, r, c, b, ByteArray.empty, n⟩ : St).b.r, .int .u8 (⟨1, r, c, b, ByteArray.empty, n⟩ : St).b.g, .int .u8 (⟨1, r, c, b, ByteArray.empty, n⟩ : St).b.b, .int .u8 (⟨1, r, c, b, ByteArray.empty, n⟩ : St).b.a, .string (⟨1, r, c, b, ByteArray.empty, n⟩ : St).t, .int .i64 (⟨1, r, c, b, ByteArray.empty, n⟩ : St).n])] w fun e w' => e = .returned (.bool true) ∧ Below w.heap.size w w' := by
  have HL : Hid (∀ c, Below w.heap.size w (w.alloc c)) := fun c => (Below.refl _ w).alloc (Nat.le_refl _) _
  have HD : Hid (∀ W, Calls Tryz.prog 56 #[(Value.agg #[.int .u8 (⟨1, r, c, b, ByteArray.empty, n⟩ : St).k, .int .i64 (⟨1, r, c, b, ByteArray.empty, n⟩ : St).r.x, .int .i64 (⟨1, r, c, b, ByteArray.empty, n⟩ : St).r.y, .int .i64 (⟨1, r, c, b, ByteArray.empty, n⟩ : St).r.w, .int .i64 (⟨1, r, c, b, ByteArray.empty, n⟩ : St).r.h, .int .u8 (⟨1, r, c, b, ByteArray.empty, n⟩ : St).c.r, .int .u8 (⟨1, r, c, b, ByteArray.empty, n⟩ : St).c.g, .int .u8 (⟨1, r, c, b, ByteArray.empty, n⟩ : St).c.b, .int .u8 (⟨1, r, c, b, ByteArray.empty, n⟩ : St).c.a, .int .u8 (⟨1, r, c, b, ByteArray.empty, n⟩ : St).b.r, .int .u8 (⟨1, r, c, b, ByteArray.empty, n⟩ : St).b.g, .int .u8 (⟨1, r, c, b, ByteArray.empty, n⟩ : St).b.b, .int .u8 (⟨1, r, c, b, ByteArray.empty, n⟩ : St).b.a, .string (⟨1, r, c, b, ByteArray.empty, n⟩ : St).t, .int .i64 (⟨1, r, c, b, ByteArray.empty, n⟩ : St).n])] W fun e w' => e = .returned (.bool true) ∧ Below W.heap.size W w') := fun W => draws_any (⟨1, r, c, b, ByteArray.empty, n⟩ : St) W (by unfold Kd; simp)
  have HB : Hid (∀ W, Below (w.alloc (.cells (#[.int .u8 (⟨1, r, c, b, ByteArray.empty, n⟩ : St).k, .int .i64 (⟨1, r, c, b, ByteArray.empty, n⟩ : St).r.x, .int .i64 (⟨1, r, c, b, ByteArray.empty, n⟩ : St).r.y, .int .i64 (⟨1, r, c, b, ByteArray.empty, n⟩ : St).r.w, .int .i64 (⟨1, r, c, b, ByteArray.empty, n⟩ : St).r.h, .int .u8 (⟨1, r, c, b, ByteArray.empty, n⟩ : St).c.r, .int .u8 (⟨1, r, c, b, ByteArray.empty, n⟩ : St).c.g, .int .u8 (⟨1, r, c, b, ByteArray.empty, n⟩ : St).c.b, .int .u8 (⟨1, r, c, b, ByteArray.empty, n⟩ : St).c.a, .int .u8 (⟨1, r, c, b, ByteArray.empty, n⟩ : St).b.r, .int .u8 (⟨1, r, c, b, ByteArray.empty, n⟩ : St).b.g, .int .u8 (⟨1, r, c, b, ByteArray.empty, n⟩ : St).b.b, .int .u8 (⟨1, r, c, b, ByteArray.empty, n⟩ : St).b.a, .string (⟨1, r, c, b, ByteArray.empty, n⟩ : St).t, .int .i64 (⟨1, r, c, b, ByteArray.empty, n⟩ : St).n]) 55)).heap.size (w.alloc (.cells (#[.int .u8 (⟨1, r, c, b, ByteArray.empty, n⟩ : St).k, .int .i64 (⟨1, r, c, b, ByteArray.empty, n⟩ : St).r.x, .int .i64 (⟨1, r, c, b, ByteArray.empty, n⟩ : St).r.y, .int .i64 (⟨1, r, c, b, ByteArray.empty, n⟩ : St).r.w, .int .i64 (⟨1, r, c, b, ByteArray.empty, n⟩ : St).r.h, .int .u8 (⟨1, r, c, b, ByteArray.empty, n⟩ : St).c.r, .int .u8 (⟨1, r, c, b, ByteArray.empty, n⟩ : St).c.g, .int .u8 (⟨1, r, c, b, ByteArray.empty, n⟩ : St).c.b, .int .u8 (⟨1, r, c, b, ByteArray.empty, n⟩ : St).c.a, .int .u8 (⟨1, r, c, b, ByteArray.empty, n⟩ : St).b.r, .int .u8 (⟨1, r, c, b, ByteArray.empty, n⟩ : St).b.g, .int .u8 (⟨1, r, c, b, ByteArray.empty, n⟩ : St).b.b, .int .u8 (⟨1, r, c, b, ByteArray.empty, n⟩ : St).b.a, .string (⟨1, r, c, b, ByteArray.empty, n⟩ : St).t, .int .i64 (⟨1, r, c, b, ByteArray.empty, n⟩ : St).n]) 55)) W → Bk W w.heap.size (#[.int .u8 (⟨1, r, c, b, ByteArray.empty, n⟩ : St).k, .int .i64 (⟨1, r, c, b, ByteArray.empty, n⟩ : St).r.x, .int .i64 (⟨1, r, c, b, ByteArray.empty, n⟩ : St).r.y, .int .i64 (⟨1, r, c, b, ByteArray.empty, n⟩ : St).r.w, .int .i64 (⟨1, r, c, b, ByteArray.empty, n⟩ : St).r.h, .int .u8 (⟨1, r, c, b, ByteArray.empty, n⟩ : St).c.r, .int .u8 (⟨1, r, c, b, ByteArray.empty, n⟩ : St).c.g, .int .u8 (⟨1, r, c, b, ByteArray.empty, n⟩ : St).c.b, .int .u8 (⟨1, r, c, b, ByteArray.empty, n⟩ : St).c.a, .int .u8 (⟨1, r, c, b, ByteArray.empty, n⟩ : St).b.r, .int .u8 (⟨1, r, c, b, ByteArray.empty, n⟩ : St).b.g, .int .u8 (⟨1, r, c, b, ByteArray.empty, n⟩ : St).b.b, .int .u8 (⟨1, r, c, b, ByteArray.empty, n⟩ : St).b.a, .string (⟨1, r, c, b, ByteArray.empty, n⟩ : St).t, .int .i64 (⟨1, r, c, b, ByteArray.empty, n⟩ : St).n]) 55 ∧ Below w.heap.size w W) := fun W h => ⟨(Bk.new w _ _).below h, (HL.out _).trans (h.mono (HL.out _).size)⟩
  have E1 := neq_co0 b
  have E2 := neq_co0 c
  have E3 := eql_rc0 r
  rw [hb] at E1
  go_enter Tryz.func72, Tryz.ntmps72
  go_wp2_with fail
  refine (HD.out _).mono ?_
  rintro e w1 ⟨rfl, hb1⟩
  obtain ⟨B1, B2⟩ := HB.out _ hb1
  have H1 : Hid (Below w.heap.size w w1) := B2
  have cc := B1.cell
  have a0 := cc 0
  simp only [List.getElem?_toArray, List.getElem?_cons_zero] at a0
  clear hb1 B1 B2 cc HB HD
  go_wp2
  go_ret
  exact ⟨rfl, H1.out⟩

set_option maxRecDepth 20000 in
set_option maxHeartbeats 4000000 in
theorem fields_2d (r : Rc) (c b : Co) (n : Int) (w : World) (hb : coE b = true) : Calls Tryz.prog 72 #[(Value.agg #[.int .u8 (⟨2, r, c, b, ByteArray.empty, n⟩ : St).k, .int .i64 (⟨2, r, c, b, ByteArray.empty, n⟩ : St).r.x, .int .i64 (⟨2, r, c, b, ByteArray.empty, n⟩ : St).r.y, .int .i64 (⟨2, r, c, b, ByteArray.empty, n⟩ : St).r.w, .int .i64 (⟨2, r, c, b, ByteArray.empty, n⟩ : St).r.h, .int .u8 (⟨2, r, c, b, ByteArray.empty, n⟩ : St).c.r, .int .u8 (⟨2, r, c, b, ByteArray.empty, n⟩ : St).c.g, .int .u8 (⟨2, r, c, b, ByteArray.empty, n⟩ : St).c.b, .int .u8 (⟨2, r, c, b, ByteArray.empty, n⟩ : St).c.a, .int .u8 (⟨2, r, c, b, ByteArray.empty, n⟩ : St).b.r, .int .u8 (⟨2, r, c, b, ByteArray.empty, n⟩ : St).b.g, .int .u8 (⟨2, r, c, b, ByteArray.empty, n⟩ : St).b.b, .int .u8 (⟨2, r, c, b, ByteArray.empty, n⟩ : St).b.a, .string (⟨2, r, c, b, ByteArray.empty, n⟩ : St).t, .int .i64 (⟨2, r, c, b, ByteArray.empty, n⟩ : St).n])] w fun e w' => e = .returned (.bool true) ∧ Below w.heap.size w w' := by
  have HL : Hid (∀ c, Below w.heap.size w (w.alloc c)) := fun c => (Below.refl _ w).alloc (Nat.le_refl _) _
  have HD : Hid (∀ W, Calls Tryz.prog 56 #[(Value.agg #[.int .u8 (⟨2, r, c, b, ByteArray.empty, n⟩ : St).k, .int .i64 (⟨2, r, c, b, ByteArray.empty, n⟩ : St).r.x, .int .i64 (⟨2, r, c, b, ByteArray.empty, n⟩ : St).r.y, .int .i64 (⟨2, r, c, b, ByteArray.empty, n⟩ : St).r.w, .int .i64 (⟨2, r, c, b, ByteArray.empty, n⟩ : St).r.h, .int .u8 (⟨2, r, c, b, ByteArray.empty, n⟩ : St).c.r, .int .u8 (⟨2, r, c, b, ByteArray.empty, n⟩ : St).c.g, .int .u8 (⟨2, r, c, b, ByteArray.empty, n⟩ : St).c.b, .int .u8 (⟨2, r, c, b, ByteArray.empty, n⟩ : St).c.a, .int .u8 (⟨2, r, c, b, ByteArray.empty, n⟩ : St).b.r, .int .u8 (⟨2, r, c, b, ByteArray.empty, n⟩ : St).b.g, .int .u8 (⟨2, r, c, b, ByteArray.empty, n⟩ : St).b.b, .int .u8 (⟨2, r, c, b, ByteArray.empty, n⟩ : St).b.a, .string (⟨2, r, c, b, ByteArray.empty, n⟩ : St).t, .int .i64 (⟨2, r, c, b, ByteArray.empty, n⟩ : St).n])] W fun e w' => e = .returned (.bool true) ∧ Below W.heap.size W w') := fun W => draws_any (⟨2, r, c, b, ByteArray.empty, n⟩ : St) W (by unfold Kd; simp)
  have HB : Hid (∀ W, Below (w.alloc (.cells (#[.int .u8 (⟨2, r, c, b, ByteArray.empty, n⟩ : St).k, .int .i64 (⟨2, r, c, b, ByteArray.empty, n⟩ : St).r.x, .int .i64 (⟨2, r, c, b, ByteArray.empty, n⟩ : St).r.y, .int .i64 (⟨2, r, c, b, ByteArray.empty, n⟩ : St).r.w, .int .i64 (⟨2, r, c, b, ByteArray.empty, n⟩ : St).r.h, .int .u8 (⟨2, r, c, b, ByteArray.empty, n⟩ : St).c.r, .int .u8 (⟨2, r, c, b, ByteArray.empty, n⟩ : St).c.g, .int .u8 (⟨2, r, c, b, ByteArray.empty, n⟩ : St).c.b, .int .u8 (⟨2, r, c, b, ByteArray.empty, n⟩ : St).c.a, .int .u8 (⟨2, r, c, b, ByteArray.empty, n⟩ : St).b.r, .int .u8 (⟨2, r, c, b, ByteArray.empty, n⟩ : St).b.g, .int .u8 (⟨2, r, c, b, ByteArray.empty, n⟩ : St).b.b, .int .u8 (⟨2, r, c, b, ByteArray.empty, n⟩ : St).b.a, .string (⟨2, r, c, b, ByteArray.empty, n⟩ : St).t, .int .i64 (⟨2, r, c, b, ByteArray.empty, n⟩ : St).n]) 55)).heap.size (w.alloc (.cells (#[.int .u8 (⟨2, r, c, b, ByteArray.empty, n⟩ : St).k, .int .i64 (⟨2, r, c, b, ByteArray.empty, n⟩ : St).r.x, .int .i64 (⟨2, r, c, b, ByteArray.empty, n⟩ : St).r.y, .int .i64 (⟨2, r, c, b, ByteArray.empty, n⟩ : St).r.w, .int .i64 (⟨2, r, c, b, ByteArray.empty, n⟩ : St).r.h, .int .u8 (⟨2, r, c, b, ByteArray.empty, n⟩ : St).c.r, .int .u8 (⟨2, r, c, b, ByteArray.empty, n⟩ : St).c.g, .int .u8 (⟨2, r, c, b, ByteArray.empty, n⟩ : St).c.b, .int .u8 (⟨2, r, c, b, ByteArray.empty, n⟩ : St).c.a, .int .u8 (⟨2, r, c, b, ByteArray.empty, n⟩ : St).b.r, .int .u8 (⟨2, r, c, b, ByteArray.empty, n⟩ : St).b.g, .int .u8 (⟨2, r, c, b, ByteArray.empty, n⟩ : St).b.b, .int .u8 (⟨2, r, c, b, ByteArray.empty, n⟩ : St).b.a, .string (⟨2, r, c, b, ByteArray.empty, n⟩ : St).t, .int .i64 (⟨2, r, c, b, ByteArray.empty, n⟩ : St).n]) 55)) W → Bk W w.heap.size (#[.int .u8 (⟨2, r, c, b, ByteArray.empty, n⟩ : St).k, .int .i64 (⟨2, r, c, b, ByteArray.empty, n⟩ : St).r.x, .int .i64 (⟨2, r, c, b, ByteArray.empty, n⟩ : St).r.y, .int .i64 (⟨2, r, c, b, ByteArray.empty, n⟩ : St).r.w, .int .i64 (⟨2, r, c, b, ByteArray.empty, n⟩ : St).r.h, .int .u8 (⟨2, r, c, b, ByteArray.empty, n⟩ : St).c.r, .int .u8 (⟨2, r, c, b, ByteArray.empty, n⟩ : St).c.g, .int .u8 (⟨2, r, c, b, ByteArray.empty, n⟩ : St).c.b, .int .u8 (⟨2, r, c, b, ByteArray.empty, n⟩ : St).c.a, .int .u8 (⟨2, r, c, b, ByteArray.empty, n⟩ : St).b.r, .int .u8 (⟨2, r, c, b, ByteArray.empty, n⟩ : St).b.g, .int .u8 (⟨2, r, c, b, ByteArray.empty, n⟩ : St).b.b, .int .u8 (⟨2, r, c, b, ByteArray.empty, n⟩ : St).b.a, .string (⟨2, r, c, b, ByteArray.empty, n⟩ : St).t, .int .i64 (⟨2, r, c, b, ByteArray.empty, n⟩ : St).n]) 55 ∧ Below w.heap.size w W) := fun W h => ⟨(Bk.new w _ _).below h, (HL.out _).trans (h.mono (HL.out _).size)⟩
  have E1 := neq_co0 b
  have E2 := neq_co0 c
  have E3 := eql_rc0 r
  rw [hb] at E1
  go_enter Tryz.func72, Tryz.ntmps72
  go_wp2_with fail
  refine (HD.out _).mono ?_
  rintro e w1 ⟨rfl, hb1⟩
  obtain ⟨B1, B2⟩ := HB.out _ hb1
  have H1 : Hid (Below w.heap.size w w1) := B2
  have cc := B1.cell
  have a0 := cc 0
  simp only [List.getElem?_toArray, List.getElem?_cons_zero] at a0
  clear hb1 B1 B2 cc HB HD
  go_wp2
  go_ret
  exact ⟨rfl, H1.out⟩

set_option maxRecDepth 20000 in
set_option maxHeartbeats 4000000 in
theorem fields_3e (r : Rc) (c b : Co) (t : ByteArray) (n : Int) (w : World) : Calls Tryz.prog 72 #[(Value.agg #[.int .u8 (⟨3, r, c, b, t, n⟩ : St).k, .int .i64 (⟨3, r, c, b, t, n⟩ : St).r.x, .int .i64 (⟨3, r, c, b, t, n⟩ : St).r.y, .int .i64 (⟨3, r, c, b, t, n⟩ : St).r.w, .int .i64 (⟨3, r, c, b, t, n⟩ : St).r.h, .int .u8 (⟨3, r, c, b, t, n⟩ : St).c.r, .int .u8 (⟨3, r, c, b, t, n⟩ : St).c.g, .int .u8 (⟨3, r, c, b, t, n⟩ : St).c.b, .int .u8 (⟨3, r, c, b, t, n⟩ : St).c.a, .int .u8 (⟨3, r, c, b, t, n⟩ : St).b.r, .int .u8 (⟨3, r, c, b, t, n⟩ : St).b.g, .int .u8 (⟨3, r, c, b, t, n⟩ : St).b.b, .int .u8 (⟨3, r, c, b, t, n⟩ : St).b.a, .string (⟨3, r, c, b, t, n⟩ : St).t, .int .i64 (⟨3, r, c, b, t, n⟩ : St).n])] w fun e w' => e = .returned (.bool true) ∧ Below w.heap.size w w' := by
  have HL : Hid (∀ c, Below w.heap.size w (w.alloc c)) := fun c => (Below.refl _ w).alloc (Nat.le_refl _) _
  have HD : Hid (∀ W, Calls Tryz.prog 56 #[(Value.agg #[.int .u8 (⟨3, r, c, b, t, n⟩ : St).k, .int .i64 (⟨3, r, c, b, t, n⟩ : St).r.x, .int .i64 (⟨3, r, c, b, t, n⟩ : St).r.y, .int .i64 (⟨3, r, c, b, t, n⟩ : St).r.w, .int .i64 (⟨3, r, c, b, t, n⟩ : St).r.h, .int .u8 (⟨3, r, c, b, t, n⟩ : St).c.r, .int .u8 (⟨3, r, c, b, t, n⟩ : St).c.g, .int .u8 (⟨3, r, c, b, t, n⟩ : St).c.b, .int .u8 (⟨3, r, c, b, t, n⟩ : St).c.a, .int .u8 (⟨3, r, c, b, t, n⟩ : St).b.r, .int .u8 (⟨3, r, c, b, t, n⟩ : St).b.g, .int .u8 (⟨3, r, c, b, t, n⟩ : St).b.b, .int .u8 (⟨3, r, c, b, t, n⟩ : St).b.a, .string (⟨3, r, c, b, t, n⟩ : St).t, .int .i64 (⟨3, r, c, b, t, n⟩ : St).n])] W fun e w' => e = .returned (.bool true) ∧ Below W.heap.size W w') := fun W => draws_any (⟨3, r, c, b, t, n⟩ : St) W (by unfold Kd; simp)
  have HB : Hid (∀ W, Below (w.alloc (.cells (#[.int .u8 (⟨3, r, c, b, t, n⟩ : St).k, .int .i64 (⟨3, r, c, b, t, n⟩ : St).r.x, .int .i64 (⟨3, r, c, b, t, n⟩ : St).r.y, .int .i64 (⟨3, r, c, b, t, n⟩ : St).r.w, .int .i64 (⟨3, r, c, b, t, n⟩ : St).r.h, .int .u8 (⟨3, r, c, b, t, n⟩ : St).c.r, .int .u8 (⟨3, r, c, b, t, n⟩ : St).c.g, .int .u8 (⟨3, r, c, b, t, n⟩ : St).c.b, .int .u8 (⟨3, r, c, b, t, n⟩ : St).c.a, .int .u8 (⟨3, r, c, b, t, n⟩ : St).b.r, .int .u8 (⟨3, r, c, b, t, n⟩ : St).b.g, .int .u8 (⟨3, r, c, b, t, n⟩ : St).b.b, .int .u8 (⟨3, r, c, b, t, n⟩ : St).b.a, .string (⟨3, r, c, b, t, n⟩ : St).t, .int .i64 (⟨3, r, c, b, t, n⟩ : St).n]) 55)).heap.size (w.alloc (.cells (#[.int .u8 (⟨3, r, c, b, t, n⟩ : St).k, .int .i64 (⟨3, r, c, b, t, n⟩ : St).r.x, .int .i64 (⟨3, r, c, b, t, n⟩ : St).r.y, .int .i64 (⟨3, r, c, b, t, n⟩ : St).r.w, .int .i64 (⟨3, r, c, b, t, n⟩ : St).r.h, .int .u8 (⟨3, r, c, b, t, n⟩ : St).c.r, .int .u8 (⟨3, r, c, b, t, n⟩ : St).c.g, .int .u8 (⟨3, r, c, b, t, n⟩ : St).c.b, .int .u8 (⟨3, r, c, b, t, n⟩ : St).c.a, .int .u8 (⟨3, r, c, b, t, n⟩ : St).b.r, .int .u8 (⟨3, r, c, b, t, n⟩ : St).b.g, .int .u8 (⟨3, r, c, b, t, n⟩ : St).b.b, .int .u8 (⟨3, r, c, b, t, n⟩ : St).b.a, .string (⟨3, r, c, b, t, n⟩ : St).t, .int .i64 (⟨3, r, c, b, t, n⟩ : St).n]) 55)) W → Bk W w.heap.size (#[.int .u8 (⟨3, r, c, b, t, n⟩ : St).k, .int .i64 (⟨3, r, c, b, t, n⟩ : St).r.x, .int .i64 (⟨3, r, c, b, t, n⟩ : St).r.y, .int .i64 (⟨3, r, c, b, t, n⟩ : St).r.w, .int .i64 (⟨3, r, c, b, t, n⟩ : St).r.h, .int .u8 (⟨3, r, c, b, t, n⟩ : St).c.r, .int .u8 (⟨3, r, c, b, t, n⟩ : St).c.g, .int .u8 (⟨3, r, c, b, t, n⟩ : St).c.b, .int .u8 (⟨3, r, c, b, t, n⟩ : St).c.a, .int .u8 (⟨3, r, c, b, t, n⟩ : St).b.r, .int .u8 (⟨3, r, c, b, t, n⟩ : St).b.g, .int .u8 (⟨3, r, c, b, t, n⟩ : St).b.b, .int .u8 (⟨3, r, c, b, t, n⟩ : St).b.a, .string (⟨3, r, c, b, t, n⟩ : St).t, .int .i64 (⟨3, r, c, b, t, n⟩ : St).n]) 55 ∧ Below w.heap.size w W) := fun W h => ⟨(Bk.new w _ _).below h, (HL.out _).trans (h.mono (HL.out _).size)⟩
  have E1 := neq_co0 b
  have E2 := neq_co0 c
  have E3 := eql_rc0 r
  go_enter Tryz.func72, Tryz.ntmps72
  go_wp2_with fail
  refine (HD.out _).mono ?_
  rintro e w1 ⟨rfl, hb1⟩
  obtain ⟨B1, B2⟩ := HB.out _ hb1
  have H1 : Hid (Below w.heap.size w w1) := B2
  have cc := B1.cell
  have a0 := cc 0
  simp only [List.getElem?_toArray, List.getElem?_cons_zero] at a0
  clear hb1 B1 B2 cc HB HD
  go_wp2
  go_ret
  exact ⟨rfl, H1.out⟩

set_option maxRecDepth 20000 in
set_option maxHeartbeats 4000000 in
theorem fields_4f (r : Rc) (c b : Co) (n : Int) (w : World) (hb : coE b = true) (hc : coE c = true) : Calls Tryz.prog 72 #[(Value.agg #[.int .u8 (⟨4, r, c, b, ByteArray.empty, n⟩ : St).k, .int .i64 (⟨4, r, c, b, ByteArray.empty, n⟩ : St).r.x, .int .i64 (⟨4, r, c, b, ByteArray.empty, n⟩ : St).r.y, .int .i64 (⟨4, r, c, b, ByteArray.empty, n⟩ : St).r.w, .int .i64 (⟨4, r, c, b, ByteArray.empty, n⟩ : St).r.h, .int .u8 (⟨4, r, c, b, ByteArray.empty, n⟩ : St).c.r, .int .u8 (⟨4, r, c, b, ByteArray.empty, n⟩ : St).c.g, .int .u8 (⟨4, r, c, b, ByteArray.empty, n⟩ : St).c.b, .int .u8 (⟨4, r, c, b, ByteArray.empty, n⟩ : St).c.a, .int .u8 (⟨4, r, c, b, ByteArray.empty, n⟩ : St).b.r, .int .u8 (⟨4, r, c, b, ByteArray.empty, n⟩ : St).b.g, .int .u8 (⟨4, r, c, b, ByteArray.empty, n⟩ : St).b.b, .int .u8 (⟨4, r, c, b, ByteArray.empty, n⟩ : St).b.a, .string (⟨4, r, c, b, ByteArray.empty, n⟩ : St).t, .int .i64 (⟨4, r, c, b, ByteArray.empty, n⟩ : St).n])] w fun e w' => e = .returned (.bool true) ∧ Below w.heap.size w w' := by
  have HL : Hid (∀ c, Below w.heap.size w (w.alloc c)) := fun c => (Below.refl _ w).alloc (Nat.le_refl _) _
  have HD : Hid (∀ W, Calls Tryz.prog 56 #[(Value.agg #[.int .u8 (⟨4, r, c, b, ByteArray.empty, n⟩ : St).k, .int .i64 (⟨4, r, c, b, ByteArray.empty, n⟩ : St).r.x, .int .i64 (⟨4, r, c, b, ByteArray.empty, n⟩ : St).r.y, .int .i64 (⟨4, r, c, b, ByteArray.empty, n⟩ : St).r.w, .int .i64 (⟨4, r, c, b, ByteArray.empty, n⟩ : St).r.h, .int .u8 (⟨4, r, c, b, ByteArray.empty, n⟩ : St).c.r, .int .u8 (⟨4, r, c, b, ByteArray.empty, n⟩ : St).c.g, .int .u8 (⟨4, r, c, b, ByteArray.empty, n⟩ : St).c.b, .int .u8 (⟨4, r, c, b, ByteArray.empty, n⟩ : St).c.a, .int .u8 (⟨4, r, c, b, ByteArray.empty, n⟩ : St).b.r, .int .u8 (⟨4, r, c, b, ByteArray.empty, n⟩ : St).b.g, .int .u8 (⟨4, r, c, b, ByteArray.empty, n⟩ : St).b.b, .int .u8 (⟨4, r, c, b, ByteArray.empty, n⟩ : St).b.a, .string (⟨4, r, c, b, ByteArray.empty, n⟩ : St).t, .int .i64 (⟨4, r, c, b, ByteArray.empty, n⟩ : St).n])] W fun e w' => e = .returned (.bool false) ∧ Below W.heap.size W w') := fun W => draws_any (⟨4, r, c, b, ByteArray.empty, n⟩ : St) W (by unfold Kd; simp)
  have HB : Hid (∀ W, Below (w.alloc (.cells (#[.int .u8 (⟨4, r, c, b, ByteArray.empty, n⟩ : St).k, .int .i64 (⟨4, r, c, b, ByteArray.empty, n⟩ : St).r.x, .int .i64 (⟨4, r, c, b, ByteArray.empty, n⟩ : St).r.y, .int .i64 (⟨4, r, c, b, ByteArray.empty, n⟩ : St).r.w, .int .i64 (⟨4, r, c, b, ByteArray.empty, n⟩ : St).r.h, .int .u8 (⟨4, r, c, b, ByteArray.empty, n⟩ : St).c.r, .int .u8 (⟨4, r, c, b, ByteArray.empty, n⟩ : St).c.g, .int .u8 (⟨4, r, c, b, ByteArray.empty, n⟩ : St).c.b, .int .u8 (⟨4, r, c, b, ByteArray.empty, n⟩ : St).c.a, .int .u8 (⟨4, r, c, b, ByteArray.empty, n⟩ : St).b.r, .int .u8 (⟨4, r, c, b, ByteArray.empty, n⟩ : St).b.g, .int .u8 (⟨4, r, c, b, ByteArray.empty, n⟩ : St).b.b, .int .u8 (⟨4, r, c, b, ByteArray.empty, n⟩ : St).b.a, .string (⟨4, r, c, b, ByteArray.empty, n⟩ : St).t, .int .i64 (⟨4, r, c, b, ByteArray.empty, n⟩ : St).n]) 55)).heap.size (w.alloc (.cells (#[.int .u8 (⟨4, r, c, b, ByteArray.empty, n⟩ : St).k, .int .i64 (⟨4, r, c, b, ByteArray.empty, n⟩ : St).r.x, .int .i64 (⟨4, r, c, b, ByteArray.empty, n⟩ : St).r.y, .int .i64 (⟨4, r, c, b, ByteArray.empty, n⟩ : St).r.w, .int .i64 (⟨4, r, c, b, ByteArray.empty, n⟩ : St).r.h, .int .u8 (⟨4, r, c, b, ByteArray.empty, n⟩ : St).c.r, .int .u8 (⟨4, r, c, b, ByteArray.empty, n⟩ : St).c.g, .int .u8 (⟨4, r, c, b, ByteArray.empty, n⟩ : St).c.b, .int .u8 (⟨4, r, c, b, ByteArray.empty, n⟩ : St).c.a, .int .u8 (⟨4, r, c, b, ByteArray.empty, n⟩ : St).b.r, .int .u8 (⟨4, r, c, b, ByteArray.empty, n⟩ : St).b.g, .int .u8 (⟨4, r, c, b, ByteArray.empty, n⟩ : St).b.b, .int .u8 (⟨4, r, c, b, ByteArray.empty, n⟩ : St).b.a, .string (⟨4, r, c, b, ByteArray.empty, n⟩ : St).t, .int .i64 (⟨4, r, c, b, ByteArray.empty, n⟩ : St).n]) 55)) W → Bk W w.heap.size (#[.int .u8 (⟨4, r, c, b, ByteArray.empty, n⟩ : St).k, .int .i64 (⟨4, r, c, b, ByteArray.empty, n⟩ : St).r.x, .int .i64 (⟨4, r, c, b, ByteArray.empty, n⟩ : St).r.y, .int .i64 (⟨4, r, c, b, ByteArray.empty, n⟩ : St).r.w, .int .i64 (⟨4, r, c, b, ByteArray.empty, n⟩ : St).r.h, .int .u8 (⟨4, r, c, b, ByteArray.empty, n⟩ : St).c.r, .int .u8 (⟨4, r, c, b, ByteArray.empty, n⟩ : St).c.g, .int .u8 (⟨4, r, c, b, ByteArray.empty, n⟩ : St).c.b, .int .u8 (⟨4, r, c, b, ByteArray.empty, n⟩ : St).c.a, .int .u8 (⟨4, r, c, b, ByteArray.empty, n⟩ : St).b.r, .int .u8 (⟨4, r, c, b, ByteArray.empty, n⟩ : St).b.g, .int .u8 (⟨4, r, c, b, ByteArray.empty, n⟩ : St).b.b, .int .u8 (⟨4, r, c, b, ByteArray.empty, n⟩ : St).b.a, .string (⟨4, r, c, b, ByteArray.empty, n⟩ : St).t, .int .i64 (⟨4, r, c, b, ByteArray.empty, n⟩ : St).n]) 55 ∧ Below w.heap.size w W) := fun W h => ⟨(Bk.new w _ _).below h, (HL.out _).trans (h.mono (HL.out _).size)⟩
  have E1 := neq_co0 b
  have E2 := neq_co0 c
  have E3 := eql_rc0 r
  rw [hb] at E1
  rw [hc] at E2
  go_enter Tryz.func72, Tryz.ntmps72
  go_wp2_with fail
  refine (HD.out _).mono ?_
  rintro e w1 ⟨rfl, hb1⟩
  obtain ⟨B1, B2⟩ := HB.out _ hb1
  have H1 : Hid (Below w.heap.size w w1) := B2
  have cc := B1.cell
  have a0 := cc 0
  have a5 := cc 5
  have a6 := cc 6
  have a7 := cc 7
  have a8 := cc 8
  simp only [List.getElem?_toArray, List.getElem?_cons_zero, List.getElem?_cons_succ] at a0 a5 a6 a7 a8
  clear hb1 B1 B2 cc HB HD
  go_wp2
  go_ret
  exact ⟨rfl, H1.out⟩

set_option maxRecDepth 20000 in
set_option maxHeartbeats 4000000 in
theorem fields_5g (r : Rc) (c b : Co) (n : Int) (w : World) (hb : coE b = true) (hc : coE c = true) : Calls Tryz.prog 72 #[(Value.agg #[.int .u8 (⟨5, r, c, b, ByteArray.empty, n⟩ : St).k, .int .i64 (⟨5, r, c, b, ByteArray.empty, n⟩ : St).r.x, .int .i64 (⟨5, r, c, b, ByteArray.empty, n⟩ : St).r.y, .int .i64 (⟨5, r, c, b, ByteArray.empty, n⟩ : St).r.w, .int .i64 (⟨5, r, c, b, ByteArray.empty, n⟩ : St).r.h, .int .u8 (⟨5, r, c, b, ByteArray.empty, n⟩ : St).c.r, .int .u8 (⟨5, r, c, b, ByteArray.empty, n⟩ : St).c.g, .int .u8 (⟨5, r, c, b, ByteArray.empty, n⟩ : St).c.b, .int .u8 (⟨5, r, c, b, ByteArray.empty, n⟩ : St).c.a, .int .u8 (⟨5, r, c, b, ByteArray.empty, n⟩ : St).b.r, .int .u8 (⟨5, r, c, b, ByteArray.empty, n⟩ : St).b.g, .int .u8 (⟨5, r, c, b, ByteArray.empty, n⟩ : St).b.b, .int .u8 (⟨5, r, c, b, ByteArray.empty, n⟩ : St).b.a, .string (⟨5, r, c, b, ByteArray.empty, n⟩ : St).t, .int .i64 (⟨5, r, c, b, ByteArray.empty, n⟩ : St).n])] w fun e w' => e = .returned (.bool (zZr r)) ∧ Below w.heap.size w w' := by
  have HL : Hid (∀ c, Below w.heap.size w (w.alloc c)) := fun c => (Below.refl _ w).alloc (Nat.le_refl _) _
  have HD : Hid (∀ W, Calls Tryz.prog 56 #[(Value.agg #[.int .u8 (⟨5, r, c, b, ByteArray.empty, n⟩ : St).k, .int .i64 (⟨5, r, c, b, ByteArray.empty, n⟩ : St).r.x, .int .i64 (⟨5, r, c, b, ByteArray.empty, n⟩ : St).r.y, .int .i64 (⟨5, r, c, b, ByteArray.empty, n⟩ : St).r.w, .int .i64 (⟨5, r, c, b, ByteArray.empty, n⟩ : St).r.h, .int .u8 (⟨5, r, c, b, ByteArray.empty, n⟩ : St).c.r, .int .u8 (⟨5, r, c, b, ByteArray.empty, n⟩ : St).c.g, .int .u8 (⟨5, r, c, b, ByteArray.empty, n⟩ : St).c.b, .int .u8 (⟨5, r, c, b, ByteArray.empty, n⟩ : St).c.a, .int .u8 (⟨5, r, c, b, ByteArray.empty, n⟩ : St).b.r, .int .u8 (⟨5, r, c, b, ByteArray.empty, n⟩ : St).b.g, .int .u8 (⟨5, r, c, b, ByteArray.empty, n⟩ : St).b.b, .int .u8 (⟨5, r, c, b, ByteArray.empty, n⟩ : St).b.a, .string (⟨5, r, c, b, ByteArray.empty, n⟩ : St).t, .int .i64 (⟨5, r, c, b, ByteArray.empty, n⟩ : St).n])] W fun e w' => e = .returned (.bool false) ∧ Below W.heap.size W w') := fun W => draws_any (⟨5, r, c, b, ByteArray.empty, n⟩ : St) W (by unfold Kd; simp)
  have HB : Hid (∀ W, Below (w.alloc (.cells (#[.int .u8 (⟨5, r, c, b, ByteArray.empty, n⟩ : St).k, .int .i64 (⟨5, r, c, b, ByteArray.empty, n⟩ : St).r.x, .int .i64 (⟨5, r, c, b, ByteArray.empty, n⟩ : St).r.y, .int .i64 (⟨5, r, c, b, ByteArray.empty, n⟩ : St).r.w, .int .i64 (⟨5, r, c, b, ByteArray.empty, n⟩ : St).r.h, .int .u8 (⟨5, r, c, b, ByteArray.empty, n⟩ : St).c.r, .int .u8 (⟨5, r, c, b, ByteArray.empty, n⟩ : St).c.g, .int .u8 (⟨5, r, c, b, ByteArray.empty, n⟩ : St).c.b, .int .u8 (⟨5, r, c, b, ByteArray.empty, n⟩ : St).c.a, .int .u8 (⟨5, r, c, b, ByteArray.empty, n⟩ : St).b.r, .int .u8 (⟨5, r, c, b, ByteArray.empty, n⟩ : St).b.g, .int .u8 (⟨5, r, c, b, ByteArray.empty, n⟩ : St).b.b, .int .u8 (⟨5, r, c, b, ByteArray.empty, n⟩ : St).b.a, .string (⟨5, r, c, b, ByteArray.empty, n⟩ : St).t, .int .i64 (⟨5, r, c, b, ByteArray.empty, n⟩ : St).n]) 55)).heap.size (w.alloc (.cells (#[.int .u8 (⟨5, r, c, b, ByteArray.empty, n⟩ : St).k, .int .i64 (⟨5, r, c, b, ByteArray.empty, n⟩ : St).r.x, .int .i64 (⟨5, r, c, b, ByteArray.empty, n⟩ : St).r.y, .int .i64 (⟨5, r, c, b, ByteArray.empty, n⟩ : St).r.w, .int .i64 (⟨5, r, c, b, ByteArray.empty, n⟩ : St).r.h, .int .u8 (⟨5, r, c, b, ByteArray.empty, n⟩ : St).c.r, .int .u8 (⟨5, r, c, b, ByteArray.empty, n⟩ : St).c.g, .int .u8 (⟨5, r, c, b, ByteArray.empty, n⟩ : St).c.b, .int .u8 (⟨5, r, c, b, ByteArray.empty, n⟩ : St).c.a, .int .u8 (⟨5, r, c, b, ByteArray.empty, n⟩ : St).b.r, .int .u8 (⟨5, r, c, b, ByteArray.empty, n⟩ : St).b.g, .int .u8 (⟨5, r, c, b, ByteArray.empty, n⟩ : St).b.b, .int .u8 (⟨5, r, c, b, ByteArray.empty, n⟩ : St).b.a, .string (⟨5, r, c, b, ByteArray.empty, n⟩ : St).t, .int .i64 (⟨5, r, c, b, ByteArray.empty, n⟩ : St).n]) 55)) W → Bk W w.heap.size (#[.int .u8 (⟨5, r, c, b, ByteArray.empty, n⟩ : St).k, .int .i64 (⟨5, r, c, b, ByteArray.empty, n⟩ : St).r.x, .int .i64 (⟨5, r, c, b, ByteArray.empty, n⟩ : St).r.y, .int .i64 (⟨5, r, c, b, ByteArray.empty, n⟩ : St).r.w, .int .i64 (⟨5, r, c, b, ByteArray.empty, n⟩ : St).r.h, .int .u8 (⟨5, r, c, b, ByteArray.empty, n⟩ : St).c.r, .int .u8 (⟨5, r, c, b, ByteArray.empty, n⟩ : St).c.g, .int .u8 (⟨5, r, c, b, ByteArray.empty, n⟩ : St).c.b, .int .u8 (⟨5, r, c, b, ByteArray.empty, n⟩ : St).c.a, .int .u8 (⟨5, r, c, b, ByteArray.empty, n⟩ : St).b.r, .int .u8 (⟨5, r, c, b, ByteArray.empty, n⟩ : St).b.g, .int .u8 (⟨5, r, c, b, ByteArray.empty, n⟩ : St).b.b, .int .u8 (⟨5, r, c, b, ByteArray.empty, n⟩ : St).b.a, .string (⟨5, r, c, b, ByteArray.empty, n⟩ : St).t, .int .i64 (⟨5, r, c, b, ByteArray.empty, n⟩ : St).n]) 55 ∧ Below w.heap.size w W) := fun W h => ⟨(Bk.new w _ _).below h, (HL.out _).trans (h.mono (HL.out _).size)⟩
  have E1 := neq_co0 b
  have E2 := neq_co0 c
  have E3 := eql_rc0 r
  rw [hb] at E1
  rw [hc] at E2
  generalize zZr r = zb at *
  go_enter Tryz.func72, Tryz.ntmps72
  go_wp2_with fail
  refine (HD.out _).mono ?_
  rintro e w1 ⟨rfl, hb1⟩
  obtain ⟨B1, B2⟩ := HB.out _ hb1
  have H1 : Hid (Below w.heap.size w w1) := B2
  have cc := B1.cell
  have a0 := cc 0
  have a1 := cc 1
  have a2 := cc 2
  have a3 := cc 3
  have a4 := cc 4
  have a5 := cc 5
  have a6 := cc 6
  have a7 := cc 7
  have a8 := cc 8
  simp only [List.getElem?_toArray, List.getElem?_cons_zero, List.getElem?_cons_succ] at a0 a1 a2 a3 a4 a5 a6 a7 a8
  clear hb1 B1 B2 cc HB HD
  go_wp2
  go_ret
  exact ⟨rfl, H1.out⟩

set_option maxRecDepth 20000 in
set_option maxHeartbeats 4000000 in
theorem fields_any (s : St) (w : World) (hk : Kd s) : Calls Tryz.prog 72 #[(Value.agg #[.int .u8 s.k, .int .i64 s.r.x, .int .i64 s.r.y, .int .i64 s.r.w, .int .i64 s.r.h, .int .u8 s.c.r, .int .u8 s.c.g, .int .u8 s.c.b, .int .u8 s.c.a, .int .u8 s.b.r, .int .u8 s.b.g, .int .u8 s.b.b, .int .u8 s.b.a, .string s.t, .int .i64 s.n])] w fun e w' => e = .returned (.bool (!wroF s)) ∧ Below w.heap.size w w' := by
  have HL : Hid (∀ c, Below w.heap.size w (w.alloc c)) := fun c => (Below.refl _ w).alloc (Nat.le_refl _) _
  have cs := wroF_cases hk
  rcases cs with ⟨n3, hz, hf⟩ | ⟨n3, hz, hb, hf⟩ | ⟨hq, hz, hb, hc, hf⟩ | ⟨hq, hz, hb, hf⟩ | ⟨hq, hf⟩ | ⟨hq, hz, hb, hc, hf⟩ | ⟨hq, hz, hb, hc, hf⟩
  · rw [hf]
    obtain ⟨z1, z2⟩ := ztx_ne hz
    have E1 := neq_co0 s.b
    have E2 := neq_co0 s.c
    have E3 := eql_rc0 s.r
    clear hf
    rcases hk with hk | hk | hk | hk | hk
    rotate_left 2
    · exact absurd hk n3
    all_goals
      clear n3
      go_enter Tryz.func72, Tryz.ntmps72
      go_wp2
      go_ret
      exact ⟨rfl, HL.out _⟩
  · rw [hf]
    have E1 := neq_co0 s.b
    have E2 := neq_co0 s.c
    have E3 := eql_rc0 s.r
    rw [hb] at E1
    have hz2 := ztx_nil hz
    clear hf
    rcases hk with hk | hk | hk | hk | hk
    rotate_left 2
    · exact absurd hk n3
    all_goals
      clear n3
      go_enter Tryz.func72, Tryz.ntmps72
      go_wp2
      go_ret
      exact ⟨rfl, HL.out _⟩
  all_goals
    rw [hf]
    clear hf hk
    obtain ⟨k, r, c, b, t, n⟩ := s
    dsimp only at *
  · obtain rfl := ztx_nil hz
    rcases hq with rfl | rfl
    · exact fields_4c r c b n w hb hc
    · exact fields_5c r c b n w hb hc
  · obtain rfl := ztx_nil hz
    rcases hq with rfl | rfl
    · exact fields_1d r c b n w hb
    · exact fields_2d r c b n w hb
  · subst hq
    exact fields_3e r c b t n w
  · obtain rfl := ztx_nil hz
    subst hq
    exact fields_4f r c b n w hb hc
  · obtain rfl := ztx_nil hz
    subst hq
    rw [Bool.not_not]
    exact fields_5g r c b n w hb hc

set_option maxRecDepth 20000 in
set_option maxHeartbeats 4000000 in
theorem mayBe_any (s : St) (w : World) (ht : s.t.size ≤ 9223372036854775807) (hx : I64 s.r.x) (hy : I64 s.r.y) :
    Calls Tryz.prog 38 #[(Value.agg #[.int .u8 s.k, .int .i64 s.r.x, .int .i64 s.r.y, .int .i64 s.r.w, .int .i64 s.r.h, .int .u8 s.c.r, .int .u8 s.c.g, .int .u8 s.c.b, .int .u8 s.c.a, .int .u8 s.b.r, .int .u8 s.b.g, .int .u8 s.b.b, .int .u8 s.b.a, .string s.t, .int .i64 s.n])] w fun e w' => e = .returned (.int .i64 (oneE s)) ∧ Below w.heap.size w w' := by
  have HL : Hid (∀ c, Below w.heap.size w (w.alloc c)) := fun c => (Below.refl _ w).alloc (Nat.le_refl _) _
  unfold oneE
  cases hw : wroK s
  · obtain ⟨h1, h2, h3, h4, h5, hk⟩ := wroK_no hw
    have HF : Hid (∀ W, Calls Tryz.prog 72 #[(Value.agg #[.int .u8 s.k, .int .i64 s.r.x, .int .i64 s.r.y, .int .i64 s.r.w, .int .i64 s.r.h, .int .u8 s.c.r, .int .u8 s.c.g, .int .u8 s.c.b, .int .u8 s.c.a, .int .u8 s.b.r, .int .u8 s.b.g, .int .u8 s.b.b, .int .u8 s.b.a, .string s.t, .int .i64 s.n])] W fun e w' => e = .returned (.bool (!wroF s)) ∧ Below W.heap.size W w') := fun W => fields_any s W hk
    have HC : Hid (∀ W, Calls Tryz.prog 60 #[.agg #[.int .i64 s.r.x, .int .i64 s.r.y, .int .i64 s.r.w, .int .i64 s.r.h]] W fun e w' => e = .returned (.int .i64 (if zMa s.r = true then 0 else 5)) ∧ Below W.heap.size W w') := fun W => check_any _ _ _ _ W hx hy
    have HB : Hid (∀ W, Below (w.alloc (.cells (#[.int .u8 s.k, .int .i64 s.r.x, .int .i64 s.r.y, .int .i64 s.r.w, .int .i64 s.r.h, .int .u8 s.c.r, .int .u8 s.c.g, .int .u8 s.c.b, .int .u8 s.c.a, .int .u8 s.b.r, .int .u8 s.b.g, .int .u8 s.b.b, .int .u8 s.b.a, .string s.t, .int .i64 s.n]) 55)).heap.size (w.alloc (.cells (#[.int .u8 s.k, .int .i64 s.r.x, .int .i64 s.r.y, .int .i64 s.r.w, .int .i64 s.r.h, .int .u8 s.c.r, .int .u8 s.c.g, .int .u8 s.c.b, .int .u8 s.c.a, .int .u8 s.b.r, .int .u8 s.b.g, .int .u8 s.b.b, .int .u8 s.b.a, .string s.t, .int .i64 s.n]) 55)) W → Bk W w.heap.size (#[.int .u8 s.k, .int .i64 s.r.x, .int .i64 s.r.y, .int .i64 s.r.w, .int .i64 s.r.h, .int .u8 s.c.r, .int .u8 s.c.g, .int .u8 s.c.b, .int .u8 s.c.a, .int .u8 s.b.r, .int .u8 s.b.g, .int .u8 s.b.b, .int .u8 s.b.a, .string s.t, .int .i64 s.n]) 55 ∧ Below w.heap.size w W) := fun W h => ⟨(Bk.new w _ _).below h, (HL.out _).trans (h.mono (HL.out _).size)⟩
    have h1' : decide (s.k < 1) = false := decide_eq_false h1
    have h2' : decide (5 < s.k) = false := decide_eq_false h2
    rw [Bool.false_or]
    generalize (if zMa s.r = true then (0 : Int) else 5) = ce at *
    clear hw hk ht hx hy h1' h2'
    cases hf : wroF s
    · rw [hf] at HF
      rw [if_neg (by simp)]
      clear hf
      go_enter Tryz.func38, Tryz.ntmps38
      go_wp2_with fail
      refine (HF.out _).mono ?_
      rintro e w1 ⟨rfl, hb1⟩
      obtain ⟨B1, B2⟩ := HB.out _ hb1
      have H1 : Hid (Below w.heap.size w w1) := B2
      have cc := B1.cell
      have a1 := cc 1
      have a2 := cc 2
      have a3 := cc 3
      have a4 := cc 4
      simp only [List.getElem?_toArray, List.getElem?_cons_zero, List.getElem?_cons_succ] at a1 a2 a3 a4
      clear hb1 B1 B2 cc
      go_wp2_with fail
      refine (HC.out _).mono ?_
      rintro e w2 ⟨rfl, hb2⟩
      have H2 : Hid (Below w.heap.size w w2) := H1.out.trans (hb2.mono H1.out.size)
      clear hb2
      go_wp2
      go_ret
      exact ⟨rfl, H2.out⟩
    · rw [hf] at HF
      rw [if_pos rfl]
      clear hf
      go_enter Tryz.func38, Tryz.ntmps38
      go_wp2_with fail
      refine (HF.out _).mono ?_
      rintro e w1 ⟨rfl, hb1⟩
      have H1 : Hid (Below w.heap.size w w1) := (HB.out _ hb1).2
      clear hb1
      go_wp2
      go_ret
      exact ⟨rfl, H1.out⟩
  · rw [Bool.true_or, if_pos rfl]
    unfold wroK at hw
    simp only [Bool.or_eq_true, decide_eq_true_eq] at hw
    have cs : s.k < 1 ∨ (¬ s.k < 1 ∧ 5 < s.k) ∨ (¬ s.k < 1 ∧ ¬ 5 < s.k ∧ s.n < 0) ∨ (¬ s.k < 1 ∧ ¬ 5 < s.k ∧ ¬ s.n < 0 ∧ 1048576 < s.n) ∨ (¬ s.k < 1 ∧ ¬ 5 < s.k ∧ ¬ s.n < 0 ∧ ¬ 1048576 < s.n ∧ (65536 : Int) < (s.t.size : Int)) := by omega
    clear hw hx hy
    rcases cs with h1 | ⟨h1, h2⟩ | ⟨h1, h2, h3⟩ | ⟨h1, h2, h3, h4⟩ | ⟨h1, h2, h3, h4, h5⟩
    all_goals
      go_enter Tryz.func38, Tryz.ntmps38
      go_wp2
      go_ret
      exact ⟨rfl, HL.out _⟩

end Go.Proofs.YtapachlhdgehjaaGreatDoor
