/-
  Texts of this claim, one behind the other: what each is about stands ahead of it.
-/
import Derived.Test.YtfjbnejmcanamaaGreatDoorK16
import Derived.Test.YtfjbnejmcanamaaGreatDoorK3
import Derived.WalkMore
import Derived.Maps.AppendAt
/-
  Contracts of package list: what is wrong with a stroke, what is wrong with a list.
-/
namespace Go.Proofs.YtfjbnejmcanamaaGreatDoor
open Go.RowKit

/-- One of the five kinds. -/
def Kd (s : St) : Prop := s.k = 1 ∨ s.k = 2 ∨ s.k = 3 ∨ s.k = 4 ∨ s.k = 5
theorem kd_one {s : St} (h : oneE s = 0) : Kd s := (oneE_zero h).2.1
theorem chk_zMa (r : Rc) : chk r.x r.y r.w r.h = if zMa r = true then 0 else 5 := rfl
theorem eql_rc0 (a : Rc) (w : World) : (binOp .eql 51 (.agg #[.int .i64 a.x, .int .i64 a.y, .int .i64 a.w, .int .i64 a.h]) (.agg #[.int .i64 0, .int .i64 0, .int .i64 0, .int .i64 0])).run Tryz.prog w = .ok (.bool (zZr a)) w := by
  simp [go_sem]
  exact chainZ (chainZ (chainZ chainY))

set_option maxHeartbeats 1000000 in
theorem draws_any (s : St) (w : World) (hk : Kd s) : Calls Tryz.prog 40 #[(Value.agg #[.int .u8 s.k, .int .i64 s.r.x, .int .i64 s.r.y, .int .i64 s.r.w, .int .i64 s.r.h, .int .u8 s.c.r, .int .u8 s.c.g, .int .u8 s.c.b, .int .u8 s.c.a, .int .u8 s.b.r, .int .u8 s.b.g, .int .u8 s.b.b, .int .u8 s.b.a, .string s.t, .int .i64 s.n])] w fun e w' => e = .returned (.bool (drw s)) ∧ Below w.heap.size w w' := by
  have HL : Hid (∀ c, Below w.heap.size w (w.alloc c)) := fun c => (Below.refl _ w).alloc (Nat.le_refl _) _
  rcases hk with hk | hk | hk | hk | hk
  all_goals
    have hd : drw s = decide (s.k < 4) := rfl
    rw [hk] at hd
    rw [hd]
    clear hd
    go_enter Tryz.func40, Tryz.ntmps40
    go_wp2
    go_ret
    exact ⟨rfl, HL.out _⟩

theorem wroF_cases {s : St} (hk : Kd s) :
    (s.k ≠ 3 ∧ s.t.size ≠ 0 ∧ wroF s = true) ∨ (s.k ≠ 3 ∧ s.t.size = 0 ∧ coE s.b = false ∧ wroF s = true) ∨
    ((s.k = 4 ∨ s.k = 5) ∧ s.t.size = 0 ∧ coE s.b = true ∧ coE s.c = false ∧ wroF s = true) ∨
    ((s.k = 1 ∨ s.k = 2) ∧ s.t.size = 0 ∧ coE s.b = true ∧ wroF s = false) ∨ (s.k = 3 ∧ wroF s = false) ∨
    (s.k = 4 ∧ s.t.size = 0 ∧ coE s.b = true ∧ coE s.c = true ∧ wroF s = false) ∨
    (s.k = 5 ∧ s.t.size = 0 ∧ coE s.b = true ∧ coE s.c = true ∧ wroF s = !zZr s.r) := by
  unfold wroF
  by_cases hz : s.t.size = 0
  · cases hb : coE s.b <;> cases hc : coE s.c <;> cases hr : zZr s.r <;> rcases hk with k | k | k | k | k <;> simp [k, hz]
  · rcases hk with k | k | k | k | k <;> simp [k, hz]

set_option maxRecDepth 20000 in
set_option maxHeartbeats 4000000 in
theorem fields_4c (r : Rc) (c b : Co) (n : Int) (w : World) (hb : coE b = true) (hc : coE c = false) : Calls Tryz.prog 48 #[(Value.agg #[.int .u8 (⟨4, r, c, b, ByteArray.empty, n⟩ : St).k, .int .i64 (⟨4, r, c, b, ByteArray.empty, n⟩ : St).r.x, .int .i64 (⟨4, r, c, b, ByteArray.empty, n⟩ : St).r.y, .int .i64 (⟨4, r, c, b, ByteArray.empty, n⟩ : St).r.w, .int .i64 (⟨4, r, c, b, ByteArray.empty, n⟩ : St).r.h, .int .u8 (⟨4, r, c, b, ByteArray.empty, n⟩ : St).c.r, .int .u8 (⟨4, r, c, b, ByteArray.empty, n⟩ : St).c.g, .int .u8 (⟨4, r, c, b, ByteArray.empty, n⟩ : St).c.b, .int .u8 (⟨4, r, c, b, ByteArray.empty, n⟩ : St).c.a, .int .u8 (⟨4, r, c, b, ByteArray.empty, n⟩ : St).b.r, .int .u8 (⟨4, r, c, b, ByteArray.empty, n⟩ : St).b.g, .int .u8 (⟨4, r, c, b, ByteArray.empty, n⟩ : St).b.b, .int .u8 (⟨4, r, c, b, ByteArray.empty, n⟩ : St).b.a, .string (⟨4, r, c, b, ByteArray.empty, n⟩ : St).t, .int .i64 (⟨4, r, c, b, ByteArray.empty, n⟩ : St).n])] w fun e w' => e = .returned (.bool false) ∧ Below w.heap.size w w' := by
  have HL : Hid (∀ c, Below w.heap.size w (w.alloc c)) := fun c => (Below.refl _ w).alloc (Nat.le_refl _) _
  have HD : Hid (∀ W, Calls Tryz.prog 40 #[(Value.agg #[.int .u8 (⟨4, r, c, b, ByteArray.empty, n⟩ : St).k, .int .i64 (⟨4, r, c, b, ByteArray.empty, n⟩ : St).r.x, .int .i64 (⟨4, r, c, b, ByteArray.empty, n⟩ : St).r.y, .int .i64 (⟨4, r, c, b, ByteArray.empty, n⟩ : St).r.w, .int .i64 (⟨4, r, c, b, ByteArray.empty, n⟩ : St).r.h, .int .u8 (⟨4, r, c, b, ByteArray.empty, n⟩ : St).c.r, .int .u8 (⟨4, r, c, b, ByteArray.empty, n⟩ : St).c.g, .int .u8 (⟨4, r, c, b, ByteArray.empty, n⟩ : St).c.b, .int .u8 (⟨4, r, c, b, ByteArray.empty, n⟩ : St).c.a, .int .u8 (⟨4, r, c, b, ByteArray.empty, n⟩ : St).b.r, .int .u8 (⟨4, r, c, b, ByteArray.empty, n⟩ : St).b.g, .int .u8 (⟨4, r, c, b, ByteArray.empty, n⟩ : St).b.b, .int .u8 (⟨4, r, c, b, ByteArray.empty, n⟩ : St).b.a, .string (⟨4, r, c, b, ByteArray.empty, n⟩ : St).t, .int .i64 (⟨4, r, c, b, ByteArray.empty, n⟩ : St).n])] W fun e w' => e = .returned (.bool false) ∧ Below W.heap.size W w') := fun W => draws_any (⟨4, r, c, b, ByteArray.empty, n⟩ : St) W (by unfold Kd; simp)
  have HB : Hid (∀ W, Below (w.alloc (.cells (#[.int .u8 (⟨4, r, c, b, ByteArray.empty, n⟩ : St).k, .int .i64 (⟨4, r, c, b, ByteArray.empty, n⟩ : St).r.x, .int .i64 (⟨4, r, c, b, ByteArray.empty, n⟩ : St).r.y, .int .i64 (⟨4, r, c, b, ByteArray.empty, n⟩ : St).r.w, .int .i64 (⟨4, r, c, b, ByteArray.empty, n⟩ : St).r.h, .int .u8 (⟨4, r, c, b, ByteArray.empty, n⟩ : St).c.r, .int .u8 (⟨4, r, c, b, ByteArray.empty, n⟩ : St).c.g, .int .u8 (⟨4, r, c, b, ByteArray.empty, n⟩ : St).c.b, .int .u8 (⟨4, r, c, b, ByteArray.empty, n⟩ : St).c.a, .int .u8 (⟨4, r, c, b, ByteArray.empty, n⟩ : St).b.r, .int .u8 (⟨4, r, c, b, ByteArray.empty, n⟩ : St).b.g, .int .u8 (⟨4, r, c, b, ByteArray.empty, n⟩ : St).b.b, .int .u8 (⟨4, r, c, b, ByteArray.empty, n⟩ : St).b.a, .string (⟨4, r, c, b, ByteArray.empty, n⟩ : St).t, .int .i64 (⟨4, r, c, b, ByteArray.empty, n⟩ : St).n]) 53)).heap.size (w.alloc (.cells (#[.int .u8 (⟨4, r, c, b, ByteArray.empty, n⟩ : St).k, .int .i64 (⟨4, r, c, b, ByteArray.empty, n⟩ : St).r.x, .int .i64 (⟨4, r, c, b, ByteArray.empty, n⟩ : St).r.y, .int .i64 (⟨4, r, c, b, ByteArray.empty, n⟩ : St).r.w, .int .i64 (⟨4, r, c, b, ByteArray.empty, n⟩ : St).r.h, .int .u8 (⟨4, r, c, b, ByteArray.empty, n⟩ : St).c.r, .int .u8 (⟨4, r, c, b, ByteArray.empty, n⟩ : St).c.g, .int .u8 (⟨4, r, c, b, ByteArray.empty, n⟩ : St).c.b, .int .u8 (⟨4, r, c, b, ByteArray.empty, n⟩ : St).c.a, .int .u8 (⟨4, r, c, b, ByteArray.empty, n⟩ : St).b.r, .int .u8 (⟨4, r, c, b, ByteArray.empty, n⟩ : St).b.g, .int .u8 (⟨4, r, c, b, ByteArray.empty, n⟩ : St).b.b, .int .u8 (⟨4, r, c, b, ByteArray.empty, n⟩ : St).b.a, .string (⟨4, r, c, b, ByteArray.empty, n⟩ : St).t, .int .i64 (⟨4, r, c, b, ByteArray.empty, n⟩ : St).n]) 53)) W → Bk W w.heap.size (#[.int .u8 (⟨4, r, c, b, ByteArray.empty, n⟩ : St).k, .int .i64 (⟨4, r, c, b, ByteArray.empty, n⟩ : St).r.x, .int .i64 (⟨4, r, c, b, ByteArray.empty, n⟩ : St).r.y, .int .i64 (⟨4, r, c, b, ByteArray.empty, n⟩ : St).r.w, .int .i64 (⟨4, r, c, b, ByteArray.empty, n⟩ : St).r.h, .int .u8 (⟨4, r, c, b, ByteArray.empty, n⟩ : St).c.r, .int .u8 (⟨4, r, c, b, ByteArray.empty, n⟩ : St).c.g, .int .u8 (⟨4, r, c, b, ByteArray.empty, n⟩ : St).c.b, .int .u8 (⟨4, r, c, b, ByteArray.empty, n⟩ : St).c.a, .int .u8 (⟨4, r, c, b, ByteArray.empty, n⟩ : St).b.r, .int .u8 (⟨4, r, c, b, ByteArray.empty, n⟩ : St).b.g, .int .u8 (⟨4, r, c, b, ByteArray.empty, n⟩ : St).b.b, .int .u8 (⟨4, r, c, b, ByteArray.empty, n⟩ : St).b.a, .string (⟨4, r, c, b, ByteArray.empty, n⟩ : St).t, .int .i64 (⟨4, r, c, b, ByteArray.empty, n⟩ : St).n]) 53 ∧ Below w.heap.size w W) := fun W h => ⟨(Bk.new w _ _).below h, (HL.out _).trans (h.mono (HL.out _).size)⟩
  have E1 := neq_co0 b
  have E2 := neq_co0 c
  have E3 := eql_rc0 r
  rw [hb] at E1
  rw [hc] at E2
  go_enter Tryz.func48, Tryz.ntmps48
  go_wp2_with fail
  refine (HD.out _).mono ?_
  rintro e w1 ⟨rfl, hb1⟩
  obtain ⟨B1, B2⟩ := HB.out _ hb1
  have H1 : Hid (Below w.heap.size w w1) := B2
  have cc := B1.cell
  have a5 := cc 5
  have a6 := cc 6
  have a7 := cc 7
  have a8 := cc 8
  simp only [List.getElem?_toArray, List.getElem?_cons_zero, List.getElem?_cons_succ] at a5 a6 a7 a8
  clear hb1 B1 B2 cc HB HD
  go_wp2
  go_ret
  exact ⟨rfl, H1.out⟩

set_option maxRecDepth 20000 in
set_option maxHeartbeats 4000000 in
theorem fields_5c (r : Rc) (c b : Co) (n : Int) (w : World) (hb : coE b = true) (hc : coE c = false) : Calls Tryz.prog 48 #[(Value.agg #[.int .u8 (⟨5, r, c, b, ByteArray.empty, n⟩ : St).k, .int .i64 (⟨5, r, c, b, ByteArray.empty, n⟩ : St).r.x, .int .i64 (⟨5, r, c, b, ByteArray.empty, n⟩ : St).r.y, .int .i64 (⟨5, r, c, b, ByteArray.empty, n⟩ : St).r.w, .int .i64 (⟨5, r, c, b, ByteArray.empty, n⟩ : St).r.h, .int .u8 (⟨5, r, c, b, ByteArray.empty, n⟩ : St).c.r, .int .u8 (⟨5, r, c, b, ByteArray.empty, n⟩ : St).c.g, .int .u8 (⟨5, r, c, b, ByteArray.empty, n⟩ : St).c.b, .int .u8 (⟨5, r, c, b, ByteArray.empty, n⟩ : St).c.a, .int .u8 (⟨5, r, c, b, ByteArray.empty, n⟩ : St).b.r, .int .u8 (⟨5, r, c, b, ByteArray.empty, n⟩ : St).b.g, .int .u8 (⟨5, r, c, b, ByteArray.empty, n⟩ : St).b.b, .int .u8 (⟨5, r, c, b, ByteArray.empty, n⟩ : St).b.a, .string (⟨5, r, c, b, ByteArray.empty, n⟩ : St).t, .int .i64 (⟨5, r, c, b, ByteArray.empty, n⟩ : St).n])] w fun e w' => e = .returned (.bool false) ∧ Below w.heap.size w w' := by
  have HL : Hid (∀ c, Below w.heap.size w (w.alloc c)) := fun c => (Below.refl _ w).alloc (Nat.le_refl _) _
  have HD : Hid (∀ W, Calls Tryz.prog 40 #[(Value.agg #[.int .u8 (⟨5, r, c, b, ByteArray.empty, n⟩ : St).k, .int .i64 (⟨5, r, c, b, ByteArray.empty, n⟩ : St).r.x, .int .i64 (⟨5, r, c, b, ByteArray.empty, n⟩ : St).r.y, .int .i64 (⟨5, r, c, b, ByteArray.empty, n⟩ : St).r.w, .int .i64 (⟨5, r, c, b, ByteArray.empty, n⟩ : St).r.h, .int .u8 (⟨5, r, c, b, ByteArray.empty, n⟩ : St).c.r, .int .u8 (⟨5, r, c, b, ByteArray.empty, n⟩ : St).c.g, .int .u8 (⟨5, r, c, b, ByteArray.empty, n⟩ : St).c.b, .int .u8 (⟨5, r, c, b, ByteArray.empty, n⟩ : St).c.a, .int .u8 (⟨5, r, c, b, ByteArray.empty, n⟩ : St).b.r, .int .u8 (⟨5, r, c, b, ByteArray.empty, n⟩ : St).b.g, .int .u8 (⟨5, r, c, b, ByteArray.empty, n⟩ : St).b.b, .int .u8 (⟨5, r, c, b, ByteArray.empty, n⟩ : St).b.a, .string (⟨5, r, c, b, ByteArray.empty, n⟩ : St).t, .int .i64 (⟨5, r, c, b, ByteArray.empty, n⟩ : St).n])] W fun e w' => e = .returned (.bool false) ∧ Below W.heap.size W w') := fun W => draws_any (⟨5, r, c, b, ByteArray.empty, n⟩ : St) W (by unfold Kd; simp)
  have HB : Hid (∀ W, Below (w.alloc (.cells (#[.int .u8 (⟨5, r, c, b, ByteArray.empty, n⟩ : St).k, .int .i64 (⟨5, r, c, b, ByteArray.empty, n⟩ : St).r.x, .int .i64 (⟨5, r, c, b, ByteArray.empty, n⟩ : St).r.y, .int .i64 (⟨5, r, c, b, ByteArray.empty, n⟩ : St).r.w, .int .i64 (⟨5, r, c, b, ByteArray.empty, n⟩ : St).r.h, .int .u8 (⟨5, r, c, b, ByteArray.empty, n⟩ : St).c.r, .int .u8 (⟨5, r, c, b, ByteArray.empty, n⟩ : St).c.g, .int .u8 (⟨5, r, c, b, ByteArray.empty, n⟩ : St).c.b, .int .u8 (⟨5, r, c, b, ByteArray.empty, n⟩ : St).c.a, .int .u8 (⟨5, r, c, b, ByteArray.empty, n⟩ : St).b.r, .int .u8 (⟨5, r, c, b, ByteArray.empty, n⟩ : St).b.g, .int .u8 (⟨5, r, c, b, ByteArray.empty, n⟩ : St).b.b, .int .u8 (⟨5, r, c, b, ByteArray.empty, n⟩ : St).b.a, .string (⟨5, r, c, b, ByteArray.empty, n⟩ : St).t, .int .i64 (⟨5, r, c, b, ByteArray.empty, n⟩ : St).n]) 53)).heap.size (w.alloc (.cells (#[.int .u8 (⟨5, r, c, b, ByteArray.empty, n⟩ : St).k, .int .i64 (⟨5, r, c, b, ByteArray.empty, n⟩ : St).r.x, .int .i64 (⟨5, r, c, b, ByteArray.empty, n⟩ : St).r.y, .int .i64 (⟨5, r, c, b, ByteArray.empty, n⟩ : St).r.w, .int .i64 (⟨5, r, c, b, ByteArray.empty, n⟩ : St).r.h, .int .u8 (⟨5, r, c, b, ByteArray.empty, n⟩ : St).c.r, .int .u8 (⟨5, r, c, b, ByteArray.empty, n⟩ : St).c.g, .int .u8 (⟨5, r, c, b, ByteArray.empty, n⟩ : St).c.b, .int .u8 (⟨5, r, c, b, ByteArray.empty, n⟩ : St).c.a, .int .u8 (⟨5, r, c, b, ByteArray.empty, n⟩ : St).b.r, .int .u8 (⟨5, r, c, b, ByteArray.empty, n⟩ : St).b.g, .int .u8 (⟨5, r, c, b, ByteArray.empty, n⟩ : St).b.b, .int .u8 (⟨5, r, c, b, ByteArray.empty, n⟩ : St).b.a, .string (⟨5, r, c, b, ByteArray.empty, n⟩ : St).t, .int .i64 (⟨5, r, c, b, ByteArray.empty, n⟩ : St).n]) 53)) W → Bk W w.heap.size (#[.int .u8 (⟨5, r, c, b, ByteArray.empty, n⟩ : St).k, .int .i64 (⟨5, r, c, b, ByteArray.empty, n⟩ : St).r.x, .int .i64 (⟨5, r, c, b, ByteArray.empty, n⟩ : St).r.y, .int .i64 (⟨5, r, c, b, ByteArray.empty, n⟩ : St).r.w, .int .i64 (⟨5, r, c, b, ByteArray.empty, n⟩ : St).r.h, .int .u8 (⟨5, r, c, b, ByteArray.empty, n⟩ : St).c.r, .int .u8 (⟨5, r, c, b, ByteArray.empty, n⟩ : St).c.g, .int .u8 (⟨5, r, c, b, ByteArray.empty, n⟩ : St).c.b, .int .u8 (⟨5, r, c, b, ByteArray.empty, n⟩ : St).c.a, .int .u8 (⟨5, r, c, b, ByteArray.empty, n⟩ : St).b.r, .int .u8 (⟨5, r, c, b, ByteArray.empty, n⟩ : St).b.g, .int .u8 (⟨5, r, c, b, ByteArray.empty, n⟩ : St).b.b, .int .u8 (⟨5, r, c, b, ByteArray.empty, n⟩ : St).b.a, .string (⟨5, r, c, b, ByteArray.empty, n⟩ : St).t, .int .i64 (⟨5, r, c, b, ByteArray.empty, n⟩ : St).n]) 53 ∧ Below w.heap.size w W) := fun W h => ⟨(Bk.new w _ _).below h, (HL.out _).trans (h.mono (HL.out _).size)⟩
  have E1 := neq_co0 b
  have E2 := neq_co0 c
  have E3 := eql_rc0 r
  rw [hb] at E1
  rw [hc] at E2
  go_enter Tryz.func48, Tryz.ntmps48
  go_wp2_with fail
  refine (HD.out _).mono ?_
  rintro e w1 ⟨rfl, hb1⟩
  obtain ⟨B1, B2⟩ := HB.out _ hb1
  have H1 : Hid (Below w.heap.size w w1) := B2
  have cc := B1.cell
  have a5 := cc 5
  have a6 := cc 6
  have a7 := cc 7
  have a8 := cc 8
  simp only [List.getElem?_toArray, List.getElem?_cons_zero, List.getElem?_cons_succ] at a5 a6 a7 a8
  clear hb1 B1 B2 cc HB HD
  go_wp2
  go_ret
  exact ⟨rfl, H1.out⟩

set_option maxRecDepth 20000 in
set_option maxHeartbeats 4000000 in
theorem fields_1d (r : Rc) (c b : Co) (n : Int) (w : World) (hb : coE b = true) : Calls Tryz.prog 48 #[(Value.agg #[.int .u8 (⟨1, r, c, b, ByteArray.empty, n⟩ : St).k, .int .i64 (⟨1, r, c, b, ByteArray.empty, n⟩ : St).r.x, .int .i64 (⟨1, r, c, b, ByteArray.empty, n⟩ : St).r.y, .int .i64 (⟨1, r, c, b, ByteArray.empty, n⟩ : St).r.w, .int .i64 (⟨1, r, c, b, ByteArray.empty, n⟩ : St).r.h, .int .u8 (⟨1, r, c, b, ByteArray.empty, n⟩ : St).c.r, .int .u8 (⟨1, r, c, b, ByteArray.empty, n⟩ : St).c.g, .int .u8 (⟨1, r, c, b, ByteArray.empty, n⟩ : St).c.b, .int .u8 (⟨1, r, c, b, ByteArray.empty, n⟩ : St).c.a, .int .u8 (⟨1, r, c, b, ByteArray.empty, n⟩ : St).b.r, .int .u8 (⟨1, r, c, b, ByteArray.empty, n⟩ : St).b.g, .int .u8 (⟨1, r, c, b, ByteArray.empty, n⟩ : St).b.b, .int .u8 (⟨1, r, c, b, ByteArray.empty, n⟩ : St).b.a, .string (⟨1, r, c, b, ByteArray.empty, n⟩ : St).t, .int .i64 (⟨1, r, c, b, ByteArray.empty, n⟩ : St).n])] w fun e w' => e = .returned (.bool true) ∧ Below w.heap.size w w' := by
  have HL : Hid (∀ c, Below w.heap.size w (w.alloc c)) := fun c => (Below.refl _ w).alloc (Nat.le_refl _) _
  have HD : Hid (∀ W, Calls Tryz.prog 40 #[(Value.agg #[.int .u8 (⟨1, r, c, b, ByteArray.empty, n⟩ : St).k, .int .i64 (⟨1, r, c, b, ByteArray.empty, n⟩ : St).r.x, .int .i64 (⟨1, r, c, b, ByteArray.empty, n⟩ : St).r.y, .int .i64 (⟨1, r, c, b, ByteArray.empty, n⟩ : St).r.w, .int .i64 (⟨1, r, c, b, ByteArray.empty, n⟩ : St).r.h, .int .u8 (⟨1, r, c, b, ByteArray.empty, n⟩ : St).c.r, .int .u8 (⟨1, r, c, b, ByteArray.empty, n⟩ : St).c.g, .int .u8 (⟨1, r, c, b, ByteArray.empty, n⟩ : St).c.b, .int .u8 (⟨1, r, c, b, ByteArray.empty, n⟩ : St).c.a, .int .u8 (⟨1, r, c, b, ByteArray.empty, n⟩ : St).b.r, .int .u8 (⟨1, r, c, b, ByteArray.empty, n⟩ : St).b.g, .int .u8 (⟨1, r, c, b, ByteArray.empty, n⟩ : St).b.b, .int .u8 (⟨1, r, c, b, ByteArray.empty, n⟩ : St).b.a, .string (⟨1, r, c, b, ByteArray.empty, n⟩ : St).t, .int .i64 (⟨1, r, c, b, ByteArray.empty, n⟩ : St).n])] W fun e w' => e = .returned (.bool true) ∧ Below W.heap.size W w') := fun W => draws_any (⟨1, r, c, b, ByteArray.empty, n⟩ : St) W (by unfold Kd; simp)
  have HB : Hid (∀ W, Below (w.alloc (.cells (#[.int .u8 (⟨1, r, c, b, ByteArray.empty, n⟩ : St).k, .int .i64 (⟨1, r, c, b, ByteArray.empty, n⟩ : St).r.x, .int .i64 (⟨1, r, c, b, ByteArray.empty, n⟩ : St).r.y, .int .i64 (⟨1, r, c, b, ByteArray.empty, n⟩ : St).r.w, .int .i64 (⟨1, r, c, b, ByteArray.empty, n⟩ : St).r.h, .int .u8 (⟨1, r, c, b, ByteArray.empty, n⟩ : St).c.r, .int .u8 (⟨1, r, c, b, ByteArray.empty, n⟩ : St).c.g, .int .u8 (⟨1, r, c, b, ByteArray.empty, n⟩ : St).c.b, .int .u8 (⟨1, r, c, b, ByteArray.empty, n⟩ : St).c.a, .int .u8 (⟨1, r, c, b, ByteArray.empty, n⟩ : St).b.r, .int .u8 (⟨1, r, c, b, ByteArray.empty, n⟩ : St).b.g, .int .u8 (⟨1, r, c, b, ByteArray.empty, n⟩ : St).b.b, .int .u8 (⟨1, r, c, b, ByteArray.empty, n⟩ : St).b.a, .string (⟨1, r, c, b, ByteArray.empty, n⟩ : St).t, .int .i64 (⟨1, r, c, b, ByteArray.empty, n⟩ : St).n]) 53)).heap.size (w.alloc (.cells (#[.int .u8 (⟨1, r, c, b, ByteArray.empty, n⟩ : St).k, .int .i64 (⟨1, r, c, b, ByteArray.empty, n⟩ : St).r.x, .int .i64 (⟨1, r, c, b, ByteArray.empty, n⟩ : St).r.y, .int .i64 (⟨1, r, c, b, ByteArray.empty, n⟩ : St).r.w, .int .i64 (⟨1, r, c, b, ByteArray.empty, n⟩ : St).r.h, .int .u8 (⟨1, r, c, b, ByteArray.empty, n⟩ : St).c.r, .int .u8 (⟨1, r, c, b, ByteArray.empty, n⟩ : St).c.g, .int .u8 (⟨1, r, c, b, ByteArray.empty, n⟩ : St).c.b, .int .u8 (⟨1, r, c, b, ByteArray.empty, n⟩ : St).c.a, .int .u8 (⟨1, r, c, b, ByteArray.empty, n⟩ : St).b.r, .int .u8 (⟨1, r, c, b, ByteArray.empty, n⟩ : St).b.g, .int .u8 (⟨1, r, c, b, ByteArray.empty, n⟩ : St).b.b, .int .u8 (⟨1, r, c, b, ByteArray.empty, n⟩ : St).b.a, .string (⟨1, r, c, b, ByteArray.empty, n⟩ : St).t, .int .i64 (⟨1, r, c, b, ByteArray.empty, n⟩ : St).n]) 53)) W → Bk W w.heap.size (#[.int .u8 (⟨1, r, c, b, ByteArray.empty, n⟩ : St).k, .int .i64 (⟨1, r, c, b, ByteArray.empty, n⟩ : St).r.x, .int .i64 (⟨1, r, c, b, ByteArray.empty, n⟩ : St).r.y, .int .i64 (⟨1, r, c, b, ByteArray.empty, n⟩ : St).r.w, .int .i64 (⟨1, r, c, b, ByteArray.empty, n⟩ : St).r.h, .int .u8 (⟨1, r, c, b, ByteArray.empty, n⟩ : St).c.r, .int .u8 (⟨1, r, c, b, ByteArray.empty, n⟩ : St).c.g, .int .u8 (⟨1, r, c, b, ByteArray.empty, n⟩ : St).c.b, .int .u8 (⟨1, r, c, b, ByteArray.empty, n⟩ : St).c.a, .int .u8 (⟨1, r, c, b, ByteArray.empty, n⟩ : St).b.r, .int .u8 (⟨1, r, c, b, ByteArray.empty, n⟩ : St).b.g, .int .u8 (⟨1, r, c, b, ByteArray.empty, n⟩ : St).b.b, .int .u8 (⟨1, r, c, b, ByteArray.empty, n⟩ : St).b.a, .string (⟨1, r, c, b, ByteArray.empty, n⟩ : St).t, .int .i64 (⟨1, r, c, b, ByteArray.empty, n⟩ : St).n]) 53 ∧ Below w.heap.size w W) := fun W h => ⟨(Bk.new w _ _).below h, (HL.out _).trans (h.mono (HL.out _).size)⟩
  have E1 := neq_co0 b
  have E2 := neq_co0 c
  have E3 := eql_rc0 r
  rw [hb] at E1
  go_enter Tryz.func48, Tryz.ntmps48
  go_wp2_with fail
  refine (HD.out _).mono ?_
  rintro e w1 ⟨rfl, hb1⟩
  obtain ⟨B1, B2⟩ := HB.out _ hb1
  have H1 : Hid (Below w.heap.size w w1) := B2
  have cc := B1.cell
  have a0 := cc 0
  simp only [List.getElem?_toArray, List.getElem?_cons_zero] at a0
  clear hb1 B1 B2 cc HB HD
  go_wp2
  go_ret
  exact ⟨rfl, H1.out⟩

set_option maxRecDepth 20000 in
set_option maxHeartbeats 4000000 in
theorem fields_2d (r : Rc) (c b : Co) (n : Int) (w : World) (hb : coE b = true) : Calls Tryz.prog 48 #[(Value.agg #[.int .u8 (⟨2, r, c, b, ByteArray.empty, n⟩ : St).k, .int .i64 (⟨2, r, c, b, ByteArray.empty, n⟩ : St).r.x, .int .i64 (⟨2, r, c, b, ByteArray.empty, n⟩ : St).r.y, .int .i64 (⟨2, r, c, b, ByteArray.empty, n⟩ : St).r.w, .int .i64 (⟨2, r, c, b, ByteArray.empty, n⟩ : St).r.h, .int .u8 (⟨2, r, c, b, ByteArray.empty, n⟩ : St).c.r, .int .u8 (⟨2, r, c, b, ByteArray.empty, n⟩ : St).c.g, .int .u8 (⟨2, r, c, b, ByteArray.empty, n⟩ : St).c.b, .int .u8 (⟨2, r, c, b, ByteArray.empty, n⟩ : St).c.a, .int .u8 (⟨2, r, c, b, ByteArray.empty, n⟩ : St).b.r, .int .u8 (⟨2, r, c, b, ByteArray.empty, n⟩ : St).b.g, .int .u8 (⟨2, r, c, b, ByteArray.empty, n⟩ : St).b.b, .int .u8 (⟨2, r, c, b, ByteArray.empty, n⟩ : St).b.a, .string (⟨2, r, c, b, ByteArray.empty, n⟩ : St).t, .int .i64 (⟨2, r, c, b, ByteArray.empty, n⟩ : St).n])] w fun e w' => e = .returned (.bool true) ∧ Below w.heap.size w w' := by
  have HL : Hid (∀ c, Below w.heap.size w (w.alloc c)) := fun c => (Below.refl _ w).alloc (Nat.le_refl _) _
  have HD : Hid (∀ W, Calls Tryz.prog 40 #[(Value.agg #[.int .u8 (⟨2, r, c, b, ByteArray.empty, n⟩ : St).k, .int .i64 (⟨2, r, c, b, ByteArray.empty, n⟩ : St).r.x, .int .i64 (⟨2, r, c, b, ByteArray.empty, n⟩ : St).r.y, .int .i64 (⟨2, r, c, b, ByteArray.empty, n⟩ : St).r.w, .int .i64 (⟨2, r, c, b, ByteArray.empty, n⟩ : St).r.h, .int .u8 (⟨2, r, c, b, ByteArray.empty, n⟩ : St).c.r, .int .u8 (⟨2, r, c, b, ByteArray.empty, n⟩ : St).c.g, .int .u8 (⟨2, r, c, b, ByteArray.empty, n⟩ : St).c.b, .int .u8 (⟨2, r, c, b, ByteArray.empty, n⟩ : St).c.a, .int .u8 (⟨2, r, c, b, ByteArray.empty, n⟩ : St).b.r, .int .u8 (⟨2, r, c, b, ByteArray.empty, n⟩ : St).b.g, .int .u8 (⟨2, r, c, b, ByteArray.empty, n⟩ : St).b.b, .int .u8 (⟨2, r, c, b, ByteArray.empty, n⟩ : St).b.a, .string (⟨2, r, c, b, ByteArray.empty, n⟩ : St).t, .int .i64 (⟨2, r, c, b, ByteArray.empty, n⟩ : St).n])] W fun e w' => e = .returned (.bool true) ∧ Below W.heap.size W w') := fun W => draws_any (⟨2, r, c, b, ByteArray.empty, n⟩ : St) W (by unfold Kd; simp)
  have HB : Hid (∀ W, Below (w.alloc (.cells (#[.int .u8 (⟨2, r, c, b, ByteArray.empty, n⟩ : St).k, .int .i64 (⟨2, r, c, b, ByteArray.empty, n⟩ : St).r.x, .int .i64 (⟨2, r, c, b, ByteArray.empty, n⟩ : St).r.y, .int .i64 (⟨2, r, c, b, ByteArray.empty, n⟩ : St).r.w, .int .i64 (⟨2, r, c, b, ByteArray.empty, n⟩ : St).r.h, .int .u8 (⟨2, r, c, b, ByteArray.empty, n⟩ : St).c.r, .int .u8 (⟨2, r, c, b, ByteArray.empty, n⟩ : St).c.g, .int .u8 (⟨2, r, c, b, ByteArray.empty, n⟩ : St).c.b, .int .u8 (⟨2, r, c, b, ByteArray.empty, n⟩ : St).c.a, .int .u8 (⟨2, r, c, b, ByteArray.empty, n⟩ : St).b.r, .int .u8 (⟨2, r, c, b, ByteArray.empty, n⟩ : St).b.g, .int .u8 (⟨2, r, c, b, ByteArray.empty, n⟩ : St).b.b, .int .u8 (⟨2, r, c, b, ByteArray.empty, n⟩ : St).b.a, .string (⟨2, r, c, b, ByteArray.empty, n⟩ : St).t, .int .i64 (⟨2, r, c, b, ByteArray.empty, n⟩ : St).n]) 53)).heap.size (w.alloc (.cells (#[.int .u8 (⟨2, r, c, b, ByteArray.empty, n⟩ : St).k, .int .i64 (⟨2, r, c, b, ByteArray.empty, n⟩ : St).r.x, .int .i64 (⟨2, r, c, b, ByteArray.empty, n⟩ : St).r.y, .int .i64 (⟨2, r, c, b, ByteArray.empty, n⟩ : St).r.w, .int .i64 (⟨2, r, c, b, ByteArray.empty, n⟩ : St).r.h, .int .u8 (⟨2, r, c, b, ByteArray.empty, n⟩ : St).c.r, .int .u8 (⟨2, r, c, b, ByteArray.empty, n⟩ : St).c.g, .int .u8 (⟨2, r, c, b, ByteArray.empty, n⟩ : St).c.b, .int .u8 (⟨2, r, c, b, ByteArray.empty, n⟩ : St).c.a, .int .u8 (⟨2, r, c, b, ByteArray.empty, n⟩ : St).b.r, .int .u8 (⟨2, r, c, b, ByteArray.empty, n⟩ : St).b.g, .int .u8 (⟨2, r, c, b, ByteArray.empty, n⟩ : St).b.b, .int .u8 (⟨2, r, c, b, ByteArray.empty, n⟩ : St).b.a, .string (⟨2, r, c, b, ByteArray.empty, n⟩ : St).t, .int .i64 (⟨2, r, c, b, ByteArray.empty, n⟩ : St).n]) 53)) W → Bk W w.heap.size (#[.int .u8 (⟨2, r, c, b, ByteArray.empty, n⟩ : St).k, .int .i64 (⟨2, r, c, b, ByteArray.empty, n⟩ : St).r.x, .int .i64 (⟨2, r, c, b, ByteArray.empty, n⟩ : St).r.y, .int .i64 (⟨2, r, c, b, ByteArray.empty, n⟩ : St).r.w, .int .i64 (⟨2, r, c, b, ByteArray.empty, n⟩ : St).r.h, .int .u8 (⟨2, r, c, b, ByteArray.empty, n⟩ : St).c.r, .int .u8 (⟨2, r, c, b, ByteArray.empty, n⟩ : St).c.g, .int .u8 (⟨2, r, c, b, ByteArray.empty, n⟩ : St).c.b, .int .u8 (⟨2, r, c, b, ByteArray.empty, n⟩ : St).c.a, .int .u8 (⟨2, r, c, b, ByteArray.empty, n⟩ : St).b.r, .int .u8 (⟨2, r, c, b, ByteArray.empty, n⟩ : St).b.g, .int .u8 (⟨2, r, c, b, ByteArray.empty, n⟩ : St).b.b, .int .u8 (⟨2, r, c, b, ByteArray.empty, n⟩ : St).b.a, .string (⟨2, r, c, b, ByteArray.empty, n⟩ : St).t, .int .i64 (⟨2, r, c, b, ByteArray.empty, n⟩ : St).n]) 53 ∧ Below w.heap.size w W) := fun W h => ⟨(Bk.new w _ _).below h, (HL.out _).trans (h.mono (HL.out _).size)⟩
  have E1 := neq_co0 b
  have E2 := neq_co0 c
  have E3 := eql_rc0 r
  rw [hb] at E1
  go_enter Tryz.func48, Tryz.ntmps48
  go_wp2_with fail
  refine (HD.out _).mono ?_
  rintro e w1 ⟨rfl, hb1⟩
  obtain ⟨B1, B2⟩ := HB.out _ hb1
  have H1 : Hid (Below w.heap.size w w1) := B2
  have cc := B1.cell
  have a0 := cc 0
  simp only [List.getElem?_toArray, List.getElem?_cons_zero] at a0
  clear hb1 B1 B2 cc HB HD
  go_wp2
  go_ret
  exact ⟨rfl, H1.out⟩

set_option maxRecDepth 20000 in
set_option maxHeartbeats 4000000 in
theorem fields_3e (r : Rc) (c b : Co) (t : ByteArray) (n : Int) (w : World) : Calls Tryz.prog 48 #[(Value.agg #[.int .u8 (⟨3, r, c, b, t, n⟩ : St).k, .int .i64 (⟨3, r, c, b, t, n⟩ : St).r.x, .int .i64 (⟨3, r, c, b, t, n⟩ : St).r.y, .int .i64 (⟨3, r, c, b, t, n⟩ : St).r.w, .int .i64 (⟨3, r, c, b, t, n⟩ : St).r.h, .int .u8 (⟨3, r, c, b, t, n⟩ : St).c.r, .int .u8 (⟨3, r, c, b, t, n⟩ : St).c.g, .int .u8 (⟨3, r, c, b, t, n⟩ : St).c.b, .int .u8 (⟨3, r, c, b, t, n⟩ : St).c.a, .int .u8 (⟨3, r, c, b, t, n⟩ : St).b.r, .int .u8 (⟨3, r, c, b, t, n⟩ : St).b.g, .int .u8 (⟨3, r, c, b, t, n⟩ : St).b.b, .int .u8 (⟨3, r, c, b, t, n⟩ : St).b.a, .string (⟨3, r, c, b, t, n⟩ : St).t, .int .i64 (⟨3, r, c, b, t, n⟩ : St).n])] w fun e w' => e = .returned (.bool true) ∧ Below w.heap.size w w' := by
  have HL : Hid (∀ c, Below w.heap.size w (w.alloc c)) := fun c => (Below.refl _ w).alloc (Nat.le_refl _) _
  have HD : Hid (∀ W, Calls Tryz.prog 40 #[(Value.agg #[.int .u8 (⟨3, r, c, b, t, n⟩ : St).k, .int .i64 (⟨3, r, c, b, t, n⟩ : St).r.x, .int .i64 (⟨3, r, c, b, t, n⟩ : St).r.y, .int .i64 (⟨3, r, c, b, t, n⟩ : St).r.w, .int .i64 (⟨3, r, c, b, t, n⟩ : St).r.h, .int .u8 (⟨3, r, c, b, t, n⟩ : St).c.r, .int .u8 (⟨3, r, c, b, t, n⟩ : St).c.g, .int .u8 (⟨3, r, c, b, t, n⟩ : St).c.b, .int .u8 (⟨3, r, c, b, t, n⟩ : St).c.a, .int .u8 (⟨3, r, c, b, t, n⟩ : St).b.r, .int .u8 (⟨3, r, c, b, t, n⟩ : St).b.g, .int .u8 (⟨3, r, c, b, t, n⟩ : St).b.b, .int .u8 (⟨3, r, c, b, t, n⟩ : St).b.a, .string (⟨3, r, c, b, t, n⟩ : St).t, .int .i64 (⟨3, r, c, b, t, n⟩ : St).n])] W fun e w' => e = .returned (.bool true) ∧ Below W.heap.size W w') := fun W => draws_any (⟨3, r, c, b, t, n⟩ : St) W (by unfold Kd; simp)
  have HB : Hid (∀ W, Below (w.alloc (.cells (#[.int .u8 (⟨3, r, c, b, t, n⟩ : St).k, .int .i64 (⟨3, r, c, b, t, n⟩ : St).r.x, .int .i64 (⟨3, r, c, b, t, n⟩ : St).r.y, .int .i64 (⟨3, r, c, b, t, n⟩ : St).r.w, .int .i64 (⟨3, r, c, b, t, n⟩ : St).r.h, .int .u8 (⟨3, r, c, b, t, n⟩ : St).c.r, .int .u8 (⟨3, r, c, b, t, n⟩ : St).c.g, .int .u8 (⟨3, r, c, b, t, n⟩ : St).c.b, .int .u8 (⟨3, r, c, b, t, n⟩ : St).c.a, .int .u8 (⟨3, r, c, b, t, n⟩ : St).b.r, .int .u8 (⟨3, r, c, b, t, n⟩ : St).b.g, .int .u8 (⟨3, r, c, b, t, n⟩ : St).b.b, .int .u8 (⟨3, r, c, b, t, n⟩ : St).b.a, .string (⟨3, r, c, b, t, n⟩ : St).t, .int .i64 (⟨3, r, c, b, t, n⟩ : St).n]) 53)).heap.size (w.alloc (.cells (#[.int .u8 (⟨3, r, c, b, t, n⟩ : St).k, .int .i64 (⟨3, r, c, b, t, n⟩ : St).r.x, .int .i64 (⟨3, r, c, b, t, n⟩ : St).r.y, .int .i64 (⟨3, r, c, b, t, n⟩ : St).r.w, .int .i64 (⟨3, r, c, b, t, n⟩ : St).r.h, .int .u8 (⟨3, r, c, b, t, n⟩ : St).c.r, .int .u8 (⟨3, r, c, b, t, n⟩ : St).c.g, .int .u8 (⟨3, r, c, b, t, n⟩ : St).c.b, .int .u8 (⟨3, r, c, b, t, n⟩ : St).c.a, .int .u8 (⟨3, r, c, b, t, n⟩ : St).b.r, .int .u8 (⟨3, r, c, b, t, n⟩ : St).b.g, .int .u8 (⟨3, r, c, b, t, n⟩ : St).b.b, .int .u8 (⟨3, r, c, b, t, n⟩ : St).b.a, .string (⟨3, r, c, b, t, n⟩ : St).t, .int .i64 (⟨3, r, c, b, t, n⟩ : St).n]) 53)) W → Bk W w.heap.size (#[.int .u8 (⟨3, r, c, b, t, n⟩ : St).k, .int .i64 (⟨3, r, c, b, t, n⟩ : St).r.x, .int .i64 (⟨3, r, c, b, t, n⟩ : St).r.y, .int .i64 (⟨3, r, c, b, t, n⟩ : St).r.w, .int .i64 (⟨3, r, c, b, t, n⟩ : St).r.h, .int .u8 (⟨3, r, c, b, t, n⟩ : St).c.r, .int .u8 (⟨3, r, c, b, t, n⟩ : St).c.g, .int .u8 (⟨3, r, c, b, t, n⟩ : St).c.b, .int .u8 (⟨3, r, c, b, t, n⟩ : St).c.a, .int .u8 (⟨3, r, c, b, t, n⟩ : St).b.r, .int .u8 (⟨3, r, c, b, t, n⟩ : St).b.g, .int .u8 (⟨3, r, c, b, t, n⟩ : St).b.b, .int .u8 (⟨3, r, c, b, t, n⟩ : St).b.a, .string (⟨3, r, c, b, t, n⟩ : St).t, .int .i64 (⟨3, r, c, b, t, n⟩ : St).n]) 53 ∧ Below w.heap.size w W) := fun W h => ⟨(Bk.new w _ _).below h, (HL.out _).trans (h.mono (HL.out _).size)⟩
  have E1 := neq_co0 b
  have E2 := neq_co0 c
  have E3 := eql_rc0 r
  go_enter Tryz.func48, Tryz.ntmps48
  go_wp2_with fail
  refine (HD.out _).mono ?_
  rintro e w1 ⟨rfl, hb1⟩
  obtain ⟨B1, B2⟩ := HB.out _ hb1
  have H1 : Hid (Below w.heap.size w w1) := B2
  have cc := B1.cell
  have a0 := cc 0
  simp only [List.getElem?_toArray, List.getElem?_cons_zero] at a0
  clear hb1 B1 B2 cc HB HD
  go_wp2
  go_ret
  exact ⟨rfl, H1.out⟩

set_option maxRecDepth 20000 in
set_option maxHeartbeats 4000000 in
theorem fields_4f (r : Rc) (c b : Co) (n : Int) (w : World) (hb : coE b = true) (hc : coE c = true) : Calls Tryz.prog 48 #[(Value.agg #[.int .u8 (⟨4, r, c, b, ByteArray.empty, n⟩ : St).k, .int .i64 (⟨4, r, c, b, ByteArray.empty, n⟩ : St).r.x, .int .i64 (⟨4, r, c, b, ByteArray.empty, n⟩ : St).r.y, .int .i64 (⟨4, r, c, b, ByteArray.empty, n⟩ : St).r.w, .int .i64 (⟨4, r, c, b, ByteArray.empty, n⟩ : St).r.h, .int .u8 (⟨4, r, c, b, ByteArray.empty, n⟩ : St).c.r, .int .u8 (⟨4, r, c, b, ByteArray.empty, n⟩ : St).c.g, .int .u8 (⟨4, r, c, b, ByteArray.empty, n⟩ : St).c.b, .int .u8 (⟨4, r, c, b, ByteArray.empty, n⟩ : St).c.a, .int .u8 (⟨4, r, c, b, ByteArray.empty, n⟩ : St).b.r, .int .u8 (⟨4, r, c, b, ByteArray.empty, n⟩ : St).b.g, .int .u8 (⟨4, r, c, b, ByteArray.empty, n⟩ : St).b.b, .int .u8 (⟨4, r, c, b, ByteArray.empty, n⟩ : St).b.a, .string (⟨4, r, c, b, ByteArray.empty, n⟩ : St).t, .int .i64 (⟨4, r, c, b, ByteArray.empty, n⟩ : St).n])] w fun e w' => e = .returned (.bool true) ∧ Below w.heap.size w w' := by
  have HL : Hid (∀ c, Below w.heap.size w (w.alloc c)) := fun c => (Below.refl _ w).alloc (Nat.le_refl _) _
  have HD : Hid (∀ W, Calls Tryz.prog 40 #[(Value.agg #[.int .u8 (⟨4, r, c, b, ByteArray.empty, n⟩ : St).k, .int .i64 (⟨4, r, c, b, ByteArray.empty, n⟩ : St).r.x, .int .i64 (⟨4, r, c, b, ByteArray.empty, n⟩ : St).r.y, .int .i64 (⟨4, r, c, b, ByteArray.empty, n⟩ : St).r.w, .int .i64 (⟨4, r, c, b, ByteArray.empty, n⟩ : St).r.h, .int .u8 (⟨4, r, c, b, ByteArray.empty, n⟩ : St).c.r, .int .u8 (⟨4, r, c, b, ByteArray.empty, n⟩ : St).c.g, .int .u8 (⟨4, r, c, b, ByteArray.empty, n⟩ : St).c.b, .int .u8 (⟨4, r, c, b, ByteArray.empty, n⟩ : St).c.a, .int .u8 (⟨4, r, c, b, ByteArray.empty, n⟩ : St).b.r, .int .u8 (⟨4, r, c, b, ByteArray.empty, n⟩ : St).b.g, .int .u8 (⟨4, r, c, b, ByteArray.empty, n⟩ : St).b.b, .int .u8 (⟨4, r, c, b, ByteArray.empty, n⟩ : St).b.a, .string (⟨4, r, c, b, ByteArray.empty, n⟩ : St).t, .int .i64 (⟨4, r, c, b, ByteArray.empty, n⟩ : St).n])] W fun e w' => e = .returned (.bool false) ∧ Below W.heap.size W w') := fun W => draws_any (⟨4, r, c, b, ByteArray.empty, n⟩ : St) W (by unfold Kd; simp)
  have HB : Hid (∀ W, Below (w.alloc (.cells (#[.int .u8 (⟨4, r, c, b, ByteArray.empty, n⟩ : St).k, .int .i64 (⟨4, r, c, b, ByteArray.empty, n⟩ : St).r.x, .int .i64 (⟨4, r, c, b, ByteArray.empty, n⟩ : St).r.y, .int .i64 (⟨4, r, c, b, ByteArray.empty, n⟩ : St).r.w, .int .i64 (⟨4, r, c, b, ByteArray.empty, n⟩ : St).r.h, .int .u8 (⟨4, r, c, b, ByteArray.empty, n⟩ : St).c.r, .int .u8 (⟨4, r, c, b, ByteArray.empty, n⟩ : St).c.g, .int .u8 (⟨4, r, c, b, ByteArray.empty, n⟩ : St).c.b, .int .u8 (⟨4, r, c, b, ByteArray.empty, n⟩ : St).c.a, .int .u8 (⟨4, r, c, b, ByteArray.empty, n⟩ : St).b.r, .int .u8 (⟨4, r, c, b, ByteArray.empty, n⟩ : St).b.g, .int .u8 (⟨4, r, c, b, ByteArray.empty, n⟩ : St).b.b, .int .u8 (⟨4, r, c, b, ByteArray.empty, n⟩ : St).b.a, .string (⟨4, r, c, b, ByteArray.empty, n⟩ : St).t, .int .i64 (⟨4, r, c, b, ByteArray.empty, n⟩ : St).n]) 53)).heap.size (w.alloc (.cells (#[.int .u8 (⟨4, r, c, b, ByteArray.empty, n⟩ : St).k, .int .i64 (⟨4, r, c, b, ByteArray.empty, n⟩ : St).r.x, .int .i64 (⟨4, r, c, b, ByteArray.empty, n⟩ : St).r.y, .int .i64 (⟨4, r, c, b, ByteArray.empty, n⟩ : St).r.w, .int .i64 (⟨4, r, c, b, ByteArray.empty, n⟩ : St).r.h, .int .u8 (⟨4, r, c, b, ByteArray.empty, n⟩ : St).c.r, .int .u8 (⟨4, r, c, b, ByteArray.empty, n⟩ : St).c.g, .int .u8 (⟨4, r, c, b, ByteArray.empty, n⟩ : St).c.b, .int .u8 (⟨4, r, c, b, ByteArray.empty, n⟩ : St).c.a, .int .u8 (⟨4, r, c, b, ByteArray.empty, n⟩ : St).b.r, .int .u8 (⟨4, r, c, b, ByteArray.empty, n⟩ : St).b.g, .int .u8 (⟨4, r, c, b, ByteArray.empty, n⟩ : St).b.b, .int .u8 (⟨4, r, c, b, ByteArray.empty, n⟩ : St).b.a, .string (⟨4, r, c, b, ByteArray.empty, n⟩ : St).t, .int .i64 (⟨4, r, c, b, ByteArray.empty, n⟩ : St).n]) 53)) W → Bk W w.heap.size (#[.int .u8 (⟨4, r, c, b, ByteArray.empty, n⟩ : St).k, .int .i64 (⟨4, r, c, b, ByteArray.empty, n⟩ : St).r.x, .int .i64 (⟨4, r, c, b, ByteArray.empty, n⟩ : St).r.y, .int .i64 (⟨4, r, c, b, ByteArray.empty, n⟩ : St).r.w, .int .i64 (⟨4, r, c, b, ByteArray.empty, n⟩ : St).r.h, .int .u8 (⟨4, r, c, b, ByteArray.empty, n⟩ : St).c.r, .int .u8 (⟨4, r, c, b, ByteArray.empty, n⟩ : St).c.g, .int .u8 (⟨4, r, c, b, ByteArray.empty, n⟩ : St).c.b, .int .u8 (⟨4, r, c, b, ByteArray.empty, n⟩ : St).c.a, .int .u8 (⟨4, r, c, b, ByteArray.empty, n⟩ : St).b.r, .int .u8 (⟨4, r, c, b, ByteArray.empty, n⟩ : St).b.g, .int .u8 (⟨4, r, c, b, ByteArray.empty, n⟩ : St).b.b, .int .u8 (⟨4, r, c, b, ByteArray.empty, n⟩ : St).b.a, .string (⟨4, r, c, b, ByteArray.empty, n⟩ : St).t, .int .i64 (⟨4, r, c, b, ByteArray.empty, n⟩ : St).n]) 53 ∧ Below w.heap.size w W) := fun W h => ⟨(Bk.new w _ _).below h, (HL.out _).trans (h.mono (HL.out _).size)⟩
  have E1 := neq_co0 b
  have E2 := neq_co0 c
  have E3 := eql_rc0 r
  rw [hb] at E1
  rw [hc] at E2
  go_enter Tryz.func48, Tryz.ntmps48
  go_wp2_with fail
  refine (HD.out _).mono ?_
  rintro e w1 ⟨rfl, hb1⟩
  obtain ⟨B1, B2⟩ := HB.out _ hb1
  have H1 : Hid (Below w.heap.size w w1) := B2
  have cc := B1.cell
  have a0 := cc 0
  have a5 := cc 5
  have a6 := cc 6
  have a7 := cc 7
  have a8 := cc 8
  simp only [List.getElem?_toArray, List.getElem?_cons_zero, List.getElem?_cons_succ] at a0 a5 a6 a7 a8
  clear hb1 B1 B2 cc HB HD
  go_wp2
  go_ret
  exact ⟨rfl, H1.out⟩

set_option maxRecDepth 20000 in
set_option maxHeartbeats 4000000 in
theorem fields_5g (r : Rc) (c b : Co) (n : Int) (w : World) (hb : coE b = true) (hc : coE c = true) : Calls Tryz.prog 48 #[(Value.agg #[.int .u8 (⟨5, r, c, b, ByteArray.empty, n⟩ : St).k, .int .i64 (⟨5, r, c, b, ByteArray.empty, n⟩ : St).r.x, .int .i64 (⟨5, r, c, b, ByteArray.empty, n⟩ : St).r.y, .int .i64 (⟨5, r, c, b, ByteArray.empty, n⟩ : St).r.w, .int .i64 (⟨5, r, c, b, ByteArray.empty, n⟩ : St).r.h, .int .u8 (⟨5, r, c, b, ByteArray.empty, n⟩ : St).c.r, .int .u8 (⟨5, r, c, b, ByteArray.empty, n⟩ : St).c.g, .int .u8 (⟨5, r, c, b, ByteArray.empty, n⟩ : St).c.b, .int .u8 (⟨5, r, c, b, ByteArray.empty, n⟩ : St).c.a, .int .u8 (⟨5, r, c, b, ByteArray.empty, n⟩ : St).b.r, .int .u8 (⟨5, r, c, b, ByteArray.empty, n⟩ : St).b.g, .int .u8 (⟨5, r, c, b, ByteArray.empty, n⟩ : St).b.b, .int .u8 (⟨5, r, c, b, ByteArray.empty, n⟩ : St).b.a, .string (⟨5, r, c, b, ByteArray.empty, n⟩ : St).t, .int .i64 (⟨5, r, c, b, ByteArray.empty, n⟩ : St).n])] w fun e w' => e = .returned (.bool (zZr r)) ∧ Below w.heap.size w w' := by
  have HL : Hid (∀ c, Below w.heap.size w (w.alloc c)) := fun c => (Below.refl _ w).alloc (Nat.le_refl _) _
  have HD : Hid (∀ W, Calls Tryz.prog 40 #[(Value.agg #[.int .u8 (⟨5, r, c, b, ByteArray.empty, n⟩ : St).k, .int .i64 (⟨5, r, c, b, ByteArray.empty, n⟩ : St).r.x, .int .i64 (⟨5, r, c, b, ByteArray.empty, n⟩ : St).r.y, .int .i64 (⟨5, r, c, b, ByteArray.empty, n⟩ : St).r.w, .int .i64 (⟨5, r, c, b, ByteArray.empty, n⟩ : St).r.h, .int .u8 (⟨5, r, c, b, ByteArray.empty, n⟩ : St).c.r, .int .u8 (⟨5, r, c, b, ByteArray.empty, n⟩ : St).c.g, .int .u8 (⟨5, r, c, b, ByteArray.empty, n⟩ : St).c.b, .int .u8 (⟨5, r, c, b, ByteArray.empty, n⟩ : St).c.a, .int .u8 (⟨5, r, c, b, ByteArray.empty, n⟩ : St).b.r, .int .u8 (⟨5, r, c, b, ByteArray.empty, n⟩ : St).b.g, .int .u8 (⟨5, r, c, b, ByteArray.empty, n⟩ : St).b.b, .int .u8 (⟨5, r, c, b, ByteArray.empty, n⟩ : St).b.a, .string (⟨5, r, c, b, ByteArray.empty, n⟩ : St).t, .int .i64 (⟨5, r, c, b, ByteArray.empty, n⟩ : St).n])] W fun e w' => e = .returned (.bool false) ∧ Below W.heap.size W w') := fun W => draws_any (⟨5, r, c, b, ByteArray.empty, n⟩ : St) W (by unfold Kd; simp)
  have HB : Hid (∀ W, Below (w.alloc (.cells (#[.int .u8 (⟨5, r, c, b, ByteArray.empty, n⟩ : St).k, .int .i64 (⟨5, r, c, b, ByteArray.empty, n⟩ : St).r.x, .int .i64 (⟨5, r, c, b, ByteArray.empty, n⟩ : St).r.y, .int .i64 (⟨5, r, c, b, ByteArray.empty, n⟩ : St).r.w, .int .i64 (⟨5, r, c, b, ByteArray.empty, n⟩ : St).r.h, .int .u8 (⟨5, r, c, b, ByteArray.empty, n⟩ : St).c.r, .int .u8 (⟨5, r, c, b, ByteArray.empty, n⟩ : St).c.g, .int .u8 (⟨5, r, c, b, ByteArray.empty, n⟩ : St).c.b, .int .u8 (⟨5, r, c, b, ByteArray.empty, n⟩ : St).c.a, .int .u8 (⟨5, r, c, b, ByteArray.empty, n⟩ : St).b.r, .int .u8 (⟨5, r, c, b, ByteArray.empty, n⟩ : St).b.g, .int .u8 (⟨5, r, c, b, ByteArray.empty, n⟩ : St).b.b, .int .u8 (⟨5, r, c, b, ByteArray.empty, n⟩ : St).b.a, .string (⟨5, r, c, b, ByteArray.empty, n⟩ : St).t, .int .i64 (⟨5, r, c, b, ByteArray.empty, n⟩ : St).n]) 53)).heap.size (w.alloc (.cells (#[.int .u8 (⟨5, r, c, b, ByteArray.empty, n⟩ : St).k, .int .i64 (⟨5, r, c, b, ByteArray.empty, n⟩ : St).r.x, .int .i64 (⟨5, r, c, b, ByteArray.empty, n⟩ : St).r.y, .int .i64 (⟨5, r, c, b, ByteArray.empty, n⟩ : St).r.w, .int .i64 (⟨5, r, c, b, ByteArray.empty, n⟩ : St).r.h, .int .u8 (⟨5, r, c, b, ByteArray.empty, n⟩ : St).c.r, .int .u8 (⟨5, r, c, b, ByteArray.empty, n⟩ : St).c.g, .int .u8 (⟨5, r, c, b, ByteArray.empty, n⟩ : St).c.b, .int .u8 (⟨5, r, c, b, ByteArray.empty, n⟩ : St).c.a, .int .u8 (⟨5, r, c, b, ByteArray.empty, n⟩ : St).b.r, .int .u8 (⟨5, r, c, b, ByteArray.empty, n⟩ : St).b.g, .int .u8 (⟨5, r, c, b, ByteArray.empty, n⟩ : St).b.b, .int .u8 (⟨5, r, c, b, ByteArray.empty, n⟩ : St).b.a, .string (⟨5, r, c, b, ByteArray.empty, n⟩ : St).t, .int .i64 (⟨5, r, c, b, ByteArray.empty, n⟩ : St).n]) 53)) W → Bk W w.heap.size (#[.int .u8 (⟨5, r, c, b, ByteArray.empty, n⟩ : St).k, .int .i64 (⟨5, r, c, b, ByteArray.empty, n⟩ : St).r.x, .int .i64 (⟨5, r, c, b, ByteArray.empty, n⟩ : St).r.y, .int .i64 (⟨5, r, c, b, ByteArray.empty, n⟩ : St).r.w, .int .i64 (⟨5, r, c, b, ByteArray.empty, n⟩ : St).r.h, .int .u8 (⟨5, r, c, b, ByteArray.empty, n⟩ : St).c.r, .int .u8 (⟨5, r, c, b, ByteArray.empty, n⟩ : St).c.g, .int .u8 (⟨5, r, c, b, ByteArray.empty, n⟩ : St).c.b, .int .u8 (⟨5, r, c, b, ByteArray.empty, n⟩ : St).c.a, .int .u8 (⟨5, r, c, b, ByteArray.empty, n⟩ : St).b.r, .int .u8 (⟨5, r, c, b, ByteArray.empty, n⟩ : St).b.g, .int .u8 (⟨5, r, c, b, ByteArray.empty, n⟩ : St).b.b, .int .u8 (⟨5, r, c, b, ByteArray.empty, n⟩ : St).b.a, .string (⟨5, r, c, b, ByteArray.empty, n⟩ : St).t, .int .i64 (⟨5, r, c, b, ByteArray.empty, n⟩ : St).n]) 53 ∧ Below w.heap.size w W) := fun W h => ⟨(Bk.new w _ _).below h, (HL.out _).trans (h.mono (HL.out _).size)⟩
  have E1 := neq_co0 b
  have E2 := neq_co0 c
  have E3 := eql_rc0 r
  rw [hb] at E1
  rw [hc] at E2
  generalize zZr r = zb at *
  go_enter Tryz.func48, Tryz.ntmps48
  go_wp2_with fail
  refine (HD.out _).mono ?_
  rintro e w1 ⟨rfl, hb1⟩
  obtain ⟨B1, B2⟩ := HB.out _ hb1
  have H1 : Hid (Below w.heap.size w w1) := B2
  have cc := B1.cell
  have a0 := cc 0
  have a1 := cc 1
  have a2 := cc 2
  have a3 := cc 3
  have a4 := cc 4
  have a5 := cc 5
  have a6 := cc 6
  have a7 := cc 7
  have a8 := cc 8
  simp only [List.getElem?_toArray, List.getElem?_cons_zero, List.getElem?_cons_succ] at a0 a1 a2 a3 a4 a5 a6 a7 a8
  clear hb1 B1 B2 cc HB HD
  go_wp2
  go_ret
  exact ⟨rfl, H1.out⟩

set_option maxRecDepth 20000 in
set_option maxHeartbeats 4000000 in
theorem fields_any (s : St) (w : World) (hk : Kd s) : Calls Tryz.prog 48 #[(Value.agg #[.int .u8 s.k, .int .i64 s.r.x, .int .i64 s.r.y, .int .i64 s.r.w, .int .i64 s.r.h, .int .u8 s.c.r, .int .u8 s.c.g, .int .u8 s.c.b, .int .u8 s.c.a, .int .u8 s.b.r, .int .u8 s.b.g, .int .u8 s.b.b, .int .u8 s.b.a, .string s.t, .int .i64 s.n])] w fun e w' => e = .returned (.bool (!wroF s)) ∧ Below w.heap.size w w' := by
  have HL : Hid (∀ c, Below w.heap.size w (w.alloc c)) := fun c => (Below.refl _ w).alloc (Nat.le_refl _) _
  have cs := wroF_cases hk
  rcases cs with ⟨n3, hz, hf⟩ | ⟨n3, hz, hb, hf⟩ | ⟨hq, hz, hb, hc, hf⟩ | ⟨hq, hz, hb, hf⟩ | ⟨hq, hf⟩ | ⟨hq, hz, hb, hc, hf⟩ | ⟨hq, hz, hb, hc, hf⟩
  · rw [hf]
    obtain ⟨z1, z2⟩ := ztx_ne hz
    have E1 := neq_co0 s.b
    have E2 := neq_co0 s.c
    have E3 := eql_rc0 s.r
    clear hf
    rcases hk with hk | hk | hk | hk | hk
    rotate_left 2
    · exact absurd hk n3
    all_goals
      clear n3
      go_enter Tryz.func48, Tryz.ntmps48
      go_wp2
      go_ret
      exact ⟨rfl, HL.out _⟩
  · rw [hf]
    have E1 := neq_co0 s.b
    have E2 := neq_co0 s.c
    have E3 := eql_rc0 s.r
    rw [hb] at E1
    have hz2 := ztx_nil hz
    clear hf
    rcases hk with hk | hk | hk | hk | hk
    rotate_left 2
    · exact absurd hk n3
    all_goals
      clear n3
      go_enter Tryz.func48, Tryz.ntmps48
      go_wp2
      go_ret
      exact ⟨rfl, HL.out _⟩
  all_goals
    rw [hf]
    clear hf hk
    obtain ⟨k, r, c, b, t, n⟩ := s
    dsimp only at *
  · obtain rfl := ztx_nil hz
    rcases hq with rfl | rfl
    · exact fields_4c r c b n w hb hc
    · exact fields_5c r c b n w hb hc
  · obtain rfl := ztx_nil hz
    rcases hq with rfl | rfl
    · exact fields_1d r c b n w hb
    · exact fields_2d r c b n w hb
  · subst hq
    exact fields_3e r c b t n w
  · obtain rfl := ztx_nil hz
    subst hq
    exact fields_4f r c b n w hb hc
  · obtain rfl := ztx_nil hz
    subst hq
    rw [Bool.not_not]
    exact fields_5g r c b n w hb hc

set_option maxRecDepth 20000 in
set_option maxHeartbeats 4000000 in
theorem mayBe_any (s : St) (w : World) (ht : s.t.size ≤ 9223372036854775807) (hx : I64 s.r.x) (hy : I64 s.r.y) :
    Calls Tryz.prog 28 #[(Value.agg #[.int .u8 s.k, .int .i64 s.r.x, .int .i64 s.r.y, .int .i64 s.r.w, .int .i64 s.r.h, .int .u8 s.c.r, .int .u8 s.c.g, .int .u8 s.c.b, .int .u8 s.c.a, .int .u8 s.b.r, .int .u8 s.b.g, .int .u8 s.b.b, .int .u8 s.b.a, .string s.t, .int .i64 s.n])] w fun e w' => e = .returned (.int .i64 (oneE s)) ∧ Below w.heap.size w w' := by
  have HL : Hid (∀ c, Below w.heap.size w (w.alloc c)) := fun c => (Below.refl _ w).alloc (Nat.le_refl _) _
  unfold oneE
  cases hw : wroK s
  · obtain ⟨h1, h2, h3, h4, h5, hk⟩ := wroK_no hw
    have HF : Hid (∀ W, Calls Tryz.prog 48 #[(Value.agg #[.int .u8 s.k, .int .i64 s.r.x, .int .i64 s.r.y, .int .i64 s.r.w, .int .i64 s.r.h, .int .u8 s.c.r, .int .u8 s.c.g, .int .u8 s.c.b, .int .u8 s.c.a, .int .u8 s.b.r, .int .u8 s.b.g, .int .u8 s.b.b, .int .u8 s.b.a, .string s.t, .int .i64 s.n])] W fun e w' => e = .returned (.bool (!wroF s)) ∧ Below W.heap.size W w') := fun W => fields_any s W hk
    have HC : Hid (∀ W, Calls Tryz.prog 44 #[.agg #[.int .i64 s.r.x, .int .i64 s.r.y, .int .i64 s.r.w, .int .i64 s.r.h]] W fun e w' => e = .returned (.int .i64 (if zMa s.r = true then 0 else 5)) ∧ Below W.heap.size W w') := fun W => check_any _ _ _ _ W hx hy
    have HB : Hid (∀ W, Below (w.alloc (.cells (#[.int .u8 s.k, .int .i64 s.r.x, .int .i64 s.r.y, .int .i64 s.r.w, .int .i64 s.r.h, .int .u8 s.c.r, .int .u8 s.c.g, .int .u8 s.c.b, .int .u8 s.c.a, .int .u8 s.b.r, .int .u8 s.b.g, .int .u8 s.b.b, .int .u8 s.b.a, .string s.t, .int .i64 s.n]) 53)).heap.size (w.alloc (.cells (#[.int .u8 s.k, .int .i64 s.r.x, .int .i64 s.r.y, .int .i64 s.r.w, .int .i64 s.r.h, .int .u8 s.c.r, .int .u8 s.c.g, .int .u8 s.c.b, .int .u8 s.c.a, .int .u8 s.b.r, .int .u8 s.b.g, .int .u8 s.b.b, .int .u8 s.b.a, .string s.t, .int .i64 s.n]) 53)) W → Bk W w.heap.size (#[.int .u8 s.k, .int .i64 s.r.x, .int .i64 s.r.y, .int .i64 s.r.w, .int .i64 s.r.h, .int .u8 s.c.r, .int .u8 s.c.g, .int .u8 s.c.b, .int .u8 s.c.a, .int .u8 s.b.r, .int .u8 s.b.g, .int .u8 s.b.b, .int .u8 s.b.a, .string s.t, .int .i64 s.n]) 53 ∧ Below w.heap.size w W) := fun W h => ⟨(Bk.new w _ _).below h, (HL.out _).trans (h.mono (HL.out _).size)⟩
    have h1' : decide (s.k < 1) = false := decide_eq_false h1
    have h2' : decide (5 < s.k) = false := decide_eq_false h2
    rw [Bool.false_or]
    generalize (if zMa s.r = true then (0 : Int) else 5) = ce at *
    clear hw hk ht hx hy h1' h2'
    cases hf : wroF s
    · rw [hf] at HF
      rw [if_neg (by simp)]
      clear hf
      go_enter Tryz.func28, Tryz.ntmps28
      go_wp2_with fail
      refine (HF.out _).mono ?_
      rintro e w1 ⟨rfl, hb1⟩
      obtain ⟨B1, B2⟩ := HB.out _ hb1
      have H1 : Hid (Below w.heap.size w w1) := B2
      have cc := B1.cell
      have a1 := cc 1
      have a2 := cc 2
      have a3 := cc 3
      have a4 := cc 4
      simp only [List.getElem?_toArray, List.getElem?_cons_zero, List.getElem?_cons_succ] at a1 a2 a3 a4
      clear hb1 B1 B2 cc
      go_wp2_with fail
      refine (HC.out _).mono ?_
      rintro e w2 ⟨rfl, hb2⟩
      have H2 : Hid (Below w.heap.size w w2) := H1.out.trans (hb2.mono H1.out.size)
      clear hb2
      go_wp2
      go_ret
      exact ⟨rfl, H2.out⟩
    · rw [hf] at HF
      rw [if_pos rfl]
      clear hf
      go_enter Tryz.func28, Tryz.ntmps28
      go_wp2_with fail
      refine (HF.out _).mono ?_
      rintro e w1 ⟨rfl, hb1⟩
      have H1 : Hid (Below w.heap.size w w1) := (HB.out _ hb1).2
      clear hb1
      go_wp2
      go_ret
      exact ⟨rfl, H1.out⟩
  · rw [Bool.true_or, if_pos rfl]
    unfold wroK at hw
    simp only [Bool.or_eq_true, decide_eq_true_eq] at hw
    have cs : s.k < 1 ∨ (¬ s.k < 1 ∧ 5 < s.k) ∨ (¬ s.k < 1 ∧ ¬ 5 < s.k ∧ s.n < 0) ∨ (¬ s.k < 1 ∧ ¬ 5 < s.k ∧ ¬ s.n < 0 ∧ 1048576 < s.n) ∨ (¬ s.k < 1 ∧ ¬ 5 < s.k ∧ ¬ s.n < 0 ∧ ¬ 1048576 < s.n ∧ (65536 : Int) < (s.t.size : Int)) := by omega
    clear hw hx hy
    rcases cs with h1 | ⟨h1, h2⟩ | ⟨h1, h2, h3⟩ | ⟨h1, h2, h3, h4⟩ | ⟨h1, h2, h3, h4, h5⟩
    all_goals
      go_enter Tryz.func28, Tryz.ntmps28
      go_wp2
      go_ret
      exact ⟨rfl, HL.out _⟩

end Go.Proofs.YtfjbnejmcanamaaGreatDoor

/-
  Contracts of package list: Check.
-/
namespace Go.Proofs.YtfjbnejmcanamaaGreatDoor
open Go.RowKit

/-- Places that a machine's numbers hold. -/
def Xys (l : List St) : Prop := ∀ s ∈ l, I64 s.r.x ∧ I64 s.r.y

set_option maxRecDepth 20000 in
set_option maxHeartbeats 4000000 in
theorem lcheck_any (l : List St) (v : Value) (w : World) (hv : LsS w v l) (ht : Txs l) (hi : Xys l) :
    Calls Tryz.prog 12 #[v] w fun e w' => e = .returned (.int .i64 (chkS l)) ∧ Below w.heap.size w w' := by
  obtain ⟨oa, cap, rfl, hc, hg⟩ := hv
  have HG : Hid (0 < l.length → ∃ g o, oa = some ⟨g, o, none⟩ ∧ g < w.heap.size ∧ ∀ i (h : i < l.length), StAt w g (o + i * 15) l[i]) := hg
  have HT : Hid (Txs l ∧ Xys l) := ⟨ht, hi⟩
  clear hg ht hi
  unfold chkS
  by_cases hm : 16384 < l.length
  · rw [if_pos hm]
    go_enter Tryz.func12, Tryz.ntmps12
    go_wp2
    go_ret
    exact ⟨rfl, Below.refl _ _⟩
  rw [if_neg hm]
  obtain ⟨R, hR⟩ : ∃ R : Int, clpE 0 l = R := ⟨_, rfl⟩
  rw [hR]
  go_enter Tryz.func12, Tryz.ntmps12
  go_wp2_with fail
  go_loopw [3, 12] (fun n i wr => ∃ m k : Nat, n = .int .i64 m ∧ m ≤ k ∧ i = .int .i64 k ∧ k ≤ l.length ∧ Hid (clpE m (l.drop k) = R ∧ Below w.heap.size w wr)) (fun _ i _ => l.length - (intOf i).toNat)
  case atStart => exact ⟨0, 0, rfl, Nat.le_refl _, rfl, Nat.zero_le _, hR, Below.refl _ _⟩
  case round =>
    clear hR
    obtain ⟨m, k, rfl, hmk, rfl, hk, HK⟩ := hrel
    by_cases hlt : k < l.length
    · obtain ⟨g, o, rfl, hg, hat⟩ := HG.out (by omega)
      have hx := (hat k hlt).kept (w' := wr) fun j => HK.out.2.cell (p := ⟨g, j, none⟩) hg
      have hst := clp_step (show clpE m (l[k] :: l.drop (k + 1)) = R by rw [← List.drop_eq_getElem_cons hlt]; exact HK.out.1)
      have HR : Hid (∀ w, Calls Tryz.prog 28 #[(Value.agg #[.int .u8 l[k].k, .int .i64 l[k].r.x, .int .i64 l[k].r.y, .int .i64 l[k].r.w, .int .i64 l[k].r.h, .int .u8 l[k].c.r, .int .u8 l[k].c.g, .int .u8 l[k].c.b, .int .u8 l[k].c.a, .int .u8 l[k].b.r, .int .u8 l[k].b.g, .int .u8 l[k].b.b, .int .u8 l[k].b.a, .string l[k].t, .int .i64 l[k].n])] w fun e w' => e = .returned (.int .i64 (oneE l[k])) ∧ Below w.heap.size w w') := fun w => mayBe_any _ w (HT.out.1 _ (List.getElem_mem hlt)) (HT.out.2 _ (List.getElem_mem hlt)).1 (HT.out.2 _ (List.getElem_mem hlt)).2
      have HX : Hid (∀ W, Below (wr.alloc (.cells (#[.int .u8 l[k].k, .int .i64 l[k].r.x, .int .i64 l[k].r.y, .int .i64 l[k].r.w, .int .i64 l[k].r.h, .int .u8 l[k].c.r, .int .u8 l[k].c.g, .int .u8 l[k].c.b, .int .u8 l[k].c.a, .int .u8 l[k].b.r, .int .u8 l[k].b.g, .int .u8 l[k].b.b, .int .u8 l[k].b.a, .string l[k].t, .int .i64 l[k].n]) 53)).heap.size (wr.alloc (.cells (#[.int .u8 l[k].k, .int .i64 l[k].r.x, .int .i64 l[k].r.y, .int .i64 l[k].r.w, .int .i64 l[k].r.h, .int .u8 l[k].c.r, .int .u8 l[k].c.g, .int .u8 l[k].c.b, .int .u8 l[k].c.a, .int .u8 l[k].b.r, .int .u8 l[k].b.g, .int .u8 l[k].b.b, .int .u8 l[k].b.a, .string l[k].t, .int .i64 l[k].n]) 53)) W → W.cell? ⟨wr.heap.size, 0, none⟩ = some (.int .u8 l[k].k) ∧ Below w.heap.size w W) := fun W h => by
        refine ⟨?_, ?_⟩
        · have := ((Bk.new wr (#[.int .u8 l[k].k, .int .i64 l[k].r.x, .int .i64 l[k].r.y, .int .i64 l[k].r.w, .int .i64 l[k].r.h, .int .u8 l[k].c.r, .int .u8 l[k].c.g, .int .u8 l[k].c.b, .int .u8 l[k].c.a, .int .u8 l[k].b.r, .int .u8 l[k].b.g, .int .u8 l[k].b.b, .int .u8 l[k].b.a, .string l[k].t, .int .i64 l[k].n]) 53).below h).cell 0
          simpa using this
        · have h2 : Below w.heap.size w (wr.alloc (.cells (#[.int .u8 l[k].k, .int .i64 l[k].r.x, .int .i64 l[k].r.y, .int .i64 l[k].r.w, .int .i64 l[k].r.h, .int .u8 l[k].c.r, .int .u8 l[k].c.g, .int .u8 l[k].c.b, .int .u8 l[k].c.a, .int .u8 l[k].b.r, .int .u8 l[k].b.g, .int .u8 l[k].b.b, .int .u8 l[k].b.a, .string l[k].t, .int .i64 l[k].n]) 53)) := HK.out.2.alloc HK.out.2.size _
          exact h2.trans (h.mono h2.size)
      have hcs := oneE_cases l[k]
      have h45 : oneE l[k] = 0 → l[k].k = 1 ∨ l[k].k = 2 ∨ l[k].k = 3 ∨ l[k].k = 4 ∨ l[k].k = 5 := fun h => (oneE_zero h).2.1
      have HS : Hid ((oneE l[k] ≠ 0 → R = oneE l[k]) ∧ (oneE l[k] = 0 → l[k].k = 5 → m = 0 → R = 130) ∧ (oneE l[k] = 0 → ¬ (l[k].k = 5 ∧ m = 0) → clpE (opn m l[k]) (l.drop (k + 1)) = R)) := hst
      have HO : Hid ((l[k].k = 4 → opn m l[k] = m + 1) ∧ (l[k].k = 5 → opn m l[k] = m - 1) ∧ (l[k].k < 4 → opn m l[k] = m)) := by
        unfold Hid opn
        exact ⟨fun h => by rw [if_pos h], fun h => by rw [if_neg (by omega), if_pos h], fun h => by rw [if_neg (by omega), if_neg (by omega)]⟩
      clear hat hst HT
      generalize oneE l[k] = c at *
      generalize l[k] = x at *
      obtain ⟨x0, x1, x2, x3, x4, x5, x6, x7, x8, x9, x10, x11, x12, x13, x14⟩ := hx
      rcases hcs with rfl | rfl | rfl
      · have hk5 := h45 rfl
        clear h45
        go_wp2_with fail
        refine (HR.out _).mono ?_
        rintro e w1 ⟨rfl, hb⟩
        obtain ⟨y0, hB⟩ := HX.out _ hb
        have H1 : Hid (Below w.heap.size w w1) := hB
        clear hb hB x0 x1 x2 x3 x4 x5 x6 x7 x8 x9 x10 x11 x12 x13 x14 HX HR
        have HS2 : Hid (x.k < 4 → clpE m (l.drop (k + 1)) = R) := fun h => by
          have q := HS.out.2.2 (by simp) (fun e => by omega)
          rwa [HO.out.2.2 h] at q
        have HS4 : Hid (x.k = 4 → clpE (m + 1) (l.drop (k + 1)) = R) := fun h => by
          have q := HS.out.2.2 (by simp) (fun e => by omega)
          rwa [HO.out.1 h] at q
        have HS5 : Hid (x.k = 5 → m = 0 → R = 130) := fun h h2 => HS.out.2.1 (by simp) h h2
        have HS6 : Hid (x.k = 5 → m ≠ 0 → clpE (m - 1) (l.drop (k + 1)) = R) := fun h h2 => by
          have q := HS.out.2.2 (by simp) (fun e => h2 e.2)
          rwa [HO.out.2.1 h] at q
        clear HS HO
        rcases hk5 with k1 | k1 | k1 | k1 | k1
        iterate 3
          · have HF := HS2.out (by omega)
            have HF' : Hid (clpE m (l.drop (k + 1)) = R ∧ Below w.heap.size w w1) := ⟨HF, H1.out⟩
            clear HF HS2 HS4 HS5 HS6
            go_wp2
            go_roundw
            case rel => exact ⟨m, k + 1, rfl, by omega, by go_num, by omega, HF'⟩
            case measure => simp [intOf]; omega
        · have HF := HS4.out k1
          have HF' : Hid (clpE (m + 1) (l.drop (k + 1)) = R ∧ Below w.heap.size w w1) := ⟨HF, H1.out⟩
          clear HF HS2 HS4 HS5 HS6
          go_wp2
          go_roundw
          case rel => exact ⟨m + 1, k + 1, by go_num, by omega, by go_num, by omega, HF'⟩
          case measure => simp [intOf]; omega
        · by_cases hm0 : m = 0
          · have e := HS5.out k1 hm0
            subst hm0
            subst e
            clear HS2 HS4 HS5 HS6
            go_wp2
            go_ret
            exact ⟨rfl, H1.out⟩
          · have HF := HS6.out k1 hm0
            obtain ⟨m', rfl⟩ : ∃ m', m = m' + 1 := ⟨m - 1, by omega⟩
            have HF' : Hid (clpE m' (l.drop (k + 1)) = R ∧ Below w.heap.size w w1) := ⟨HF, H1.out⟩
            clear HF HS2 HS4 HS5 HS6 hm0
            go_wp2
            go_roundw
            case rel => exact ⟨m', k + 1, by go_num, by omega, by go_num, by omega, HF'⟩
            case measure => simp [intOf]; omega
      iterate 2
        · have e := HS.out.1 (by decide)
          subst e
          clear h45 HS HO
          go_wp2_with fail
          refine (HR.out _).mono ?_
          rintro e w1 ⟨rfl, hb⟩
          obtain ⟨y0, hB⟩ := HX.out _ hb
          have H1 : Hid (Below w.heap.size w w1) := hB
          clear hb hB
          go_wp2
          go_ret
          exact ⟨rfl, H1.out⟩
    · obtain rfl : k = l.length := by omega
      have hR := HK.out.1
      rw [List.drop_length] at hR
      have H1 : Hid (Below w.heap.size w wr) := HK.out.2
      unfold clpE at hR
      by_cases hm0 : 0 < m
      · rw [if_pos hm0] at hR
        subst hR
        clear HK HT
        go_wp2
        go_ret
        exact ⟨rfl, H1.out⟩
      · rw [if_neg hm0] at hR
        subst hR
        obtain rfl : m = 0 := by omega
        clear HK HT
        go_wp2
        go_ret
        exact ⟨rfl, H1.out⟩

end Go.Proofs.YtfjbnejmcanamaaGreatDoor

/-
  Contracts of package region: what is left of spans when others are cut out; what two rows have together.
-/
namespace Go.Proofs.YtfjbnejmcanamaaGreatDoor
open Go.RowKit
attribute [local go_sem] ite_max ite_min

theorem cut_len : ∀ (cs : List Sp) (a b : Int), (cutA a b cs).1.length + (cutA a b cs).2.length ≤ cs.length + 1
  | [], a, b => by simp [cutA]
  | c :: t, a, b => by
    have ih := cut_len t (max a c.2) b
    rw [cutA]
    split
    · split
      · dsimp only; split <;> simp <;> omega
      · dsimp only; rw [List.length_append]; split <;> simp <;> omega
    · simp; omega
theorem pieces_len : ∀ (l cs : List Sp), (piecesF l cs).length ≤ l.length + cs.length
  | [], cs => by simp [piecesF]
  | s :: t, cs => by
    have h1 := cut_len cs s.1 s.2
    have h2 := pieces_len t (cutA s.1 s.2 cs).2
    rw [piecesF, List.length_append, List.length_cons]
    omega

theorem row_other {base : Nat} {e : TypeId} {size n : Nat} {v : Value} {xs : List Value} {X : World} (h : X.ownsRow base e size v n xs) (p : Addr) (u : Value) (hp : v.ownBlock ≠ some p.block) : (X.setCell p u).ownsRow base e size v n xs := by
  obtain ⟨hl, h⟩ := h
  refine ⟨hl, ?_⟩
  rcases h with h | ⟨g, cap, cur, rfl, h0, h1, h2⟩
  · exact .inl h
  · exact .inr ⟨g, cap, cur, rfl, h0, (Below.heap_setCell _ _ _ g (fun e => hp (by rw [← e]; rfl))).trans h1, h2⟩

theorem cell_twoB (w : World) (x y : Value) (t : TypeId) (b : Nat) (h : b = w.heap.size) : ∀ (j : Nat) (u : Value), [x, y][j]? = some u → (w.alloc (.cells #[x, y] t)).cell? ((⟨b, 0, none⟩ : Addr).add j) = some u := by
  subst h
  exact cell_two w x y t

theorem cell_fourB (w : World) (x y n m : Value) (t : TypeId) (b : Nat) (h : b = w.heap.size) : ∀ (j : Nat) (u : Value), [x, y, n, m][j]? = some u → (w.alloc (.cells #[x, y, n, m] t)).cell? ((⟨b, 0, none⟩ : Addr).add j) = some u := by
  intro j u hj
  subst h
  match j, hj with
  | 0, hj => simp at hj; subst hj; simp [Addr.add]
  | 1, hj => simp at hj; subst hj; simp [Addr.add]
  | 2, hj => simp at hj; subst hj; simp [Addr.add]
  | 3, hj => simp at hj; subst hj; simp [Addr.add]
theorem one4 (r : Rc) : ∀ u ∈ [Value.int .i64 r.x, .int .i64 r.y, .int .i64 r.w, .int .i64 r.h], u.oneCell' = true := by
  intro u hu
  simp at hu
  rcases hu with rfl | rfl | rfl | rfl <;> rfl

end Go.Proofs.YtfjbnejmcanamaaGreatDoor
