/-
  A region that draws its order, whose own operations only read and whose callees leave what was there: one walk. Contracts of the document's answer: its leaves.
-/
import Derived.Test.YtpeppbfkbijdiaaW1
import Derived.Deep.QuietTactic
import Derived.BigQuiet
namespace Go.Proofs.Ytpeppbfkbijdiaa
open Go.RowKit

/-- A world that has grown out of W: below W's size nothing has turned. -/
structure Gw (W : World) where
  wd : World
  below : Below W.heap.size W wd

theorem wp_region_gw {P : Program} {id : Nat} {Q : Exit → Act → World → Prop} {a : Act} {w : World} {l : List Oper} (hm : P.follows .mixedOrders = true) (hB : Region.lexB .any l.toArray = true)
    (h : wpQuiet P l.toArray (fun w' => ∃ t : Gw w, w' = t.wd) (fun a' => ∀ w', (∃ t : Gw w, w' = t.wd) → Q .normal a' w') l a) : (Code.region id l.toArray true).wp P Q a w :=
  wp_region_quiet (C := fun w' => ∃ t : Gw w, w' = t.wd) hm hB ⟨⟨w.drew, (Below.refl _ _).drew⟩, rfl⟩ (by simpa using h)
theorem gw_call {P : Program} {f : FuncId} {args : Array Value} {W : World} {v : Value} {t : Gw W}
    (h : Calls P f args t.wd fun e w' => e = .returned v ∧ Below t.wd.heap.size t.wd w') : Calls P f args t.wd fun e w'' => e = .returned v ∧ ∃ t' : Gw W, w'' = t'.wd :=
  h.mono fun _ w'' ⟨he, hb⟩ => ⟨he, ⟨⟨w'', t.below.trans (hb.mono t.below.size)⟩, rfl⟩⟩
theorem gw_same {P : Program} {f : FuncId} {args : Array Value} {W : World} {v : Value} {t : Gw W}
    (h : Calls P f args t.wd fun e w' => e = .returned v ∧ w' = t.wd) : Calls P f args t.wd fun e w'' => e = .returned v ∧ ∃ t' : Gw W, w'' = t'.wd :=
  h.mono fun _ _ ⟨he, hw⟩ => ⟨he, ⟨t, hw⟩⟩
theorem gw_ne {B : Nat} {w W : World} (_h : Below B w W) : Nonempty (Gw W) := ⟨⟨W, Below.refl _ _⟩⟩
theorem gw4 {W : World} {b : Nat} {x y n m : Int} (h : At4 W b x y n m) (t : Gw W) : At4 t.wd b x y n m := h.below t.below
theorem gw2 {W : World} {b : Nat} {x y : Int} (h : At2 W b x y) (t : Gw W) : At2 t.wd b x y := h.below t.below

set_option maxHeartbeats 400000 in
theorem rwithin_any (n : Int) (w : World) :
    Calls Try.prog 47 #[.int .i64 n] w fun e w' => e = .returned (.bool (witB n (-16384) 16384)) ∧ w' = w := by
  by_cases c1 : -16384 ≤ n
  · go_enter Try.func47, Try.ntmps47
    go_wp2
    go_ret
    exact ⟨by simp [witB, c1], rfl⟩
  · go_enter Try.func47, Try.ntmps47
    go_wp2
    go_ret
    exact ⟨by simp [witB]; omega, rfl⟩

set_option maxHeartbeats 400000 in
theorem rside_any (n : Int) (w : World) :
    Calls Try.prog 55 #[.int .i64 n] w fun e w' => e = .returned (.bool (witB n 0 32768)) ∧ w' = w := by
  by_cases c1 : 0 ≤ n
  · go_enter Try.func55, Try.ntmps55
    go_wp2
    go_ret
    exact ⟨by simp [witB, c1], rfl⟩
  · go_enter Try.func55, Try.ntmps55
    go_wp2
    go_ret
    exact ⟨by simp [witB]; omega, rfl⟩

set_option maxHeartbeats 400000 in
theorem rspan_any (p n : Int) (w : World) :
    Calls Try.prog 57 #[.int .i64 p, .int .i64 n] w fun e w' => e = .returned (.bool (spanB p n)) ∧ w' = w := by
  cases h1 : witB p (-16384) 16384
  · rw [span_no1 p n h1]
    go_enter Try.func57, Try.ntmps57
    go_wp2_with (go_at_call 47; refine (rwithin_any _ _).mono ?_; rintro e w' ⟨rfl, rfl⟩)
    go_ret
    exact ⟨rfl, rfl⟩
  · cases h2 : witB n 0 32768
    · rw [span_no2 p n h1 h2]
      go_enter Try.func57, Try.ntmps57
      go_wp2_with (first | (go_at_call 47; refine (rwithin_any _ _).mono ?_; rintro e w' ⟨rfl, rfl⟩) | (go_at_call 55; refine (rside_any _ _).mono ?_; rintro e w' ⟨rfl, rfl⟩))
      go_ret
      exact ⟨rfl, rfl⟩
    · rw [span_ref p n h1 h2]
      have b1 := (wit_iff.1 h1).1
      have b2 := (wit_iff.1 h1).2
      have b3 := (wit_iff.1 h2).1
      have b4 := (wit_iff.1 h2).2
      go_enter Try.func57, Try.ntmps57
      go_wp2_with (first | (go_at_call 47; refine (rwithin_any _ _).mono ?_; rintro e w' ⟨rfl, rfl⟩) | (go_at_call 55; refine (rside_any _ _).mono ?_; rintro e w' ⟨rfl, rfl⟩))
      go_ret
      exact ⟨rfl, rfl⟩

set_option maxHeartbeats 400000 in
theorem rmay_any (x y n m : Int) (w : World) :
    Calls Try.prog 49 #[.agg #[.int .i64 x, .int .i64 y, .int .i64 n, .int .i64 m]] w fun e w' => e = .returned (.bool (mayB x y n m)) ∧ Below w.heap.size w w' := by
  cases h1 : spanB x n
  · go_enter Try.func49, Try.ntmps49
    go_wp2_with (go_at_call 57; refine (rspan_any _ _ _).mono ?_; rintro e w' ⟨rfl, rfl⟩)
    go_ret
    exact ⟨by simp [mayB, h1], (Below.refl _ _).alloc (Nat.le_refl _) _⟩
  · go_enter Try.func49, Try.ntmps49
    go_wp2_with (go_at_call 57; refine (rspan_any _ _ _).mono ?_; rintro e w' ⟨rfl, rfl⟩)
    go_ret
    exact ⟨by simp [mayB, h1], (Below.refl _ _).alloc (Nat.le_refl _) _⟩

set_option maxHeartbeats 400000 in
theorem rcheck_any (x y n m : Int) (w : World) :
    Calls Try.prog 22 #[.agg #[.int .i64 x, .int .i64 y, .int .i64 n, .int .i64 m]] w fun e w' => e = .returned (.int .i64 (chk x y n m)) ∧ Below w.heap.size w w' := by
  cases h1 : mayB x y n m
  all_goals
    go_enter Try.func22, Try.ntmps22
    go_wp2_with fail
    refine (rmay_any _ _ _ _ _).mono ?_
    rintro e w1 ⟨rfl, hb⟩
    go_wp2
    go_ret
    exact ⟨by simp [chk, h1], ((Below.refl _ _).alloc (Nat.le_refl _) _).trans (hb.mono (by simp))⟩

set_option maxHeartbeats 400000 in
theorem rempty_any (x y n m : Int) (w : World) :
    Calls Try.prog 23 #[.agg #[.int .i64 x, .int .i64 y, .int .i64 n, .int .i64 m]] w fun e w' => e = .returned (.bool (emptyB x y n m)) ∧ Below w.heap.size w w' := by
  have cs : mayB x y n m = false ∨ (mayB x y n m = true ∧ (n == 0) = true) ∨ (mayB x y n m = true ∧ (n == 0) = false) := by
    cases mayB x y n m <;> cases (n == 0) <;> simp
  rcases cs with h1 | ⟨h1, c1⟩ | ⟨h1, c1⟩
  all_goals
    go_enter Try.func23, Try.ntmps23
    go_wp2_with fail
    refine (rmay_any _ _ _ _ _).mono ?_
    rintro e w1 ⟨rfl, hb⟩
    obtain ⟨hc, hf⟩ := bcell hb
    go_wp2
    go_ret
    refine ⟨?_, ((Below.refl _ _).alloc (Nat.le_refl _) _).trans (hb.mono (by simp))⟩
  · simp [emptyB, h1]
  · simp [emptyB, c1]
  · simp [emptyB, h1, c1]

set_option maxHeartbeats 400000 in
theorem rarea_any (x y n m : Int) (w : World) :
    Calls Try.prog 25 #[.agg #[.int .i64 x, .int .i64 y, .int .i64 n, .int .i64 m]] w fun e w' => e = .returned (.int .i64 (areaI x y n m)) ∧ Below w.heap.size w w' := by
  cases h1 : emptyB x y n m
  · obtain ⟨b1, b2, b3, b4, b5, b6, b7, b8, b9, b10⟩ := bounds_of h1
    have hm : n * m ≤ 32768 * 32768 := Int.mul_le_mul b6 b8 (by omega) (by omega)
    have hm0 : 0 ≤ n * m := Int.mul_nonneg (by omega) (by omega)
    go_enter Try.func25, Try.ntmps25
    go_wp2_with fail
    refine (rempty_any _ _ _ _ _).mono ?_
    rintro e w1 ⟨rfl, hb⟩
    obtain ⟨hc, hf⟩ := bcell hb
    go_wp2
    go_ret
    exact ⟨by simp [areaI, h1], ((Below.refl _ _).alloc (Nat.le_refl _) _).trans (hb.mono (by simp))⟩
  · go_enter Try.func25, Try.ntmps25
    go_wp2_with fail
    refine (rempty_any _ _ _ _ _).mono ?_
    rintro e w1 ⟨rfl, hb⟩
    go_wp2
    go_ret
    exact ⟨by simp [areaI, h1], ((Below.refl _ _).alloc (Nat.le_refl _) _).trans (hb.mono (by simp))⟩

set_option maxHeartbeats 400000 in
theorem rright_any (x y n m : Int) (w : World) (b1 : -1000000 ≤ x) (b2 : x ≤ 1000000) (b5 : -1000000 ≤ n) (b6 : n ≤ 1000000) :
    Calls Try.prog 50 #[.agg #[.int .i64 x, .int .i64 y, .int .i64 n, .int .i64 m]] w fun e w' => e = .returned (.int .i64 (x + n)) ∧ Below w.heap.size w w' := by
  go_enter Try.func50, Try.ntmps50
  go_wp2
  go_ret
  exact ⟨rfl, (Below.refl _ _).alloc (Nat.le_refl _) _⟩
set_option maxHeartbeats 400000 in
theorem rbelow_any (x y n m : Int) (w : World) (b1 : -1000000 ≤ y) (b2 : y ≤ 1000000) (b5 : -1000000 ≤ m) (b6 : m ≤ 1000000) :
    Calls Try.prog 51 #[.agg #[.int .i64 x, .int .i64 y, .int .i64 n, .int .i64 m]] w fun e w' => e = .returned (.int .i64 (y + m)) ∧ Below w.heap.size w w' := by
  go_enter Try.func51, Try.ntmps51
  go_wp2
  go_ret
  exact ⟨rfl, (Below.refl _ _).alloc (Nat.le_refl _) _⟩

set_option maxHeartbeats 1000000 in
theorem rhas_any (x y n m px py : Int) (w : World) :
    Calls Try.prog 26 #[.agg #[.int .i64 x, .int .i64 y, .int .i64 n, .int .i64 m], .agg #[.int .i64 px, .int .i64 py]] w fun e w' => e = .returned (.bool (hasB x y n m px py)) ∧ Below w.heap.size w w' := by
  cases h1 : emptyB x y n m
  · obtain ⟨b1, b2, b3, b4, b5, b6, b7, b8, b9, b10⟩ := bounds_of h1
    have cs := chain4 (decide (x ≤ px)) (decide (px < x + n)) (decide (y ≤ py)) (decide (py < y + m))
    rcases cs with c1 | ⟨c1, c2⟩ | ⟨c1, c2, c3⟩ | ⟨c1, c2, c3, c4⟩ | ⟨c1, c2, c3, c4⟩
    all_goals
      go_enter Try.func26, Try.ntmps26
      go_wp2_with fail
      obtain ⟨A, B, L⟩ := boxes_rp w x y n m px py 29 25
      have ne := gw_ne L
      have hA := gw4 A
      have hB := gw2 B
      have d0 := fun t => (hA t).1
      have d1 := fun t => (hA t).2.1
      have d2 := fun t => (hA t).2.2.1
      have d3 := fun t => (hA t).2.2.2
      have e0 := fun t => (hB t).1
      have e1 := fun t => (hB t).2
      clear hA hB
      refine wp_region_gw (by kernel_rfl) (by kernel_rfl) ?_
      repeat (go_big_quiet_step (first | (go_at_call 23; exact gw_call (rempty_any _ _ _ _ _)) | (go_at_call 50; exact gw_call (rright_any _ _ _ _ _ (by omega) (by omega) (by omega) (by omega))) | (go_at_call 51; exact gw_call (rbelow_any _ _ _ _ _ (by omega) (by omega) (by omega) (by omega)))))
      refine wpQuiet_nil ?_
      rintro _ ⟨t, rfl⟩
      go_wp2
      go_ret
      refine ⟨ret_bool ?_, L.trans (t.below.mono L.size)⟩
      unfold hasB
      simp only [*]
      simp
  · go_enter Try.func26, Try.ntmps26
    go_wp2_with fail
    obtain ⟨A, B, L⟩ := boxes_rp w x y n m px py 29 25
    have ne := gw_ne L
    have hA := gw4 A
    have d0 := fun t => (hA t).1
    have d1 := fun t => (hA t).2.1
    have d2 := fun t => (hA t).2.2.1
    have d3 := fun t => (hA t).2.2.2
    clear hA
    refine wp_region_gw (by kernel_rfl) (by kernel_rfl) ?_
    repeat (go_big_quiet_step (first | (go_at_call 23; exact gw_call (rempty_any _ _ _ _ _))))
    refine wpQuiet_nil ?_
    rintro _ ⟨t, rfl⟩
    go_wp2
    go_ret
    exact ⟨by simp [hasB, h1], L.trans (t.below.mono L.size)⟩

end Go.Proofs.Ytpeppbfkbijdiaa
