/-
  A region that draws its order, whose own operations only read and whose callees leave what was there: one walk. Contracts of the document's answer: its leaves.
-/
import Derived.Test.YthnhcphkpffkfaaGreatW1
import Derived.Deep.QuietTactic
import Derived.BigQuiet
namespace Go.Proofs.YthnhcphkpffkfaaGreat
open Go.RowKit

/-- A world that has grown out of W: below W's size nothing has turned. -/
structure Gw (W : World) where
  wd : World
  below : Below W.heap.size W wd

theorem wp_region_gw {P : Program} {id : Nat} {Q : Exit → Act → World → Prop} {a : Act} {w : World} {l : List Oper} (hm : P.follows .mixedOrders = true) (hB : Region.lexB .any l.toArray = true)
    (h : wpQuiet P l.toArray (fun w' => ∃ t : Gw w, w' = t.wd) (fun a' => ∀ w', (∃ t : Gw w, w' = t.wd) → Q .normal a' w') l a) : (Code.region id l.toArray true).wp P Q a w :=
  wp_region_quiet (C := fun w' => ∃ t : Gw w, w' = t.wd) hm hB ⟨⟨w.drew, (Below.refl _ _).drew⟩, rfl⟩ (by simpa using h)
theorem gw_call {P : Program} {f : FuncId} {args : Array Value} {W : World} {v : Value} {t : Gw W}
    (h : Calls P f args t.wd fun e w' => e = .returned v ∧ Below t.wd.heap.size t.wd w') : Calls P f args t.wd fun e w'' => e = .returned v ∧ ∃ t' : Gw W, w'' = t'.wd :=
  h.mono fun _ w'' ⟨he, hb⟩ => ⟨he, ⟨⟨w'', t.below.trans (hb.mono t.below.size)⟩, rfl⟩⟩
theorem gw_same {P : Program} {f : FuncId} {args : Array Value} {W : World} {v : Value} {t : Gw W}
    (h : Calls P f args t.wd fun e w' => e = .returned v ∧ w' = t.wd) : Calls P f args t.wd fun e w'' => e = .returned v ∧ ∃ t' : Gw W, w'' = t'.wd :=
  h.mono fun _ _ ⟨he, hw⟩ => ⟨he, ⟨t, hw⟩⟩
theorem gw_ne {B : Nat} {w W : World} (_h : Below B w W) : Nonempty (Gw W) := ⟨⟨W, Below.refl _ _⟩⟩
theorem gw4 {W : World} {b : Nat} {x y n m : Int} (h : At4 W b x y n m) (t : Gw W) : At4 t.wd b x y n m := h.below t.below
theorem gw2 {W : World} {b : Nat} {x y : Int} (h : At2 W b x y) (t : Gw W) : At2 t.wd b x y := h.below t.below

set_option maxHeartbeats 400000 in
theorem rwithin_any (n : Int) (w : World) :
    Calls Tryz.prog 88 #[.int .i64 n] w fun e w' => e = .returned (.bool (witB n (-16384) 16384)) ∧ w' = w := by
  by_cases c1 : -16384 ≤ n
  · go_enter Tryz.func88, Tryz.ntmps88
    go_wp2
    go_ret
    exact ⟨by simp [witB, c1], rfl⟩
  · go_enter Tryz.func88, Tryz.ntmps88
    go_wp2
    go_ret
    exact ⟨by simp [witB]; omega, rfl⟩

set_option maxHeartbeats 400000 in
theorem rside_any (n : Int) (w : World) :
    Calls Tryz.prog 89 #[.int .i64 n] w fun e w' => e = .returned (.bool (witB n 0 32768)) ∧ w' = w := by
  by_cases c1 : 0 ≤ n
  · go_enter Tryz.func89, Tryz.ntmps89
    go_wp2
    go_ret
    exact ⟨by simp [witB, c1], rfl⟩
  · go_enter Tryz.func89, Tryz.ntmps89
    go_wp2
    go_ret
    exact ⟨by simp [witB]; omega, rfl⟩

set_option maxHeartbeats 400000 in
theorem rspan_any (p n : Int) (w : World) :
    Calls Tryz.prog 73 #[.int .i64 p, .int .i64 n] w fun e w' => e = .returned (.bool (spanB p n)) ∧ w' = w := by
  cases h1 : witB p (-16384) 16384
  · rw [span_no1 p n h1]
    go_enter Tryz.func73, Tryz.ntmps73
    go_wp2_with (go_at_call 88; refine (rwithin_any _ _).mono ?_; rintro e w' ⟨rfl, rfl⟩)
    go_ret
    exact ⟨rfl, rfl⟩
  · cases h2 : witB n 0 32768
    · rw [span_no2 p n h1 h2]
      go_enter Tryz.func73, Tryz.ntmps73
      go_wp2_with (first | (go_at_call 88; refine (rwithin_any _ _).mono ?_; rintro e w' ⟨rfl, rfl⟩) | (go_at_call 89; refine (rside_any _ _).mono ?_; rintro e w' ⟨rfl, rfl⟩))
      go_ret
      exact ⟨rfl, rfl⟩
    · rw [span_ref p n h1 h2]
      have b1 := (wit_iff.1 h1).1
      have b2 := (wit_iff.1 h1).2
      have b3 := (wit_iff.1 h2).1
      have b4 := (wit_iff.1 h2).2
      go_enter Tryz.func73, Tryz.ntmps73
      go_wp2_with (first | (go_at_call 88; refine (rwithin_any _ _).mono ?_; rintro e w' ⟨rfl, rfl⟩) | (go_at_call 89; refine (rside_any _ _).mono ?_; rintro e w' ⟨rfl, rfl⟩))
      go_ret
      exact ⟨rfl, rfl⟩

set_option maxHeartbeats 400000 in
theorem rmay_any (x y n m : Int) (w : World) :
    Calls Tryz.prog 47 #[.agg #[.int .i64 x, .int .i64 y, .int .i64 n, .int .i64 m]] w fun e w' => e = .returned (.bool (mayB x y n m)) ∧ Below w.heap.size w w' := by
  cases h1 : spanB x n
  · go_enter Tryz.func47, Tryz.ntmps47
    go_wp2_with (go_at_call 73; refine (rspan_any _ _ _).mono ?_; rintro e w' ⟨rfl, rfl⟩)
    go_ret
    exact ⟨by simp [mayB, h1], (Below.refl _ _).alloc (Nat.le_refl _) _⟩
  · go_enter Tryz.func47, Tryz.ntmps47
    go_wp2_with (go_at_call 73; refine (rspan_any _ _ _).mono ?_; rintro e w' ⟨rfl, rfl⟩)
    go_ret
    exact ⟨by simp [mayB, h1], (Below.refl _ _).alloc (Nat.le_refl _) _⟩

set_option maxHeartbeats 400000 in
theorem rcheck_any (x y n m : Int) (w : World) :
    Calls Tryz.prog 44 #[.agg #[.int .i64 x, .int .i64 y, .int .i64 n, .int .i64 m]] w fun e w' => e = .returned (.int .i64 (chk x y n m)) ∧ Below w.heap.size w w' := by
  cases h1 : mayB x y n m
  all_goals
    go_enter Tryz.func44, Tryz.ntmps44
    go_wp2_with fail
    refine (rmay_any _ _ _ _ _).mono ?_
    rintro e w1 ⟨rfl, hb⟩
    go_wp2
    go_ret
    exact ⟨by simp [chk, h1], ((Below.refl _ _).alloc (Nat.le_refl _) _).trans (hb.mono (by simp))⟩

end Go.Proofs.YthnhcphkpffkfaaGreat
