/-
  The document's answer: may a look be?
-/
import Derived.Test.YtobmpjmpffnoiaaDoorSW3
namespace Go.Proofs.YtobmpjmpffnoiaaDoor
open Go.RowKit Go.Shelf

set_option maxRecDepth 100000 in
theorem bit_own : ∀ (q : Fin 256), (bits .and .u8 ((q.val : Nat) : Int) 1 == 1) = tb q.val 0 ∧ (bits .and .u8 ((q.val : Nat) : Int) 2 == 2) = tb q.val 1 ∧ (bits .and .u8 ((q.val : Nat) : Int) 4 == 4) = tb q.val 2 ∧ (bits .and .u8 ((q.val : Nat) : Int) 8 == 8) = tb q.val 3 := by decide +kernel
theorem eql_none (r g b a : Int) (w : World) : (binOp .eql 31 (.agg #[.int .u8 r, .int .u8 g, .int .u8 b, .int .u8 a]) (.agg #[.int .u8 0, .int .u8 0, .int .u8 0, .int .u8 0])).run Tryd.prog w = .ok (.bool (r == 0 && (g == 0 && (b == 0 && a == 0)))) w := by
  simp [go_sem]
  exact chain_if (chain_if (chain_if chain_last))

set_option maxRecDepth 20000 in
set_option maxHeartbeats 8000000 in
theorem rmay_any (k : Lk) (w : World) (h : k.has < 256) :
    Calls Tryd.prog 42 #[(Value.agg #[.int .u8 (k.has : Nat), .int .u8 k.r, .int .u8 k.g, .int .u8 k.b, .int .u8 k.a, .int .u8 k.r2, .int .u8 k.g2, .int .u8 k.b2, .int .u8 k.a2, .bool k.bd, .int .i64 k.pad])] w fun e w' => e = .returned (.bool (okL k)) ∧ Below w.heap.size w w' := by
  obtain ⟨p0, p1, p2, p3⟩ := bit_own ⟨k.has, h⟩
  simp only at p0 p1 p2 p3
  have A := (Blk.new w (#[.int .u8 (k.has : Nat), .int .u8 k.r, .int .u8 k.g, .int .u8 k.b, .int .u8 k.a, .int .u8 k.r2, .int .u8 k.g2, .int .u8 k.b2, .int .u8 k.a2, .bool k.bd, .int .i64 k.pad]) 33)
  by_cases h1 : 15 < k.has
  · have h1' : (15 : Int) < (k.has : Int) := by omega
    have e : okL k = false := by unfold okL; rw [decide_eq_false (by omega)]; simp
    rw [e]
    go_enter Tryd.func42, Tryd.ntmps42
    go_wp2
    go_ret
    exact ⟨rfl, (Below.refl _ w).alloc (Nat.le_refl _) _⟩
  have h1' : ¬ (15 : Int) < (k.has : Int) := by omega
  have h1d : decide ((15 : Int) < (k.has : Int)) = false := decide_eq_false h1'
  by_cases h2 : k.pad < 0
  · have e : okL k = false := by unfold okL; rw [decide_eq_false (show ¬ 0 ≤ k.pad by omega)]; simp
    rw [e]
    go_enter Tryd.func42, Tryd.ntmps42
    go_wp2
    go_ret
    exact ⟨rfl, (Below.refl _ w).alloc (Nat.le_refl _) _⟩
  have h2d : decide (k.pad < 0) = false := decide_eq_false h2
  by_cases h3 : 16384 < k.pad
  · have e : okL k = false := by unfold okL; rw [decide_eq_false (show ¬ k.pad ≤ 16384 by omega)]; simp
    rw [e]
    go_enter Tryd.func42, Tryd.ntmps42
    go_wp2
    go_ret
    exact ⟨rfl, (Below.refl _ w).alloc (Nat.le_refl _) _⟩
  have h3d : decide (16384 < k.pad) = false := decide_eq_false h3
  have E0 := eql_none k.r k.g k.b k.a
  have E1 := eql_none k.r2 k.g2 k.b2 k.a2
  have e : okL k = ((tb k.has 0 || (k.r == 0 && (k.g == 0 && (k.b == 0 && k.a == 0)))) && (tb k.has 1 || (k.r2 == 0 && (k.g2 == 0 && (k.b2 == 0 && k.a2 == 0)))) && (tb k.has 2 || !k.bd) && (tb k.has 3 || k.pad == 0)) := by
    unfold okL
    rw [decide_eq_true (show k.has < 16 by omega), decide_eq_true (show 0 ≤ k.pad by omega), decide_eq_true (show k.pad ≤ 16384 by omega)]
    simp only [Bool.true_and]
  rw [e]
  have q3 : (k.pad == 0) = (k.pad == 0) := rfl
  generalize (k.r == 0 && (k.g == 0 && (k.b == 0 && k.a == 0))) = x0 at *
  generalize (k.r2 == 0 && (k.g2 == 0 && (k.b2 == 0 && k.a2 == 0))) = x1 at *
  generalize hx3 : (k.pad == 0) = x3 at *
  generalize tb k.has 0 = b0 at *
  generalize tb k.has 1 = b1 at *
  generalize tb k.has 2 = b2 at *
  generalize tb k.has 3 = b3 at *
  have HL : Hid (∀ c, Below w.heap.size w ((w.alloc (.cells (#[.int .u8 (k.has : Nat), .int .u8 k.r, .int .u8 k.g, .int .u8 k.b, .int .u8 k.a, .int .u8 k.r2, .int .u8 k.g2, .int .u8 k.b2, .int .u8 k.a2, .bool k.bd, .int .i64 k.pad]) 33)).alloc c)) := fun c => ((Below.refl _ w).alloc (Nat.le_refl _) _).alloc (by simp) _
  clear e q3 A h1 h1' h2 h3
  go_enter Tryd.func42, Tryd.ntmps42
  go_wp2
  all_goals
    exact bodyPost_ret (v := .bool ((b0 || x0) && (b1 || x1) && (b2 || !k.bd) && (b3 || x3))) (by simp [results, Tryd.results42, go_sem, *]) rfl ⟨rfl, by simpa [*] using HL.out _⟩

end Go.Proofs.YtobmpjmpffnoiaaDoor
