/-
  Contracts of package style: numbers of rules, by strength.
-/
import Derived.Test.YtobmpjmpffnoiaaDoorSW5
import Derived.Test.YtobmpjmpffnoiaaDoorSO9
namespace Go.Proofs.YtobmpjmpffnoiaaDoor
open Go.RowKit Go.Shelf

theorem Ex.blk {B : Nat} {w W : World} (h : Ex B w W) {k : Nat} {vs : Array Value} {t : TypeId} (hk : k ≠ B) (hb : Blk w k vs t) : Blk W k vs t := h.kept.2 k _ hk (.inl rfl) hb

theorem closure_enters : ∀ args w, (callFunc 46 args).run Tryd.prog w = .ok (.enter 46 args) w := enters_of Tryd.func46 (by kernel_rfl) rfl

set_option maxHeartbeats 1000000 in
theorem sortBy_any (rs : List Rl) (v : Value) (B o n cap : Nat) (f : Nat → Nat) (w0 w : World) (hv : Rules w0 v rs) (h0 : Below w0.heap.size w0 w) (hB : w0.heap.size ≤ B) (hs : ∀ r ∈ rs, r.state < 256) (hl : rs.length < 1000000) (hn : n < 1000000)
    (hR : Row w B o n f) (hN : ∀ i, i < n → f i < rs.length) (hup : ∀ i j, i < j → j < n → f i < f j) :
    Calls Tryd.prog 32 #[v, .slice (some ⟨B, o, none⟩) n cap] w fun e w' => e = .returned (.tuple #[]) ∧ ∃ f', Row w' B o n f' ∧ Mrg (str rs) f f' 0 n ∧ Ex B w w' := by
  obtain ⟨oa, c0, rfl, hcc, _⟩ := id hv
  have A := Blk.new w #[.slice oa rs.length c0] 23
  have L : Below w.heap.size w (w.alloc (.cells #[.slice oa rs.length c0] 23)) := (Below.refl _ w).alloc (Nat.le_refl _) _
  have hCm : Cmps (str rs) rs.length B 46 #[.pointer (some ⟨w.heap.size, 0, none⟩)] (w.alloc (.cells #[.slice oa rs.length c0] 23)) := by
    intro W x y hX hx hy
    have hW : Below w0.heap.size w0 W := (h0.trans (L.mono h0.size)).trans (hX.below.mono hB)
    have hb := (hX.blk (by have := hR.lt; omega) A).at1
    exact closure_any rs _ w.heap.size x y W (hv.below hW) hb hs hx hy hl
  have H := sort_any (str rs) rs.length B o n cap 46 #[.pointer (some ⟨w.heap.size, 0, none⟩)] _ hCm closure_enters hn f (hR.below L) hN hup
  have HB : Hid (B ≤ w.heap.size) := Nat.le_of_lt hR.lt
  clear hCm hv hR hN hup A
  go_enter Tryd.func32, Tryd.ntmps32
  go_wp2_with fail
  refine H.mono ?_
  rintro e w1 ⟨rfl, f1, h1, h2, h3⟩
  go_wp2
  go_end0
  exact ⟨rfl, f1, h1, h2, (Ex.of HB.out L).trans h3⟩

set_option maxRecDepth 200000 in
set_option maxHeartbeats 1000000 in
theorem insertion_nil (g : Value) (w : World) : Calls Tryd.prog 64 #[.slice none 0 0, .int .i64 0, .int .i64 0, g] w fun e w' => e = .returned (.tuple #[]) ∧ w' = w := by
  go_enter Tryd.func64, Tryd.ntmps64
  go_wp2_with fail
  refine wp_loop_rounds 1 ?_
  rw [rounds_succ]
  go_wp2
  go_end0
  exact ⟨rfl, rfl⟩

set_option maxRecDepth 200000 in
set_option maxHeartbeats 1000000 in
theorem stable_nil (g : Value) (w : World) : Calls Tryd.prog 59 #[.slice none 0 0, .int .i64 0, g] w fun e w' => e = .returned (.tuple #[]) ∧ w' = w := by
  go_enter Tryd.func59, Tryd.ntmps59
  go_wp2_with fail
  refine wp_loop_rounds 1 ?_
  rw [rounds_succ]
  go_wp2_with fail
  refine (insertion_nil _ _).mono ?_
  rintro e w1 ⟨rfl, rfl⟩
  go_wp2_with fail
  refine wp_loop_rounds 1 ?_
  rw [rounds_succ]
  go_wp2
  go_end0
  exact ⟨rfl, rfl⟩

set_option maxHeartbeats 1000000 in
theorem sortBy_nil (oa : Option Addr) (k c : Nat) (w : World) : Calls Tryd.prog 32 #[.slice oa k c, .slice none 0 0] w fun e w' => e = .returned (.tuple #[]) ∧ Below w.heap.size w w' := by
  have hS : Hid (∀ g w, Calls Tryd.prog 45 #[.slice none 0 0, g] w fun e w' => e = .returned (.tuple #[]) ∧ w' = w) := fun g w => by
    go_enter Tryd.func45, Tryd.ntmps45
    go_wp2_with fail
    refine (stable_nil _ _).mono ?_
    rintro e w1 ⟨rfl, rfl⟩
    go_wp2
    go_end0
    exact ⟨rfl, rfl⟩
  have L : Below w.heap.size w (w.alloc (.cells #[.slice oa k c] 23)) := (Below.refl _ w).alloc (Nat.le_refl _) _
  go_enter Tryd.func32, Tryd.ntmps32
  go_wp2_with fail
  refine (hS.out _ _).mono ?_
  rintro e w1 ⟨rfl, rfl⟩
  go_wp2
  go_end0
  exact ⟨rfl, L⟩

end Go.Proofs.YtobmpjmpffnoiaaDoor
