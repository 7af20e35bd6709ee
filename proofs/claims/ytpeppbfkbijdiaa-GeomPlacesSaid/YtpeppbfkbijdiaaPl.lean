/-
  Contracts of the leaves of the statement GeomPlaces: a small rectangle of four bytes; whether a rectangle has a place by its numbers.
-/
import Derived.Test.YtpeppbfkbijdiaaAl
import Derived.Test.YtpeppbfkbijdiaaPlain7
namespace Go.Proofs.Ytpeppbfkbijdiaa
open Go.RowKit

theorem tmod_bd (p : Int) : -15 ≤ p.tmod 16 ∧ p.tmod 16 ≤ 15 := by
  rcases Int.le_total 0 p with h | h
  · rw [Int.tmod_eq_emod_of_nonneg h]; omega
  · have e : p.tmod 16 = -((-p).tmod 16) := by rw [Int.neg_tmod]; simp
    rw [e, Int.tmod_eq_emod_of_nonneg (by omega)]; omega
theorem tmod_pos (p : Int) : 0 ≤ p.tmod 16 % 16 ∧ p.tmod 16 % 16 ≤ 15 := by
  omega

set_option maxHeartbeats 1000000 in
theorem four_any (p q r s : Int) (w : World) (p1 : -128 ≤ p) (p2 : p ≤ 127) (q1 : -128 ≤ q) (q2 : q ≤ 127) (r1 : -128 ≤ r) (r2 : r ≤ 127) (s1 : -128 ≤ s) (s2 : s ≤ 127) :
    Calls Try.prog 38 #[.agg #[.int .i8 p, .int .i8 q, .int .i8 r, .int .i8 s]] w fun e w' => e = .returned (.agg #[.int .i64 (p.tmod 16), .int .i64 (q.tmod 16), .int .i64 (r.tmod 16 % 16), .int .i64 (s.tmod 16 % 16)]) ∧ Below w.heap.size w w' := by
  have hr := tmod_bd r
  have hs := tmod_bd s
  go_enter Try.func38, Try.ntmps38
  go_wp2_with fail
  refine (r_any _ _ _ _ _).mono ?_
  rintro e w1 ⟨rfl, hb⟩
  have C := (At4.new' (w.alloc (.cells #[.int .i8 p, .int .i8 q, .int .i8 r, .int .i8 s] 50)) (w.heap.size + 1) 0 0 0 0 29 (by simp)).below hb
  have F := (fr1 w (.cells #[.int .i8 p, .int .i8 q, .int .i8 r, .int .i8 s] 50) #[.int .i64 0, .int .i64 0, .int .i64 0, .int .i64 0] 29).below hb
  have L := (((Below.refl w.heap.size w).alloc (Nat.le_refl _) (.cells #[.int .i8 p, .int .i8 q, .int .i8 r, .int .i8 s] 50)).alloc (by simp) (.cells #[.int .i64 0, .int .i64 0, .int .i64 0, .int .i64 0] 29)).trans (hb.mono (by simp; omega))
  clear hb
  obtain ⟨d0, d1, d2, d3⟩ := id C
  replace F := F.2
  go_wp2
  exact bodyPost_ret (v := .agg #[.int .i64 _, .int .i64 _, .int .i64 _, .int .i64 _]) (by simp [results, Try.results38, go_sem, d0, d1, d2, d3]) rfl ⟨rfl, set4_below L (by omega) _ _ _ _⟩

set_option maxHeartbeats 1000000 in
theorem lhas_any (x y n m px py : Int) (w : World) (b1 : -1000000 ≤ x) (b2 : x ≤ 1000000) (b3 : -1000000 ≤ y) (b4 : y ≤ 1000000) (b5 : -1000000 ≤ n) (b6 : n ≤ 1000000) (b7 : -1000000 ≤ m) (b8 : m ≤ 1000000) :
    Calls Try.prog 39 #[.agg #[.int .i64 x, .int .i64 y, .int .i64 n, .int .i64 m], .int .i64 px, .int .i64 py] w fun e w' => e = .returned (.bool (plB x y n m px py)) ∧ Below w.heap.size w w' := by
  have cs := chain4 (decide (x ≤ px)) (decide (px < x + n)) (decide (y ≤ py)) (decide (py < y + m))
  rcases cs with c1 | ⟨c1, c2⟩ | ⟨c1, c2, c3⟩ | ⟨c1, c2, c3, c4⟩ | ⟨c1, c2, c3, c4⟩
  all_goals
    go_enter Try.func39, Try.ntmps39
    go_wp2
    go_ret
    exact ⟨by unfold plB; simp only [*]; simp, (Below.refl _ _).alloc (Nat.le_refl _) _⟩

end Go.Proofs.Ytpeppbfkbijdiaa
