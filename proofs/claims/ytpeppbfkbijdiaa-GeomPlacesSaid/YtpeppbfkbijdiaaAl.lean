/-
  Contract of the statements' own 'alive': it answers true.
-/
import Derived.Test.YtpeppbfkbijdiaaLs
import Derived.Test.YtpeppbfkbijdiaaW2
namespace Go.Proofs.Ytpeppbfkbijdiaa
open Go.RowKit

set_option maxHeartbeats 400000 in
theorem r_any (x y n m : Int) (w : World) :
    Calls Try.prog 10 #[.int .i64 x, .int .i64 y, .int .i64 n, .int .i64 m] w fun e w' => e = .returned (.agg #[.int .i64 x, .int .i64 y, .int .i64 n, .int .i64 m]) ∧ Below w.heap.size w w' := by
  go_enter Try.func10, Try.ntmps10
  go_wp2
  exact bodyPost_ret (v := .agg #[.int .i64 x, .int .i64 y, .int .i64 n, .int .i64 m]) (by simp [results, Try.results10, go_sem]) rfl ⟨rfl, (Below.refl _ _).alloc (Nat.le_refl _) _⟩

theorem i64_c (n : Int) (h : (decide (-1000 ≤ n) && decide (n ≤ 1000)) = true) : I64 n := by
  simp at h
  exact ⟨by omega, by omega⟩
theorem les_c : lesL 0 0 4 4 1 1 2 2 = [⟨0, 0, 4, 1⟩, ⟨0, 1, 1, 2⟩, ⟨3, 1, 1, 2⟩, ⟨0, 3, 4, 1⟩] := by rfl
theorem les_e : lesE 0 0 4 4 1 1 2 2 = 0 := by rfl
theorem met_c : meetR 0 0 4 4 2 1 9 2 = ⟨2, 1, 2, 2⟩ := by rfl
theorem are_c : areaI 0 0 3 4 = 12 := by rfl

set_option maxHeartbeats 1000000 in
theorem alive_any (w : World) :
    Calls Try.prog 20 #[] w fun e w' => e = .returned (.bool true) ∧ Below w.heap.size w w' := by
  have hM : Hid (∀ w, Calls Try.prog 33 #[.agg #[.int .i64 0, .int .i64 0, .int .i64 4, .int .i64 4], .agg #[.int .i64 2, .int .i64 1, .int .i64 9, .int .i64 2]] w fun e w' => e = .returned (.agg #[.int .i64 2, .int .i64 1, .int .i64 2, .int .i64 2]) ∧ Below w.heap.size w w') := fun w => by
    have := meet_any 0 0 4 4 2 1 9 2 w (i64_c _ rfl) (i64_c _ rfl) (i64_c _ rfl) (i64_c _ rfl)
    rwa [met_c] at this
  have hA : Hid (∀ w, Calls Try.prog 24 #[.agg #[.int .i64 0, .int .i64 0, .int .i64 3, .int .i64 4]] w fun e w' => e = .returned (.int .i64 12) ∧ Below w.heap.size w w') := fun w => by
    have := area_any 0 0 3 4 w (i64_c _ rfl) (i64_c _ rfl)
    rwa [are_c] at this
  go_enter Try.func20, Try.ntmps20
  go_wp2_with fail
  refine (r_any _ _ _ _ _).mono ?_
  rintro e w1 ⟨rfl, L⟩
  go_wp2_with fail
  refine (r_any _ _ _ _ _).mono ?_
  rintro e w2 ⟨rfl, hb⟩
  replace L := L.trans (hb.mono L.size)
  clear hb
  go_wp2_with fail
  refine (less_any 0 0 4 4 1 1 2 2 _ (i64_c _ rfl) (i64_c _ rfl) (i64_c _ rfl) (i64_c _ rfl)).mono ?_
  rintro e w3 ⟨v, rfl, hown, hb⟩
  rw [les_e]
  rw [les_c] at hown
  replace L := L.trans (hb.mono L.size)
  clear hb
  obtain ⟨g, cap, rfl, hcap⟩ : ∃ g cap, v = .slice (some ⟨g, 0, none⟩) 4 cap ∧ 4 ≤ cap := by
    rcases hown.2 with ⟨_, h⟩ | ⟨g, cap, cur, rfl, _, _, h, _⟩
    · simp at h
    · exact ⟨g, cap, rfl, h⟩
  have hg := (hown.lt g rfl).2
  have hc : ∀ (j : Nat) (t : Gw w3), j < 16 → t.wd.cell? ⟨g, j, none⟩ = (flat [⟨0, 0, 4, 1⟩, ⟨0, 1, 1, 2⟩, ⟨3, 1, 1, 2⟩, ⟨0, 3, 4, 1⟩])[j]? := fun j t hj => by
    rw [t.below.cell (p := ⟨g, j, none⟩) hg]
    exact hown.cellAt j hj
  have c0 : ∀ t : Gw w3, t.wd.cell? ⟨g, 0, none⟩ = some (.int .i64 0) := fun t => hc 0 t (by omega)
  have c1 : ∀ t : Gw w3, t.wd.cell? ⟨g, 1, none⟩ = some (.int .i64 0) := fun t => hc 1 t (by omega)
  have c2 : ∀ t : Gw w3, t.wd.cell? ⟨g, 2, none⟩ = some (.int .i64 4) := fun t => hc 2 t (by omega)
  have c3 : ∀ t : Gw w3, t.wd.cell? ⟨g, 3, none⟩ = some (.int .i64 1) := fun t => hc 3 t (by omega)
  have c12 : ∀ t : Gw w3, t.wd.cell? ⟨g, 12, none⟩ = some (.int .i64 0) := fun t => hc 12 t (by omega)
  have c13 : ∀ t : Gw w3, t.wd.cell? ⟨g, 13, none⟩ = some (.int .i64 3) := fun t => hc 13 t (by omega)
  have c14 : ∀ t : Gw w3, t.wd.cell? ⟨g, 14, none⟩ = some (.int .i64 4) := fun t => hc 14 t (by omega)
  have c15 : ∀ t : Gw w3, t.wd.cell? ⟨g, 15, none⟩ = some (.int .i64 1) := fun t => hc 15 t (by omega)
  have HL : Hid (Below w.heap.size w w3) := L
  have ne := gw_ne L
  clear hc hg hown L hcap
  go_wp2_with fail
  refine wp_region_gw (by kernel_rfl) (by kernel_rfl) ?_
  repeat (go_big_quiet_step (first
    | (go_at_call 10; exact gw_call (r_any _ _ _ _ _))
    | (go_at_call 33; exact gw_call (hM.out _))
    | (go_at_call 24; exact gw_call (hA.out _))))
  refine wpQuiet_nil ?_
  rintro _ ⟨t, rfl⟩
  go_wp2
  go_ret
  exact ⟨rfl, HL.out.trans (t.below.mono HL.out.size)⟩

end Go.Proofs.Ytpeppbfkbijdiaa
