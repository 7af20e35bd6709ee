/-
  Contracts of package geom: whether one lies in another, over another.
-/
import Derived.Test.YtpeppbfkbijdiaaJ
namespace Go.Proofs.Ytpeppbfkbijdiaa
open Go.RowKit

set_option maxHeartbeats 1000000 in
theorem in_any (ax ay aw ah bx by' bw bh : Int) (w : World) (hax : I64 ax) (hay : I64 ay) (hbx : I64 bx) (hby : I64 by') :
    Calls Try.prog 14 #[.agg #[.int .i64 ax, .int .i64 ay, .int .i64 aw, .int .i64 ah], .agg #[.int .i64 bx, .int .i64 by', .int .i64 bw, .int .i64 bh]] w fun e w' => e = .returned (.bool (inB ax ay aw ah bx by' bw bh)) ∧ Below w.heap.size w w' := by
  cases h1 : emptyB ax ay aw ah
  · have hE : Hid (∀ w, Calls Try.prog 12 #[.agg #[.int .i64 ax, .int .i64 ay, .int .i64 aw, .int .i64 ah]] w fun e w' => e = .returned (.bool false) ∧ Below w.heap.size w w') := fun w => by
      have := empty_any ax ay aw ah w hax hay
      rwa [h1] at this
    go_enter Try.func14, Try.ntmps14
    go_wp2_with fail
    obtain ⟨A, B, L⟩ := boxes_rr w ax ay aw ah bx by' bw bh 29 29
    have ne := gw_ne L
    have d0 := fun t => (gw4 A t).1
    have d1 := fun t => (gw4 A t).2.1
    have d2 := fun t => (gw4 A t).2.2.1
    have d3 := fun t => (gw4 A t).2.2.2
    have e0 := fun t => (gw4 B t).1
    have e1 := fun t => (gw4 B t).2.1
    have e2 := fun t => (gw4 B t).2.2.1
    have e3 := fun t => (gw4 B t).2.2.2
    have hq := eql_rect
    refine wp_region_gw (by kernel_rfl) (by kernel_rfl) ?_
    repeat (go_big_quiet_step (first
      | (go_at_call 12; exact gw_call (hE.out _))
      | (go_at_call 33; exact gw_call (meet_any _ _ _ _ _ _ _ _ _ hax hay hbx hby))))
    refine wpQuiet_nil ?_
    rintro _ ⟨t, rfl⟩
    go_wp2
    go_ret
    refine ⟨ret_bool ?_, L.trans (t.below.mono L.size)⟩
    unfold inB eqB
    simp [h1]
  · have hE : Hid (∀ w, Calls Try.prog 12 #[.agg #[.int .i64 ax, .int .i64 ay, .int .i64 aw, .int .i64 ah]] w fun e w' => e = .returned (.bool true) ∧ Below w.heap.size w w') := fun w => by
      have := empty_any ax ay aw ah w hax hay
      rwa [h1] at this
    go_enter Try.func14, Try.ntmps14
    go_wp2_with fail
    obtain ⟨A, B, L⟩ := boxes_rr w ax ay aw ah bx by' bw bh 29 29
    have ne := gw_ne L
    have d0 := fun t => (gw4 A t).1
    have d1 := fun t => (gw4 A t).2.1
    have d2 := fun t => (gw4 A t).2.2.1
    have d3 := fun t => (gw4 A t).2.2.2
    have e0 := fun t => (gw4 B t).1
    have e1 := fun t => (gw4 B t).2.1
    have e2 := fun t => (gw4 B t).2.2.1
    have e3 := fun t => (gw4 B t).2.2.2
    have hq := eql_rect
    refine wp_region_gw (by kernel_rfl) (by kernel_rfl) ?_
    repeat (go_big_quiet_step (first
      | (go_at_call 12; exact gw_call (hE.out _))
      | (go_at_call 33; exact gw_call (meet_any _ _ _ _ _ _ _ _ _ hax hay hbx hby))))
    refine wpQuiet_nil ?_
    rintro _ ⟨t, rfl⟩
    go_wp2
    go_ret
    refine ⟨ret_bool ?_, L.trans (t.below.mono L.size)⟩
    unfold inB eqB
    simp [h1]

set_option maxHeartbeats 1000000 in
theorem over_any (ax ay aw ah bx by' bw bh : Int) (w : World) (hax : I64 ax) (hay : I64 ay) (hbx : I64 bx) (hby : I64 by') :
    Calls Try.prog 15 #[.agg #[.int .i64 ax, .int .i64 ay, .int .i64 aw, .int .i64 ah], .agg #[.int .i64 bx, .int .i64 by', .int .i64 bw, .int .i64 bh]] w fun e w' => e = .returned (.bool (overB ax ay aw ah bx by' bw bh)) ∧ Below w.heap.size w w' := by
  go_enter Try.func15, Try.ntmps15
  go_wp2_with fail
  obtain ⟨A, B, L⟩ := boxes_rr w ax ay aw ah bx by' bw bh 29 29
  refine (meet_any _ _ _ _ _ _ _ _ _ hax hay hbx hby).mono ?_
  rintro e w1 ⟨rfl, hb⟩
  replace L := L.trans (hb.mono L.size)
  clear A B hb
  go_wp2
  all_goals
    go_ret
    refine ⟨ret_bool ?_, L⟩
    unfold overB eqB
    simp_all

end Go.Proofs.Ytpeppbfkbijdiaa
