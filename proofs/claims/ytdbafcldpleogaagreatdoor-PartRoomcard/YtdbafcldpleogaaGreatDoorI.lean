/-
  Contracts of package geom: whether one lies in another, over another.
-/
import Derived.Test.YtdbafcldpleogaaGreatDoorJ
namespace Go.Proofs.YtdbafcldpleogaaGreatDoor
open Go.RowKit

set_option maxRecDepth 10000 in
set_option maxHeartbeats 1000000 in
theorem in_any (ax ay aw ah bx by' bw bh : Int) (w : World) (hax : I64 ax) (hay : I64 ay) (hbx : I64 bx) (hby : I64 by') :
    Calls Tryz.prog 34 #[.agg #[.int .i64 ax, .int .i64 ay, .int .i64 aw, .int .i64 ah], .agg #[.int .i64 bx, .int .i64 by', .int .i64 bw, .int .i64 bh]] w fun e w' => e = .returned (.bool (inB ax ay aw ah bx by' bw bh)) ∧ Below w.heap.size w w' := by
  cases h1 : emptyB ax ay aw ah
  · have hE : Hid (∀ w, Calls Tryz.prog 70 #[.agg #[.int .i64 ax, .int .i64 ay, .int .i64 aw, .int .i64 ah]] w fun e w' => e = .returned (.bool false) ∧ Below w.heap.size w w') := fun w => by
      have := empty_any ax ay aw ah w hax hay
      rwa [h1] at this
    go_enter Tryz.func34, Tryz.ntmps34
    go_wp2_with fail
    obtain ⟨A, B, L⟩ := boxes_rr w ax ay aw ah bx by' bw bh 63 63
    have ne := gw_ne L
    have d0 := fun t => (gw4 A t).1
    have d1 := fun t => (gw4 A t).2.1
    have d2 := fun t => (gw4 A t).2.2.1
    have d3 := fun t => (gw4 A t).2.2.2
    have e0 := fun t => (gw4 B t).1
    have e1 := fun t => (gw4 B t).2.1
    have e2 := fun t => (gw4 B t).2.2.1
    have e3 := fun t => (gw4 B t).2.2.2
    have hq := eql_rect
    refine wp_region_gw (by kernel_rfl) (by kernel_rfl) ?_
    repeat (go_big_quiet_step (first
      | (go_at_call 70; exact gw_call (hE.out _))
      | (go_at_call 71; exact gw_call (meet_any _ _ _ _ _ _ _ _ _ hax hay hbx hby))))
    refine wpQuiet_nil ?_
    rintro _ ⟨t, rfl⟩
    go_wp2
    go_ret
    refine ⟨ret_bool ?_, L.trans (t.below.mono L.size)⟩
    unfold inB eqB
    simp [h1]
  · have hE : Hid (∀ w, Calls Tryz.prog 70 #[.agg #[.int .i64 ax, .int .i64 ay, .int .i64 aw, .int .i64 ah]] w fun e w' => e = .returned (.bool true) ∧ Below w.heap.size w w') := fun w => by
      have := empty_any ax ay aw ah w hax hay
      rwa [h1] at this
    go_enter Tryz.func34, Tryz.ntmps34
    go_wp2_with fail
    obtain ⟨A, B, L⟩ := boxes_rr w ax ay aw ah bx by' bw bh 63 63
    have ne := gw_ne L
    have d0 := fun t => (gw4 A t).1
    have d1 := fun t => (gw4 A t).2.1
    have d2 := fun t => (gw4 A t).2.2.1
    have d3 := fun t => (gw4 A t).2.2.2
    have e0 := fun t => (gw4 B t).1
    have e1 := fun t => (gw4 B t).2.1
    have e2 := fun t => (gw4 B t).2.2.1
    have e3 := fun t => (gw4 B t).2.2.2
    have hq := eql_rect
    refine wp_region_gw (by kernel_rfl) (by kernel_rfl) ?_
    repeat (go_big_quiet_step (first
      | (go_at_call 70; exact gw_call (hE.out _))
      | (go_at_call 71; exact gw_call (meet_any _ _ _ _ _ _ _ _ _ hax hay hbx hby))))
    refine wpQuiet_nil ?_
    rintro _ ⟨t, rfl⟩
    go_wp2
    go_ret
    refine ⟨ret_bool ?_, L.trans (t.below.mono L.size)⟩
    unfold inB eqB
    simp [h1]

end Go.Proofs.YtdbafcldpleogaaGreatDoor
