/-
  The walk of the statement ColourMixes: it answers true; of what was there nothing turns.
-/
import Derived.Test.YtbppadheejdhcaaCW2
import Derived.Test.YtbppadheejdhcaaCW3
namespace Go.Proofs.Ytbppadheejdhcaa
open Go.RowKit

set_option maxHeartbeats 2000000 in
theorem mixes_walk (a b : Co) (p : Int) (w : World) (ha : a.ok) (hb : b.ok) (hp : By p) :
    Calls Try.prog 4 #[(Value.agg #[.int .u8 a.r, .int .u8 a.g, .int .u8 a.b, .int .u8 a.a]), (Value.agg #[.int .u8 b.r, .int .u8 b.g, .int .u8 b.b, .int .u8 b.a]), .int .u8 p] w fun e w' => e = .returned (.bool true) ∧ Below w.heap.size w w' := by
  go_enter Try.func4, Try.ntmps4
  go_wp2_with fail
  obtain ⟨A, B, L⟩ := boxes_cc w a b 23 23
  have ne := gw_ne L
  have a0 := fun t => (gwC A t).1
  have a1 := fun t => (gwC A t).2.1
  have a2 := fun t => (gwC A t).2.2.1
  have a3 := fun t => (gwC A t).2.2.2
  have b0 := fun t => (gwC B t).1
  have b1 := fun t => (gwC B t).2.1
  have b2 := fun t => (gwC B t).2.2.1
  have b3 := fun t => (gwC B t).2.2.2
  clear A B
  refine wp_region_gw (by kernel_rfl) (by kernel_rfl) ?_
  repeat (go_big_quiet_step (first
    | (go_at_call 11; exact gw_call (over_any _ _ _ ha hb))
    | (go_at_call 12; exact gw_call (rover_any _ _ _ ha hb))
    | (go_at_call 13; exact gw_call (mix_any _ _ _ _ ha hb hp))
    | (go_at_call 14; exact gw_call (rmix_any _ _ _ _ ha hb hp))
    | (go_at_call 15; exact gw_call (light_any _ _ ha))
    | (go_at_call 16; exact gw_call (rlight_any _ _ ha))
    | (go_at_call 17; exact gw_call (clear_any _ _ _ ha hb))
    | (go_at_call 18; exact gw_call (rclear_any _ _ _ ha hb))))
  refine wpQuiet_nil ?_
  rintro _ ⟨t, rfl⟩
  go_wp2
  go_ret
  exact ⟨rfl, L.trans (t.below.mono L.size)⟩

end Go.Proofs.Ytbppadheejdhcaa
