/-
  Contracts of package colour: mixed, on black, how light, whether it can be read.
-/
import Derived.Test.YtbppadheejdhcabDoorCW1
namespace Go.Proofs.YtbppadheejdhcabDoor
open Go.RowKit
attribute [local go_sem] ite_max ite_min

set_option maxHeartbeats 1000000 in
theorem onBlack_any (c : Co) (w : World) (hc : c.ok) :
    Calls Tryd.prog 15 #[(Value.agg #[.int .u8 c.r, .int .u8 c.g, .int .u8 c.b, .int .u8 c.a])] w fun e w' => e = .returned (Value.agg #[.int .u8 (onB c).r, .int .u8 (onB c).g, .int .u8 (onB c).b, .int .u8 (onB c).a]) ∧ Below w.heap.size w w' := by
  go_enter Tryd.func15, Tryd.ntmps15
  go_wp2_with fail
  refine (over_any c blackC _ hc black_ok).mono ?_
  rintro e w1 ⟨rfl, hb⟩
  have C := (AtC.new' (w.alloc _) (w.heap.size + 1) 0 0 0 0 23 (by simp)).below hb
  have F := ((fr1 w _ _ _).below hb).2
  have L := (((Below.refl w.heap.size w).alloc (Nat.le_refl _) _).alloc (by simp) _).trans (hb.mono (by simp; omega))
  clear hb
  obtain ⟨c0, c1, c2, c3⟩ := C
  go_wp2
  exact bodyPost_ret (v := .agg #[.int .u8 _, .int .u8 _, .int .u8 _, .int .u8 _]) (by simp [results, Tryd.results15, go_sem, c0, c1, c2, c3, onB]) rfl ⟨rfl, set4_below L (by omega) _ _ _ _⟩

set_option maxHeartbeats 1000000 in
theorem light_any (c : Co) (w : World) (hc : c.ok) :
    Calls Tryd.prog 14 #[(Value.agg #[.int .u8 c.r, .int .u8 c.g, .int .u8 c.b, .int .u8 c.a])] w fun e w' => e = .returned (.int .i64 (lightI c)) ∧ Below w.heap.size w w' := by
  obtain ⟨⟨h1, h2⟩, ⟨h3, h4⟩, ⟨h5, h6⟩, ⟨h7, h8⟩⟩ := onB_ok hc
  go_enter Tryd.func14, Tryd.ntmps14
  go_wp2_with fail
  refine (onBlack_any c _ hc).mono ?_
  rintro e w1 ⟨rfl, hb⟩
  have C := (AtC.new w c.r c.g c.b c.a 23).below hb
  have F := ((Fr.new w _ _).below hb).2
  have L := ((Below.refl w.heap.size w).alloc (Nat.le_refl _) _).trans (hb.mono (by simp))
  clear hb
  obtain ⟨c0, c1, c2, c3⟩ := C
  go_wp2
  go_ret
  exact ⟨rfl, set4_below L (by omega) _ _ _ _⟩

end Go.Proofs.YtbppadheejdhcabDoor
