/-
  The walk of the closed statement ColourNames: it answers true; of what was there nothing turns.
-/
import Derived.Test.YtbppadheejdhcaaDoorDM
namespace Go.Proofs.YtbppadheejdhcaaDoor
open Go.RowKit

theorem t1 : txt ⟨17, 170, 255, 255⟩ = ⟨#[35, 49, 97, 102]⟩ := by decide +kernel
theorem t2 : txt ⟨1, 2, 3, 255⟩ = ⟨#[35, 48, 49, 48, 50, 48, 51]⟩ := by decide +kernel
theorem t3 : txt ⟨255, 255, 255, 0⟩ = ⟨#[35, 102, 102, 102, 102, 102, 102, 48, 48]⟩ := by decide +kernel
theorem o1 : overC ⟨9, 9, 9, 0⟩ ⟨1, 2, 3, 4⟩ = ⟨1, 2, 3, 4⟩ := by kernel_rfl
theorem o2 : overC ⟨10, 20, 30, 255⟩ ⟨1, 2, 3, 4⟩ = ⟨10, 20, 30, 255⟩ := by kernel_rfl
theorem x1 : mixC ⟨0, 0, 0, 255⟩ ⟨255, 255, 255, 255⟩ 128 = ⟨128, 128, 128, 255⟩ := by kernel_rfl
theorem x2 : mixC ⟨10, 0, 0, 0⟩ ⟨20, 0, 0, 0⟩ 127 = ⟨15, 0, 0, 0⟩ := by kernel_rfl
theorem k1 : bk 9 false = ⟨255, 0, 0, 255⟩ := by kernel_rfl
theorem k2 : bk 25 false = ⟨255, 0, 0, 255⟩ := by kernel_rfl
theorem k3 : bk 196 true = ⟨255, 0, 0, 255⟩ := by kernel_rfl
theorem k4 : bk 244 true = ⟨128, 128, 128, 255⟩ := by kernel_rfl
theorem n1 : nearN ⟨254, 1, 1, 255⟩ 16 false = 9 := near_is (by decide) (by decide +kernel)
theorem n2 : nearN ⟨95, 0, 0, 255⟩ 256 true = 52 := near_is (by decide) (by decide +kernel)
theorem n3 : nearN ⟨0, 0, 0, 255⟩ 256 true = 0 := near_is (by decide) (by decide +kernel)
theorem n4 : nearN ⟨0, 0, 0, 0⟩ 256 true = 0 := near_is (by decide) (by decide +kernel)
theorem l1 : lightI ⟨0, 0, 0, 255⟩ = 0 := by decide +kernel
theorem l2 : lightI ⟨128, 128, 128, 255⟩ = 501960 := by decide +kernel
theorem c1 : clearB ⟨255, 255, 255, 255⟩ ⟨0, 0, 0, 255⟩ = true := by decide +kernel
theorem c2 : clearB ⟨119, 119, 119, 255⟩ ⟨128, 128, 128, 255⟩ = false := by decide +kernel

theorem back_i (i : Int) (many : Bool) (w : World) (hP : Pal w) (h0 : 0 ≤ i) (h1 : i < 256) :
    Calls Tryd.prog 10 #[.int .u8 i, .bool many] w fun e w' => e = .returned (Value.agg #[.int .u8 (bk i.toNat many).r, .int .u8 (bk i.toNat many).g, .int .u8 (bk i.toNat many).b, .int .u8 (bk i.toNat many).a]) ∧ Below w.heap.size w w' :=
  back_c i.toNat i many w hP (by omega) (by omega)

set_option maxRecDepth 20000 in
set_option maxHeartbeats 4000000 in
theorem names_walk (w : World) (hP : Pal w) :
    Calls Tryd.prog 3 #[] w fun e w' => e = .returned (.bool true) ∧ Below w.heap.size w w' := by
  have L := Below.refl w.heap.size w
  have e1 := t1
  have e2 := t2
  have e3 := t3
  have e4 := o1
  have e5 := o2
  have e6 := x1
  have e7 := x2
  have e8 := l1
  have e9 := l2
  have e10 := c1
  have e11 := c2
  go_enter Tryd.func3, Tryd.ntmps3
  go_wp2_with (first
    | (go_at_call 5; refine (wrong_any _ _ _ (by decide) (by decide +kernel) (by decide +kernel)).mono ?_; rintro e w' ⟨rfl, hb⟩; replace L := L.trans (hb.mono L.size); clear hb)
    | (go_at_call 7; refine (c_any _ _ _ _ _).mono ?_; rintro e w' ⟨rfl, hb⟩; replace L := L.trans (hb.mono L.size); clear hb)
    | (go_at_call 6; refine (text_c _ _ _ _ _ (by decide)).mono ?_; rintro e w' ⟨rfl, hb⟩; replace L := L.trans (hb.mono L.size); clear hb)
    | (go_at_call 8; refine (over_c _ _ _ _ _ _ _ _ _ (by decide) (by decide)).mono ?_; rintro e w' ⟨rfl, hb⟩; replace L := L.trans (hb.mono L.size); clear hb)
    | (go_at_call 9; refine (mix_c _ _ _ _ _ _ _ _ _ _ (by decide) (by decide) (by decide)).mono ?_; rintro e w' ⟨rfl, hb⟩; replace L := L.trans (hb.mono L.size); clear hb))
  clear e1 e2 e3 e4 e5 e6 e7
  have A := AtC.new w' 255 0 0 255 25
  replace L := L.alloc L.size (.cells #[.int .u8 255, .int .u8 0, .int .u8 0, .int .u8 255] 25)
  have ne := gw_ne L
  have HQ : Hid (∀ t : Gw (w'.alloc (.cells #[.int .u8 255, .int .u8 0, .int .u8 0, .int .u8 255] 25)), Pal t.wd) := fun t => (hP.below L).below t.below
  have a0 := fun t => (gwC A t).1
  have a1 := fun t => (gwC A t).2.1
  have a2 := fun t => (gwC A t).2.2.1
  have a3 := fun t => (gwC A t).2.2.2
  have HL : Hid (Below w.heap.size w (w'.alloc (.cells #[.int .u8 255, .int .u8 0, .int .u8 0, .int .u8 255] 25))) := L
  have f1 := k1
  have f2 := k2
  have f3 := k3
  have f4 := k4
  have f5 := n1
  have f6 := n2
  have f7 := n3
  have f8 := n4
  clear A L
  refine wp_region_gw (by kernel_rfl) (by kernel_rfl) ?_
  repeat (go_big_quiet_step (first
    | (go_at_call 7; exact gw_call (c_any _ _ _ _ _))
    | (go_at_call 10; exact gw_call (back_i _ _ _ (HQ.out _) (by decide) (by decide)))
    | (go_at_call 11; exact gw_call (sixteen_c _ _ _ _ _ (HQ.out _) (by decide)))
    | (go_at_call 12; exact gw_call (many_c _ _ _ _ _ (HQ.out _) (by decide)))))
  refine wpQuiet_nil ?_
  rintro _ ⟨t, rfl⟩
  have L := HL.out.trans (t.below.mono HL.out.size)
  clear HL a0 a1 a2 a3 f1 f2 f3 f4 f5 f6 f7 f8 HQ ne
  go_wp2_with (first
    | (go_at_call 7; refine (c_any _ _ _ _ _).mono ?_; rintro e w' ⟨rfl, hb⟩; replace L := L.trans (hb.mono L.size); clear hb)
    | (go_at_call 13; refine (light_c _ _ _ _ _ (by decide)).mono ?_; rintro e w' ⟨rfl, hb⟩; replace L := L.trans (hb.mono L.size); clear hb)
    | (go_at_call 14; refine (clear_c _ _ _ _ _ _ _ _ _ (by decide) (by decide)).mono ?_; rintro e w' ⟨rfl, hb⟩; replace L := L.trans (hb.mono L.size); clear hb)
    | (go_at_call 15; refine (alive_any _).mono ?_; rintro e w' ⟨rfl, hb⟩; replace L := L.trans (hb.mono L.size); clear hb))
  go_ret
  exact ⟨rfl, L⟩

end Go.Proofs.YtbppadheejdhcaaDoor
