/-
  What the statements ask first, and their small helpers.
-/
import Derived.Test.YtbppadheejdhcaaCW2
import Derived.Test.YtbppadheejdhcaaCT3
namespace Go.Proofs.Ytbppadheejdhcaa
open Go.RowKit
attribute [local go_sem] ite_max ite_min

set_option maxHeartbeats 400000 in
theorem c_any (r g b a : Int) (w : World) :
    Calls Try.prog 34 #[.int .u8 r, .int .u8 g, .int .u8 b, .int .u8 a] w fun e w' => e = .returned (.agg #[.int .u8 r, .int .u8 g, .int .u8 b, .int .u8 a]) ∧ Below w.heap.size w w' := by
  go_enter Try.func34, Try.ntmps34
  go_wp2
  exact bodyPost_ret (v := .agg #[.int .u8 r, .int .u8 g, .int .u8 b, .int .u8 a]) (by simp [results, Try.results34, go_sem]) rfl ⟨rfl, (Below.refl _ _).alloc (Nat.le_refl _) _⟩

def half : Co := ⟨255, 0, 0, 128⟩
def blue : Co := ⟨0, 0, 255, 255⟩
def white : Co := ⟨255, 255, 255, 255⟩
theorem half_ok : half.ok := by simp [Co.ok, By, half]
theorem blue_ok : blue.ok := by simp [Co.ok, By, blue]
theorem white_ok : white.ok := by simp [Co.ok, By, white]

set_option maxHeartbeats 1000000 in
theorem alive_any (w : World) :
    Calls Try.prog 19 #[] w fun e w' => e = .returned (.bool true) ∧ Below w.heap.size w w' := by
  have HP : Hid (∀ w, Calls Try.prog 7 #[.string ⟨#[35, 49, 97, 70]⟩] w fun e w' => e = .returned (.tuple #[.agg #[.int .u8 17, .int .u8 170, .int .u8 255, .int .u8 255], .int .i64 0, .int .i64 0]) ∧ Below w.heap.size w w') := fun w => by
    have h := parse_any ⟨#[35, 49, 97, 70]⟩ w (by decide)
    rw [show parC ⟨#[35, 49, 97, 70]⟩ = ⟨17, 170, 255, 255⟩ by kernel_rfl, show parN ⟨#[35, 49, 97, 70]⟩ = 0 by decide +kernel, show parE ⟨#[35, 49, 97, 70]⟩ = 0 by decide +kernel] at h
    exact h
  have HO : Hid (∀ w, Calls Try.prog 11 #[.agg #[.int .u8 255, .int .u8 0, .int .u8 0, .int .u8 128], .agg #[.int .u8 0, .int .u8 0, .int .u8 255, .int .u8 255]] w fun e w' => e = .returned (.agg #[.int .u8 128, .int .u8 0, .int .u8 127, .int .u8 255]) ∧ Below w.heap.size w w') := fun w => by
    have h := over_any half blue w half_ok blue_ok
    rw [show overC half blue = ⟨128, 0, 127, 255⟩ by kernel_rfl] at h
    exact h
  have HT : Hid (∀ w, Calls Try.prog 15 #[.agg #[.int .u8 255, .int .u8 255, .int .u8 255, .int .u8 255]] w fun e w' => e = .returned (.int .i64 1000000) ∧ Below w.heap.size w w') := fun w => by
    have h := light_any white w white_ok
    rw [show lightI white = 1000000 by decide +kernel] at h
    exact h
  go_enter Try.func19, Try.ntmps19
  go_wp2_with fail
  refine (HP.out _).mono ?_
  rintro e w1 ⟨rfl, hb⟩
  go_wp2_with fail
  have A := AtC.new w1 17 170 255 255 23
  have L := hb.alloc hb.size (.cells #[.int .u8 17, .int .u8 170, .int .u8 255, .int .u8 255] 23)
  have ne := gw_ne L
  have a0 := fun t => (gwC A t).1
  have a1 := fun t => (gwC A t).2.1
  have a2 := fun t => (gwC A t).2.2.1
  have a3 := fun t => (gwC A t).2.2.2
  have HL : Hid (Below w.heap.size w (w1.alloc (.cells #[.int .u8 17, .int .u8 170, .int .u8 255, .int .u8 255] 23))) := L
  clear A L hb
  refine wp_region_gw (by kernel_rfl) (by kernel_rfl) ?_
  repeat (go_big_quiet_step (first
    | (go_at_call 34; exact gw_call (c_any _ _ _ _ _))
    | (go_at_call 11; exact gw_call (HO.out _))
    | (go_at_call 15; exact gw_call (HT.out _))))
  refine wpQuiet_nil ?_
  rintro _ ⟨t, rfl⟩
  go_wp2
  go_ret
  exact ⟨rfl, HL.out.trans (t.below.mono HL.out.size)⟩

set_option maxHeartbeats 400000 in
theorem lbetween_any (x a b : Int) (w : World) (h : min a b ≤ x ∧ x ≤ max a b) :
    Calls Try.prog 20 #[.int .u8 x, .int .u8 a, .int .u8 b] w fun e w' => e = .returned (.bool true) ∧ w' = w := by
  obtain ⟨h1, h2⟩ := h
  go_enter Try.func20, Try.ntmps20
  go_wp2
  go_ret
  exact ⟨rfl, rfl⟩

end Go.Proofs.Ytbppadheejdhcaa
