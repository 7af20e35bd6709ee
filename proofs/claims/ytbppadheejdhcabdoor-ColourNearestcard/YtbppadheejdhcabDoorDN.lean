/-
  The walk of the statement ColourNearest: it answers true; of what was there nothing turns.
-/
import Derived.Test.YtbppadheejdhcabDoorCAl
import Derived.Test.YtbppadheejdhcabDoorDW2
namespace Go.Proofs.YtbppadheejdhcabDoor
open Go.RowKit

theorem two_u (c u : Int) : c * u * u = c * (u * u) := Int.mul_assoc c u u

set_option maxHeartbeats 1000000 in
theorem lfar_any (a b : Co) (w : World) (ha : a.ok) (hb : b.ok) :
    Calls Tryd.prog 9 #[(Value.agg #[.int .u8 a.r, .int .u8 a.g, .int .u8 a.b, .int .u8 a.a]), (Value.agg #[.int .u8 b.r, .int .u8 b.g, .int .u8 b.b, .int .u8 b.a])] w fun e w' => e = .returned (.int .i64 (farI a b)) ∧ Below w.heap.size w w' := by
  have h1 := sq_bd ha.1 hb.1
  have h2 := sq_bd ha.2.1 hb.2.1
  have h3 := sq_bd ha.2.2.1 hb.2.2.1
  have hE : Hid (farI a b = 2 * (a.r - b.r) * (a.r - b.r) + 4 * (a.g - b.g) * (a.g - b.g) + 3 * (a.b - b.b) * (a.b - b.b)) := by
    show farI a b = _
    unfold farI sq
    rw [two_u, two_u, two_u]
  obtain ⟨⟨r1, r2⟩, ⟨g1, g2⟩, ⟨b1, b2⟩, _⟩ := ha
  obtain ⟨⟨r3, r4⟩, ⟨g3, g4⟩, ⟨b3, b4⟩, _⟩ := hb
  unfold sq at h1 h2 h3
  go_enter Tryd.func9, Tryd.ntmps9
  go_wp2_with fail
  have BB := AtC.new (w.alloc (.cells #[.int .u8 a.r, .int .u8 a.g, .int .u8 a.b, .int .u8 a.a] 23)) b.r b.g b.b b.a 23
  have AA := (AtC.new w a.r a.g a.b a.a 23).alloc (.cells #[.int .u8 b.r, .int .u8 b.g, .int .u8 b.b, .int .u8 b.a] 23)
  have L : Below w.heap.size w ((w.alloc (.cells #[.int .u8 a.r, .int .u8 a.g, .int .u8 a.b, .int .u8 a.a] 23)).alloc (.cells #[.int .u8 b.r, .int .u8 b.g, .int .u8 b.b, .int .u8 b.a] 23)) := ((Below.refl _ w).alloc (Nat.le_refl _) _).alloc (by simp) _
  simp only [World.size_alloc] at BB
  have ne := gw_ne L
  have a0 := fun t => (gwC AA t).1
  have a1 := fun t => (gwC AA t).2.1
  have a2 := fun t => (gwC AA t).2.2.1
  have b0 := fun t => (gwC BB t).1
  have c1 := fun t => (gwC BB t).2.1
  have c2 := fun t => (gwC BB t).2.2.1
  clear AA BB
  refine wp_region_gw (by kernel_rfl) (by kernel_rfl) ?_
  repeat (go_big_quiet_step (fail))
  refine wpQuiet_nil ?_
  rintro _ ⟨t, rfl⟩
  clear a0 a1 a2 b0 c1 c2
  have u1 : a.r - b.r ≤ 255 := by omega
  have u2 : -255 ≤ a.r - b.r := by omega
  have u3 : a.g - b.g ≤ 255 := by omega
  have u4 : -255 ≤ a.g - b.g := by omega
  have u5 : a.b - b.b ≤ 255 := by omega
  have u6 : -255 ≤ a.b - b.b := by omega
  generalize a.r - b.r = x at *
  generalize a.g - b.g = y at *
  generalize a.b - b.b = z at *
  have e1 := two_u 2 x
  have e2 := two_u 4 y
  have e3 := two_u 3 z
  have v1 : 0 ≤ 2 * x * x ∧ 2 * x * x ≤ 130050 := by rw [e1]; omega
  have v2 : 0 ≤ 4 * y * y ∧ 4 * y * y ≤ 260100 := by rw [e2]; omega
  have v3 : 0 ≤ 3 * z * z ∧ 3 * z * z ≤ 195075 := by rw [e3]; omega
  clear e1 e2 e3 h1 h2 h3 r1 r2 r3 r4 g1 g2 g3 g4 b1 b2 b3 b4
  go_wp2
  go_ret
  refine ⟨?_, L.trans (t.below.mono L.size)⟩
  rw [hE.out]
  rfl

end Go.Proofs.YtbppadheejdhcabDoor
