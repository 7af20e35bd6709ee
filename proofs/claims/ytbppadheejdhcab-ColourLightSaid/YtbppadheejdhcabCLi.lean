/-
  The walk of the statement ColourLight: it answers true; of what was there nothing turns.
-/
import Derived.Test.YtbppadheejdhcabCAl
namespace Go.Proofs.Ytbppadheejdhcab
open Go.RowKit
attribute [local go_sem] ite_max ite_min

theorem by255 : By 255 := ⟨by decide, by decide⟩
theorem light_full {c : Co} (h : c.a = 255) : lightI c = (2126 * c.r + 7152 * c.g + 722 * c.b) * 20 / 51 := by
  unfold lightI
  rw [onB_opaque h]
theorem clear_full {a b : Co} (ha : a.a = 255) (hb : b.a = 255) : clearB a b = clearL (lightI b) (lightI a) := by
  unfold clearB
  rw [onB_opaque hb, over_opaque b ha]
theorem clear_swap {a b : Co} (ha : a.a = 255) (hb : b.a = 255) : clearB b a = clearB a b := by
  rw [clear_full ha hb, clear_full hb ha]
  unfold clearL
  rw [Int.min_comm, Int.max_comm]
theorem clear_self {a : Co} (ha : a.ok) (h : a.a = 255) : clearB a a = false := by
  rw [clear_full h h]
  have := light_bd ha
  unfold clearL
  simp
  omega

set_option maxHeartbeats 2000000 in
theorem light_walk (a0 b0 : Co) (p : Int) (w : World) (ha0 : a0.ok) (hb0 : b0.ok) (hp : By p) :
    Calls Try.prog 3 #[(Value.agg #[.int .u8 a0.r, .int .u8 a0.g, .int .u8 a0.b, .int .u8 a0.a]), (Value.agg #[.int .u8 b0.r, .int .u8 b0.g, .int .u8 b0.b, .int .u8 b0.a]), .int .u8 p] w fun e w' => e = .returned (.bool true) ∧ Below w.heap.size w w' := by
  obtain ⟨a, hea⟩ : ∃ a : Co, a = ⟨a0.r, a0.g, a0.b, 255⟩ := ⟨_, rfl⟩
  obtain ⟨b, heb⟩ : ∃ b : Co, b = ⟨b0.r, b0.g, b0.b, 255⟩ := ⟨_, rfl⟩
  obtain ⟨u, heu⟩ : ∃ u : Co, u = ⟨a0.r, max a0.g p, a0.b, 255⟩ := ⟨_, rfl⟩
  have ha : a.ok := by rw [hea]; exact ⟨ha0.1, ha0.2.1, ha0.2.2.1, by255⟩
  have hb : b.ok := by rw [heb]; exact ⟨hb0.1, hb0.2.1, hb0.2.2.1, by255⟩
  have hu : u.ok := by
    rw [heu]
    obtain ⟨x1, x2, x3, _⟩ := ha0
    refine ⟨x1, ?_, x3, by255⟩
    unfold By at *
    dsimp only
    omega
  have haa : a.a = 255 := by rw [hea]
  have hba : b.a = 255 := by rw [heb]
  have hbd := light_bd ha
  have hup : lightI a ≤ lightI u := by
    rw [light_full haa, light_full (by rw [heu]), hea, heu]
    dsimp only
    omega
  have E1 : Hid (∀ w, Calls Try.prog 4 #[.agg #[.int .u8 a0.r, .int .u8 a0.g, .int .u8 a0.b, .int .u8 255]] w fun e w' => e = .returned (.int .i64 (lightI a)) ∧ Below w.heap.size w w') := fun w => by
    have h := light_any a w ha
    rw [hea] at h ⊢
    exact h
  have E2 : Hid (∀ w, Calls Try.prog 4 #[.agg #[.int .u8 a0.r, .int .u8 (max a0.g p), .int .u8 a0.b, .int .u8 255]] w fun e w' => e = .returned (.int .i64 (lightI u)) ∧ Below w.heap.size w w') := fun w => by
    have h := light_any u w hu
    rw [heu] at h ⊢
    exact h
  have E3 : Hid (∀ x1 x2 x3 r g b' w, By x1 → By x2 → By x3 → By r → By g → By b' → Calls Try.prog 6 #[.agg #[.int .u8 x1, .int .u8 x2, .int .u8 x3, .int .u8 255], .agg #[.int .u8 r, .int .u8 g, .int .u8 b', .int .u8 255]] w fun e w' => e = .returned (.bool (clearB ⟨x1, x2, x3, 255⟩ ⟨r, g, b', 255⟩)) ∧ Below w.heap.size w w') :=
    fun x1 x2 x3 r g b' w k1 k2 k3 h1 h2 h3 => clear_any ⟨x1, x2, x3, 255⟩ ⟨r, g, b', 255⟩ w ⟨k1, k2, k3, by255⟩ ⟨h1, h2, h3, by255⟩
  obtain ⟨cl, hcl⟩ : ∃ cl, cl = clearB ⟨a0.r, a0.g, a0.b, 255⟩ ⟨b0.r, b0.g, b0.b, 255⟩ := ⟨_, rfl⟩
  have q1 : clearB ⟨a0.r, a0.g, a0.b, 255⟩ ⟨b0.r, b0.g, b0.b, 255⟩ = cl := hcl.symm
  have q3 : clearB ⟨b0.r, b0.g, b0.b, 255⟩ ⟨a0.r, a0.g, a0.b, 255⟩ = cl := by rw [hcl]; exact clear_swap rfl rfl
  have q2 : clearB ⟨a0.r, a0.g, a0.b, 255⟩ ⟨a0.r, a0.g, a0.b, 255⟩ = false := by rw [← hea]; exact clear_self ha haa
  have HK : Hid (By a0.r ∧ By a0.g ∧ By a0.b ∧ By b0.r ∧ By b0.g ∧ By b0.b) := ⟨ha0.1, ha0.2.1, ha0.2.2.1, hb0.1, hb0.2.1, hb0.2.2.1⟩
  generalize lightI a = l at *
  generalize lightI u = l2 at *
  clear hcl hea heb heu ha hb hu haa hba ha0 hb0
  obtain ⟨h1, h2⟩ := hbd
  obtain ⟨p1, p2⟩ := hp
  go_enter Try.func3, Try.ntmps3
  go_wp2_with fail
  refine (E1.out _).mono ?_
  rintro e w1 ⟨rfl, hb⟩
  have A := ((AtC.new w a0.r a0.g a0.b 255 23).alloc _).below hb
  have B := (AtC.new' (w.alloc _) (w.heap.size + 1) b0.r b0.g b0.b 255 23 (by simp)).below hb
  have L := (((Below.refl w.heap.size w).alloc (Nat.le_refl _) _).alloc (by simp) _).trans (hb.mono (by simp; omega))
  clear hb
  obtain ⟨d0, d1, d2, d3⟩ := id A
  have la := A.lt
  go_wp2_with fail
  refine (E2.out _).mono ?_
  rintro e w2 ⟨rfl, hb⟩
  clear d0 d1 d2 d3 la
  replace A := (A.alloc _).below hb
  replace B := (B.alloc _).below hb
  replace L := (L.alloc L.size _).trans (hb.mono (by have := L.size; simp; omega))
  clear hb
  go_wp2_with fail
  have ne := gw_ne L
  have a0' := fun t => (gwC A t).1
  have a1 := fun t => (gwC A t).2.1
  have a2 := fun t => (gwC A t).2.2.1
  have a3 := fun t => (gwC A t).2.2.2
  have b0' := fun t => (gwC B t).1
  have b1 := fun t => (gwC B t).2.1
  have b2 := fun t => (gwC B t).2.2.1
  have b3 := fun t => (gwC B t).2.2.2
  have HL : Hid (Below w.heap.size w w2) := L
  clear A B L
  refine wp_region_gw (by kernel_rfl) (by kernel_rfl) ?_
  repeat (go_big_quiet_step (first
    | (go_at_call 5; exact gw_call (alive_any _))
    | (go_at_call 6; exact gw_call (E3.out _ _ _ _ _ _ _ (by first | exact HK.out.1 | exact HK.out.2.2.2.1) (by first | exact HK.out.2.1 | exact HK.out.2.2.2.2.1) (by first | exact HK.out.2.2.1 | exact HK.out.2.2.2.2.2) (by first | exact HK.out.1 | exact HK.out.2.2.2.1) (by first | exact HK.out.2.1 | exact HK.out.2.2.2.2.1) (by first | exact HK.out.2.2.1 | exact HK.out.2.2.2.2.2)))))
  refine wpQuiet_nil ?_
  rintro _ ⟨t, rfl⟩
  go_wp2
  go_ret
  exact ⟨rfl, HL.out.trans (t.below.mono HL.out.size)⟩

end Go.Proofs.Ytbppadheejdhcab
