/-
  Contract of package colour: Text, in six and in eight sixteens.
-/
import Derived.Test.YtbppadheejdhcaaDoorCX2
namespace Go.Proofs.YtbppadheejdhcaaDoor
open Go.RowKit

set_option maxHeartbeats 2000000 in
theorem text_six (r g b : Nat) (w : World) (hr : r < 256) (hg : g < 256) (hb : b < 256) (ht : tw r = false ∨ (tw r = true ∧ tw g = false) ∨ (tw r = true ∧ tw g = true ∧ tw b = false)) :
    Calls Tryd.prog 6 #[.agg #[.int .u8 r, .int .u8 g, .int .u8 b, .int .u8 255]] w fun e w' => e = .returned (.string ⟨([35, bt (r / 16), bt (r % 16), bt (g / 16), bt (g % 16), bt (b / 16), bt (b % 16)] : List UInt8).toArray⟩) ∧ Below w.heap.size w w' := by
  have hT : Hid (∀ x w, x < 256 → Calls Tryd.prog 20 #[.int .u8 ((x : Nat) : Int)] w fun e w' => e = .returned (.bool (tw x)) ∧ w' = w) := fun x w hx => isTwice_any x w hx
  have hL : Hid (∀ x w, x < 256 → Calls Tryd.prog 21 #[.int .u8 ((x : Nat) : Int)] w fun e w' => e = .returned (.int .u8 ((sx (x % 16) : Nat) : Int)) ∧ w' = w) := fun x w hx => low_any x w hx
  have hH : Hid (∀ x w, x < 256 → Calls Tryd.prog 22 #[.int .u8 ((x : Nat) : Int)] w fun e w' => e = .returned (.int .u8 ((sx (x / 16) : Nat) : Int)) ∧ w' = w) := fun x w hx => high_any x w hx
  have HB : Hid (((bt (r / 16)).toNat : Int) = ((sx (r / 16) : Nat) : Int) ∧ ((bt (r % 16)).toNat : Int) = ((sx (r % 16) : Nat) : Int) ∧ ((bt (g / 16)).toNat : Int) = ((sx (g / 16) : Nat) : Int) ∧ ((bt (g % 16)).toNat : Int) = ((sx (g % 16) : Nat) : Int) ∧ ((bt (b / 16)).toNat : Int) = ((sx (b / 16) : Nat) : Int) ∧ ((bt (b % 16)).toNat : Int) = ((sx (b % 16) : Nat) : Int)) := ⟨bt_nat (by omega), bt_nat (Nat.mod_lt _ (by decide)), bt_nat (by omega), bt_nat (Nat.mod_lt _ (by decide)), bt_nat (by omega), bt_nat (Nat.mod_lt _ (by decide))⟩
  obtain ⟨i0, hi, hz0, hz1, hz2⟩ := info_parts8 info_u8
  rcases ht with t1 | ⟨t1, t2⟩ | ⟨t1, t2, t3⟩
  all_goals
    go_enter Tryd.func6, Tryd.ntmps6
    go_wp2_with (go_at_call 20; refine (hT.out _ _ (by assumption)).mono ?_; rintro e w' ⟨rfl, rfl⟩)
    have A := AtC.new w r g b 255 25
    have L : Below w.heap.size w (w.alloc (.cells #[.int .u8 r, .int .u8 g, .int .u8 b, .int .u8 255] 25)) := (Below.refl _ w).alloc (Nat.le_refl _) _
    have sz : (w.alloc (.cells #[.int .u8 r, .int .u8 g, .int .u8 b, .int .u8 255] 25)).heap.size = w.heap.size + 1 := by simp
    generalize hX0 : w.alloc (.cells #[.int .u8 r, .int .u8 g, .int .u8 b, .int .u8 255] 25) = X0 at *
    have R0 := World.ownsRow_lit (base := X0.heap.size) (e := 5) (size := 1) X0 #[.int .u8 35] 1 (Nat.le_refl _) (by decide) rfl
    have Z0 : Below X0.heap.size X0 (X0.alloc (.cells #[.int .u8 35] 5)) := (Below.refl _ _).alloc (Nat.le_refl _) _
    rw [sz] at R0
    generalize hW0 : X0.alloc (.cells #[.int .u8 35] 5) = W0 at *
    have HW : Hid (AtC X0 w.heap.size ⟨r, g, b, 255⟩ ∧ Below w.heap.size w X0 ∧ Below X0.heap.size X0 W0 ∧ W0.ownsRow (w.heap.size + 1) 5 1 (.slice (some ⟨w.heap.size + 1, 0, none⟩) 1 1) 1 [.int .u8 35] ∧ X0.heap.size = w.heap.size + 1) := ⟨A, L, Z0, R0, sz⟩
    clear A L Z0 R0 hX0 hW0 sz
    refine R3.wp_region_lit 19 1 2 (fun _ b => .slice (some ⟨b, 0, none⟩) 6 6) (fun _ => .cells #[.int .u8 (sx (r / 16) : Nat), .int .u8 (sx (r % 16) : Nat), .int .u8 (sx (g / 16) : Nat), .int .u8 (sx (g % 16) : Nat), .int .u8 (sx (b / 16) : Nat), .int .u8 (sx (b % 16) : Nat)] 5) [55] (by kernel_rfl) (by kernel_rfl) rfl ?_ rfl ?_
    · intro k hk
      have hc : k = 0 := by omega
      subst hc; rfl
    apply Exists.intro
    refine ⟨fun bs ne => ?_, ?_, ?_⟩
    · obtain ⟨A, L, Z, _⟩ := HW.out
      have d0 := fun t : Gb W0 bs => (A.below (Z.trans (t.below.mono Z.size))).1
      have d1 := fun t : Gb W0 bs => (A.below (Z.trans (t.below.mono Z.size))).2.1
      have d2 := fun t : Gb W0 bs => (A.below (Z.trans (t.below.mono Z.size))).2.2.1
      have d3 := fun t : Gb W0 bs => (A.below (Z.trans (t.below.mono Z.size))).2.2.2
      clear A L Z
      simp only [List.take_succ_cons, List.take_zero]
      repeat (go_big_quiet_step (first
        | (go_at_call 21; exact gb_same (hL.out _ _ (by assumption)))
        | (go_at_call 22; exact gb_same (hH.out _ _ (by assumption)))))
      exact wpQuiet_nil rfl
    · intro i h1 h2
      have hc : i = 19 := by omega
      subst hc
      exact ⟨_, rfl, rfl, fun _ => by kernel_rfl⟩
    intro bl wr hbl hlo _
    obtain ⟨q1, q2⟩ := hlo 19 (by omega) (by omega)
    simp only [R3.layL]
    generalize bl 19 = g0 at *
    clear hlo
    obtain ⟨c1, _, _⟩ := heap_cells q2
    refine wpAny_one 20 (by kernel_rfl) rfl ?_
    intro K hK
    obtain ⟨A, L, Z, R, sz⟩ := HW.out
    replace R := own_below R hbl
    replace Z := Z.trans (hbl.mono Z.size)
    have zs : w.heap.size + 1 ≤ wr.heap.size := by rw [← sz]; exact Z.size
    refine step_append_lies wr (by rfl) _ _ 38 (by rfl) (w.heap.size + 1) 5 i0 (.int .u8 0) 1 1 Tryd.underlying38 hi hz0 hz1 hz2 rfl (by decide) (.slice (some ⟨w.heap.size + 1, 0, none⟩) 1 1) 1 [.int .u8 35] (by rfl) R ⟨g0, 0, none⟩ 6 6 [.int .u8 (sx (r / 16) : Nat), .int .u8 (sx (r % 16) : Nat), .int .u8 (sx (g / 16) : Nat), .int .u8 (sx (g % 16) : Nat), .int .u8 (sx (b / 16) : Nat), .int .u8 (sx (b % 16) : Nat)] (by rfl) rfl ?_ ?_ (by decide) (by decide) (by decide) zs wr.heap.size rfl ?_
    · intro j u hj
      rw [add_at g0 j, c1 j]
      simpa using hj
    · intro u hu
      simp at hu
      rcases hu with rfl | rfl | rfl | rfl | rfl | rfl <;> rfl
    intro h0 cap0 X1 hown hgrow _ _
    have L1 : Below w.heap.size w X1 := by
      have h2 := Z.grown hgrow Z.size (fun b hb => by have := (R.lt b hb).1; omega)
      exact L.trans (h2.mono L.size)
    have hcv := conv_own [35, bt (r / 16), bt (r % 16), bt (g / 16), bt (g % 16), bt (b / 16), bt (b % 16)] hown rfl (fun j hj => by
        simp only [List.length_cons, List.length_nil] at hj
        obtain ⟨e1, e2, e3, e4, e5, e6⟩ := HB.out
        have hc : j = 0 ∨ j = 1 ∨ j = 2 ∨ j = 3 ∨ j = 4 ∨ j = 5 ∨ j = 6 := by omega
        rcases hc with rfl | rfl | rfl | rfl | rfl | rfl | rfl
        · rfl
        · simp [e1]
        · simp [e2]
        · simp [e3]
        · simp [e4]
        · simp [e5]
        · simp [e6])
    have cb := (A.below (Z.grown hgrow Z.size (fun b hb => by have := (R.lt b hb).1; omega)))
    obtain ⟨d0, d1, d2, d3⟩ := cb
    have HL : Hid (Below w.heap.size w X1) := L1
    clear A L Z R sz zs hown hgrow c1 q1 q2 hbl L1
    refine hK _ _ ?_
    clear hK K
    refine wpAny_one 21 (by kernel_rfl) rfl ?_
    intro K hK
    go_simp
    refine hK _ _ ?_
    clear hK K
    refine wpAny_done (by kernel_rfl) ?_ _
    go_wp2
    go_ret
    exact ⟨rfl, HL.out⟩

set_option maxHeartbeats 2000000 in
theorem text_eight (r g b a : Nat) (w : World) (hr : r < 256) (hg : g < 256) (hb : b < 256) (ha : a < 256) (h255 : ((a : Int) == 255) = false) :
    Calls Tryd.prog 6 #[.agg #[.int .u8 r, .int .u8 g, .int .u8 b, .int .u8 a]] w fun e w' => e = .returned (.string ⟨([35, bt (r / 16), bt (r % 16), bt (g / 16), bt (g % 16), bt (b / 16), bt (b % 16), bt (a / 16), bt (a % 16)] : List UInt8).toArray⟩) ∧ Below w.heap.size w w' := by
  have hT : Hid (∀ x w, x < 256 → Calls Tryd.prog 20 #[.int .u8 ((x : Nat) : Int)] w fun e w' => e = .returned (.bool (tw x)) ∧ w' = w) := fun x w hx => isTwice_any x w hx
  have hL : Hid (∀ x w, x < 256 → Calls Tryd.prog 21 #[.int .u8 ((x : Nat) : Int)] w fun e w' => e = .returned (.int .u8 ((sx (x % 16) : Nat) : Int)) ∧ w' = w) := fun x w hx => low_any x w hx
  have hH : Hid (∀ x w, x < 256 → Calls Tryd.prog 22 #[.int .u8 ((x : Nat) : Int)] w fun e w' => e = .returned (.int .u8 ((sx (x / 16) : Nat) : Int)) ∧ w' = w) := fun x w hx => high_any x w hx
  have HB : Hid (((bt (r / 16)).toNat : Int) = ((sx (r / 16) : Nat) : Int) ∧ ((bt (r % 16)).toNat : Int) = ((sx (r % 16) : Nat) : Int) ∧ ((bt (g / 16)).toNat : Int) = ((sx (g / 16) : Nat) : Int) ∧ ((bt (g % 16)).toNat : Int) = ((sx (g % 16) : Nat) : Int) ∧ ((bt (b / 16)).toNat : Int) = ((sx (b / 16) : Nat) : Int) ∧ ((bt (b % 16)).toNat : Int) = ((sx (b % 16) : Nat) : Int) ∧ ((bt (a / 16)).toNat : Int) = ((sx (a / 16) : Nat) : Int) ∧ ((bt (a % 16)).toNat : Int) = ((sx (a % 16) : Nat) : Int)) := ⟨bt_nat (by omega), bt_nat (Nat.mod_lt _ (by decide)), bt_nat (by omega), bt_nat (Nat.mod_lt _ (by decide)), bt_nat (by omega), bt_nat (Nat.mod_lt _ (by decide)), bt_nat (by omega), bt_nat (Nat.mod_lt _ (by decide))⟩
  obtain ⟨i0, hi, hz0, hz1, hz2⟩ := info_parts8 info_u8
  go_enter Tryd.func6, Tryd.ntmps6
  go_wp2_with (go_at_call 20; refine (hT.out _ _ (by assumption)).mono ?_; rintro e w' ⟨rfl, rfl⟩)
  have A := AtC.new w r g b a 25
  have L : Below w.heap.size w (w.alloc (.cells #[.int .u8 r, .int .u8 g, .int .u8 b, .int .u8 a] 25)) := (Below.refl _ w).alloc (Nat.le_refl _) _
  have sz : (w.alloc (.cells #[.int .u8 r, .int .u8 g, .int .u8 b, .int .u8 a] 25)).heap.size = w.heap.size + 1 := by simp
  generalize hX0 : w.alloc (.cells #[.int .u8 r, .int .u8 g, .int .u8 b, .int .u8 a] 25) = X0 at *
  have R0 := World.ownsRow_lit (base := X0.heap.size) (e := 5) (size := 1) X0 #[.int .u8 35] 1 (Nat.le_refl _) (by decide) rfl
  have Z0 : Below X0.heap.size X0 (X0.alloc (.cells #[.int .u8 35] 5)) := (Below.refl _ _).alloc (Nat.le_refl _) _
  rw [sz] at R0
  generalize hW0 : X0.alloc (.cells #[.int .u8 35] 5) = W0 at *
  have HW : Hid (AtC X0 w.heap.size ⟨r, g, b, a⟩ ∧ Below w.heap.size w X0 ∧ Below X0.heap.size X0 W0 ∧ W0.ownsRow (w.heap.size + 1) 5 1 (.slice (some ⟨w.heap.size + 1, 0, none⟩) 1 1) 1 [.int .u8 35] ∧ X0.heap.size = w.heap.size + 1) := ⟨A, L, Z0, R0, sz⟩
  clear A L Z0 R0 hX0 hW0 sz
  refine R3.wp_region_lit 19 1 2 (fun _ b => .slice (some ⟨b, 0, none⟩) 6 6) (fun _ => .cells #[.int .u8 (sx (r / 16) : Nat), .int .u8 (sx (r % 16) : Nat), .int .u8 (sx (g / 16) : Nat), .int .u8 (sx (g % 16) : Nat), .int .u8 (sx (b / 16) : Nat), .int .u8 (sx (b % 16) : Nat)] 5) [55] (by kernel_rfl) (by kernel_rfl) rfl ?_ rfl ?_
  · intro k hk
    have hc : k = 0 := by omega
    subst hc; rfl
  apply Exists.intro
  refine ⟨fun bs ne => ?_, ?_, ?_⟩
  · obtain ⟨A, L, Z, _⟩ := HW.out
    have d0 := fun t : Gb W0 bs => (A.below (Z.trans (t.below.mono Z.size))).1
    have d1 := fun t : Gb W0 bs => (A.below (Z.trans (t.below.mono Z.size))).2.1
    have d2 := fun t : Gb W0 bs => (A.below (Z.trans (t.below.mono Z.size))).2.2.1
    have d3 := fun t : Gb W0 bs => (A.below (Z.trans (t.below.mono Z.size))).2.2.2
    clear A L Z
    simp only [List.take_succ_cons, List.take_zero]
    repeat (go_big_quiet_step (first
      | (go_at_call 21; exact gb_same (hL.out _ _ (by assumption)))
      | (go_at_call 22; exact gb_same (hH.out _ _ (by assumption)))))
    exact wpQuiet_nil rfl
  · intro i h1 h2
    have hc : i = 19 := by omega
    subst hc
    exact ⟨_, rfl, rfl, fun _ => by kernel_rfl⟩
  intro bl wr hbl hlo _
  obtain ⟨q1, q2⟩ := hlo 19 (by omega) (by omega)
  simp only [R3.layL]
  generalize bl 19 = g0 at *
  clear hlo
  obtain ⟨c1, _, _⟩ := heap_cells q2
  refine wpAny_one 20 (by kernel_rfl) rfl ?_
  intro K hK
  obtain ⟨A, L, Z, R, sz⟩ := HW.out
  replace R := own_below R hbl
  replace Z := Z.trans (hbl.mono Z.size)
  have zs : w.heap.size + 1 ≤ wr.heap.size := by rw [← sz]; exact Z.size
  refine step_append_lies wr (by rfl) _ _ 38 (by rfl) (w.heap.size + 1) 5 i0 (.int .u8 0) 1 1 Tryd.underlying38 hi hz0 hz1 hz2 rfl (by decide) (.slice (some ⟨w.heap.size + 1, 0, none⟩) 1 1) 1 [.int .u8 35] (by rfl) R ⟨g0, 0, none⟩ 6 6 [.int .u8 (sx (r / 16) : Nat), .int .u8 (sx (r % 16) : Nat), .int .u8 (sx (g / 16) : Nat), .int .u8 (sx (g % 16) : Nat), .int .u8 (sx (b / 16) : Nat), .int .u8 (sx (b % 16) : Nat)] (by rfl) rfl ?_ ?_ (by decide) (by decide) (by decide) zs wr.heap.size rfl ?_
  · intro j u hj
    rw [add_at g0 j, c1 j]
    simpa using hj
  · intro u hu
    simp at hu
    rcases hu with rfl | rfl | rfl | rfl | rfl | rfl <;> rfl
  intro h0 cap0 X1 hown hgrow _ _
  have Z1 := Z.grown hgrow Z.size (fun b hb => by have := (R.lt b hb).1; omega)
  have cb := A.below Z1
  have HW' : Hid (AtC X0 w.heap.size ⟨r, g, b, a⟩ ∧ Below w.heap.size w X0 ∧ Below X0.heap.size X0 X1 ∧ X1.ownsRow (w.heap.size + 1) 5 1 (.slice (some ⟨h0, 0, none⟩) 7 cap0) 7 [.int .u8 35, .int .u8 (sx (r / 16) : Nat), .int .u8 (sx (r % 16) : Nat), .int .u8 (sx (g / 16) : Nat), .int .u8 (sx (g % 16) : Nat), .int .u8 (sx (b / 16) : Nat), .int .u8 (sx (b % 16) : Nat)] ∧ X0.heap.size = w.heap.size + 1) := ⟨A, L, Z1, hown, sz⟩
  clear HW
  have HW := HW'
  clear HW'
  obtain ⟨d0, d1, d2, d3⟩ := cb
  clear A L Z R sz zs hown hgrow c1 q1 q2 hbl Z1
  refine hK _ _ ?_
  clear hK K
  refine wpAny_one 21 (by kernel_rfl) rfl ?_
  intro K hK
  go_simp
  refine hK _ _ ?_
  clear hK K
  refine wpAny_done (by kernel_rfl) ?_ _
  go_wp2_with fail
  clear d0 d1 d2 d3
  refine R3.wp_region_lit 7 1 2 (fun _ b => .slice (some ⟨b, 0, none⟩) 2 2) (fun _ => .cells #[.int .u8 (sx (a / 16) : Nat), .int .u8 (sx (a % 16) : Nat)] 5) [67] (by kernel_rfl) (by kernel_rfl) rfl ?_ rfl ?_
  · intro k hk
    have hc : k = 0 := by omega
    subst hc; rfl
  apply Exists.intro
  refine ⟨fun bs ne => ?_, ?_, ?_⟩
  · obtain ⟨A, L, Z, _⟩ := HW.out
    have d0 := fun t : Gb X1 bs => (A.below (Z.trans (t.below.mono Z.size))).1
    have d1 := fun t : Gb X1 bs => (A.below (Z.trans (t.below.mono Z.size))).2.1
    have d2 := fun t : Gb X1 bs => (A.below (Z.trans (t.below.mono Z.size))).2.2.1
    have d3 := fun t : Gb X1 bs => (A.below (Z.trans (t.below.mono Z.size))).2.2.2
    clear A L Z
    simp only [List.take_succ_cons, List.take_zero]
    repeat (go_big_quiet_step (first
      | (go_at_call 21; exact gb_same (hL.out _ _ (by assumption)))
      | (go_at_call 22; exact gb_same (hH.out _ _ (by assumption)))))
    exact wpQuiet_nil rfl
  · intro i h1 h2
    have hc : i = 7 := by omega
    subst hc
    exact ⟨_, rfl, rfl, fun _ => by kernel_rfl⟩
  intro bl wr hbl hlo _
  obtain ⟨q1, q2⟩ := hlo 7 (by omega) (by omega)
  simp only [R3.layL]
  generalize bl 7 = g0 at *
  clear hlo
  obtain ⟨c1, _, _⟩ := heap_cells q2
  refine wpAny_one 8 (by kernel_rfl) rfl ?_
  intro K hK
  obtain ⟨A, L, Z, R, sz⟩ := HW.out
  replace R := own_below R hbl
  replace Z := Z.trans (hbl.mono Z.size)
  have zs : w.heap.size + 1 ≤ wr.heap.size := by rw [← sz]; exact Z.size
  refine step_append_lies wr (by rfl) _ _ 38 (by rfl) (w.heap.size + 1) 5 i0 (.int .u8 0) 1 1 Tryd.underlying38 hi hz0 hz1 hz2 rfl (by decide) (.slice (some ⟨h0, 0, none⟩) 7 cap0) 7 [.int .u8 35, .int .u8 (sx (r / 16) : Nat), .int .u8 (sx (r % 16) : Nat), .int .u8 (sx (g / 16) : Nat), .int .u8 (sx (g % 16) : Nat), .int .u8 (sx (b / 16) : Nat), .int .u8 (sx (b % 16) : Nat)] (by rfl) R ⟨g0, 0, none⟩ 2 2 [.int .u8 (sx (a / 16) : Nat), .int .u8 (sx (a % 16) : Nat)] (by rfl) rfl ?_ ?_ (by decide) (by decide) (by decide) zs wr.heap.size rfl ?_
  · intro j u hj
    rw [add_at g0 j, c1 j]
    simpa using hj
  · intro u hu
    simp at hu
    rcases hu with rfl | rfl <;> rfl
  intro h1 cap1 X2 hown hgrow _ _
  have L1 : Below w.heap.size w X2 := by
    have h2 := Z.grown hgrow Z.size (fun b hb => by have := (R.lt b hb).1; omega)
    exact L.trans (h2.mono L.size)
  have hcv := conv_own [35, bt (r / 16), bt (r % 16), bt (g / 16), bt (g % 16), bt (b / 16), bt (b % 16), bt (a / 16), bt (a % 16)] hown rfl (fun j hj => by
      simp only [List.length_cons, List.length_nil] at hj
      obtain ⟨e1, e2, e3, e4, e5, e6, e7, e8⟩ := HB.out
      have hc : j = 0 ∨ j = 1 ∨ j = 2 ∨ j = 3 ∨ j = 4 ∨ j = 5 ∨ j = 6 ∨ j = 7 ∨ j = 8 := by omega
      rcases hc with rfl | rfl | rfl | rfl | rfl | rfl | rfl | rfl | rfl
      · rfl
      · simp [e1]
      · simp [e2]
      · simp [e3]
      · simp [e4]
      · simp [e5]
      · simp [e6]
      · simp [e7]
      · simp [e8])
  have HL : Hid (Below w.heap.size w X2) := L1
  clear A L Z R sz zs hown hgrow c1 q1 q2 hbl L1
  refine hK _ _ ?_
  clear hK K
  refine wpAny_one 9 (by kernel_rfl) rfl ?_
  intro K hK
  go_simp
  refine hK _ _ ?_
  clear hK K
  refine wpAny_done (by kernel_rfl) ?_ _
  go_wp2
  go_ret
  exact ⟨rfl, HL.out⟩

/-- What a colour's text is. -/
theorem text_any (c : Co) (w : World) (hc : c.ok) :
    Calls Tryd.prog 6 #[(Value.agg #[.int .u8 c.r, .int .u8 c.g, .int .u8 c.b, .int .u8 c.a])] w fun e w' => e = .returned (.string (txt c)) ∧ Below w.heap.size w w' := by
  obtain ⟨⟨r1, r2⟩, ⟨g1, g2⟩, ⟨b1, b2⟩, ⟨a1, a2⟩⟩ := hc
  obtain ⟨r, g, b, a⟩ := c
  simp only at r1 r2 g1 g2 b1 b2 a1 a2
  obtain ⟨r, rfl⟩ := Int.eq_ofNat_of_zero_le r1
  obtain ⟨g, rfl⟩ := Int.eq_ofNat_of_zero_le g1
  obtain ⟨b, rfl⟩ := Int.eq_ofNat_of_zero_le b1
  obtain ⟨a, rfl⟩ := Int.eq_ofNat_of_zero_le a1
  unfold txt txtL
  simp only [Int.toNat_natCast]
  by_cases h : a = 255
  · subst h
    by_cases ht : tw r = true ∧ tw g = true ∧ tw b = true
    · rw [if_pos ⟨rfl, ht⟩]
      exact text_short r g b w (by omega) (by omega) (by omega) ht.1 ht.2.1 ht.2.2
    · rw [if_neg (fun h => ht h.2), if_pos rfl]
      refine text_six r g b w (by omega) (by omega) (by omega) ?_
      cases e1 : tw r
      · exact .inl rfl
      · cases e2 : tw g
        · exact .inr (.inl ⟨rfl, rfl⟩)
        · cases e3 : tw b
          · exact .inr (.inr ⟨rfl, rfl, rfl⟩)
          · exact absurd ⟨e1, e2, e3⟩ ht
  · rw [if_neg (fun h' => h h'.1), if_neg h]
    exact text_eight r g b a w (by omega) (by omega) (by omega) (by omega) (by rw [beq_eq_false_iff_ne]; omega)

end Go.Proofs.YtbppadheejdhcaaDoor
