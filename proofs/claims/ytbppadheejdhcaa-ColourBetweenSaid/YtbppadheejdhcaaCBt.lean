/-
  The walk of the statement ColourBetween: it answers true; of what was there nothing turns.
-/
import Derived.Test.YtbppadheejdhcaaCAl
namespace Go.Proofs.Ytbppadheejdhcaa
open Go.RowKit
attribute [local go_sem] ite_max ite_min

theorem by_mix {x y p : Int} (hp : By p) : min x y ≤ shr x y (255 - p) p ∧ shr x y (255 - p) p ≤ max x y := by
  obtain ⟨p1, p2⟩ := hp
  exact shr_between (by omega) (by omega) (by omega)

theorem by0 : By 0 := ⟨by decide, by decide⟩
theorem by255 : By 255 := ⟨by decide, by decide⟩

set_option maxHeartbeats 2000000 in
theorem between_walk (a b : Co) (p : Int) (w : World) (ha : a.ok) (hb : b.ok) (hp : By p) :
    Calls Try.prog 6 #[(Value.agg #[.int .u8 a.r, .int .u8 a.g, .int .u8 a.b, .int .u8 a.a]), (Value.agg #[.int .u8 b.r, .int .u8 b.g, .int .u8 b.b, .int .u8 b.a]), .int .u8 p] w fun e w' => e = .returned (.bool true) ∧ Below w.heap.size w w' := by
  obtain ⟨o, ho⟩ : ∃ o, o = overC a b := ⟨_, rfl⟩
  obtain ⟨m, hm⟩ : ∃ m, m = mixC a b p := ⟨_, rfl⟩
  have HO : Hid (∀ w, Calls Try.prog 11 #[(Value.agg #[.int .u8 a.r, .int .u8 a.g, .int .u8 a.b, .int .u8 a.a]), (Value.agg #[.int .u8 b.r, .int .u8 b.g, .int .u8 b.b, .int .u8 b.a])] w fun e w' => e = .returned (Value.agg #[.int .u8 o.r, .int .u8 o.g, .int .u8 o.b, .int .u8 o.a]) ∧ Below w.heap.size w w') := fun w => by rw [ho]; exact over_any a b w ha hb
  have HM : Hid (∀ w, Calls Try.prog 13 #[(Value.agg #[.int .u8 a.r, .int .u8 a.g, .int .u8 a.b, .int .u8 a.a]), (Value.agg #[.int .u8 b.r, .int .u8 b.g, .int .u8 b.b, .int .u8 b.a]), .int .u8 p] w fun e w' => e = .returned (Value.agg #[.int .u8 m.r, .int .u8 m.g, .int .u8 m.b, .int .u8 m.a]) ∧ Below w.heap.size w w') := fun w => by rw [hm]; exact mix_any a b p w ha hb hp
  have HQ0 : Hid (∀ (x y : Co) q w, x.ok → y.ok → By q → Calls Try.prog 13 #[(Value.agg #[.int .u8 x.r, .int .u8 x.g, .int .u8 x.b, .int .u8 x.a]), (Value.agg #[.int .u8 y.r, .int .u8 y.g, .int .u8 y.b, .int .u8 y.a]), .int .u8 q] w fun e w' => e = .returned (Value.agg #[.int .u8 (mixC x y q).r, .int .u8 (mixC x y q).g, .int .u8 (mixC x y q).b, .int .u8 (mixC x y q).a]) ∧ Below w.heap.size w w') := fun x y q w hx hy hq => mix_any x y q w hx hy hq
  have HOK : Hid (a.ok ∧ b.ok ∧ By (255 - p)) := ⟨ha, hb, by have := hp.2; omega, by have := hp.1; omega⟩
  have m0 := mix_zero a b
  have m1 := mix_all a b
  have m2 : mixC b a (255 - p) = m := by rw [hm, mix_swap]
  have HR : Hid (∀ w, Calls Try.prog 20 #[.int .u8 m.r, .int .u8 a.r, .int .u8 b.r] w fun e w' => e = .returned (.bool true) ∧ w' = w) := fun w => by rw [hm]; exact lbetween_any _ _ _ w (by_mix hp)
  have HG : Hid (∀ w, Calls Try.prog 20 #[.int .u8 m.g, .int .u8 a.g, .int .u8 b.g] w fun e w' => e = .returned (.bool true) ∧ w' = w) := fun w => by rw [hm]; exact lbetween_any _ _ _ w (by_mix hp)
  have HB : Hid (∀ w, Calls Try.prog 20 #[.int .u8 m.b, .int .u8 a.b, .int .u8 b.b] w fun e w' => e = .returned (.bool true) ∧ w' = w) := fun w => by rw [hm]; exact lbetween_any _ _ _ w (by_mix hp)
  have HA : Hid (∀ w, Calls Try.prog 20 #[.int .u8 m.a, .int .u8 a.a, .int .u8 b.a] w fun e w' => e = .returned (.bool true) ∧ w' = w) := fun w => by rw [hm]; exact lbetween_any _ _ _ w (by_mix hp)
  have OB : Hid (a.a ≠ 0 → (min a.r b.r ≤ o.r ∧ o.r ≤ max a.r b.r) ∧ (min a.g b.g ≤ o.g ∧ o.g ≤ max a.g b.g) ∧ (min a.b b.b ≤ o.b ∧ o.b ≤ max a.b b.b)) := fun h0 => by
    obtain ⟨w1, w2, w3, w4, w5⟩ := wts ha hb
    have w6 := wts_pos ha hb h0
    rw [ho]
    unfold overC
    rw [if_neg h0]
    exact ⟨shr_between w1 w3 w6, shr_between w1 w3 w6, shr_between w1 w3 w6⟩
  have hfull : a.a = 255 → o = a := fun h => by rw [ho]; exact over_opaque b h
  have HF : Hid (a.a = 255 → o = a) := hfull
  have hoa := over_a ha hb
  rw [← ho] at hoa
  obtain ⟨g1, g2⟩ := hoa
  obtain ⟨_, _, _, a1, a2⟩ := ha
  obtain ⟨_, _, _, b1, b2⟩ := hb
  have HQ : Hid (b.a = 255 → o.a = 255) := g2
  obtain ⟨p1, p2⟩ := hp
  clear ho hm hfull g2
  go_enter Try.func6, Try.ntmps6
  go_wp2_with fail
  have BB := AtC.new (w.alloc (.cells #[.int .u8 a.r, .int .u8 a.g, .int .u8 a.b, .int .u8 a.a] 23)) b.r b.g b.b b.a 23
  have AA := (AtC.new w a.r a.g a.b a.a 23).alloc (.cells #[.int .u8 b.r, .int .u8 b.g, .int .u8 b.b, .int .u8 b.a] 23)
  have L : Below w.heap.size w ((w.alloc (.cells #[.int .u8 a.r, .int .u8 a.g, .int .u8 a.b, .int .u8 a.a] 23)).alloc (.cells #[.int .u8 b.r, .int .u8 b.g, .int .u8 b.b, .int .u8 b.a] 23)) := ((Below.refl _ w).alloc (Nat.le_refl _) _).alloc (by simp) _
  simp only [World.size_alloc] at BB
  generalize hW : (w.alloc (.cells #[.int .u8 a.r, .int .u8 a.g, .int .u8 a.b, .int .u8 a.a] 23)).alloc (.cells #[.int .u8 b.r, .int .u8 b.g, .int .u8 b.b, .int .u8 b.a] 23) = W at *
  have HL : Hid (AtC W w.heap.size a ∧ AtC W (w.heap.size + 1) b ∧ Below w.heap.size w W) := ⟨AA, BB, L⟩
  clear AA BB L hW
  refine wp_region_lit 7 2 2 (fun _ => .cells #[.int .u8 0, .int .u8 0, .int .u8 0, .int .u8 0] 23) [7, 8] (by kernel_rfl) (by kernel_rfl) rfl ?_ rfl ?_ ?_
  · intro k hk
    have hc : k = 0 ∨ k = 1 := by omega
    rcases hc with rfl | rfl <;> rfl
  · intro i h1 h2
    have hc : i = 7 ∨ i = 8 := by omega
    rcases hc with rfl | rfl
    · exact ⟨_, rfl, rfl, fun _ _ => rfl⟩
    · exact ⟨_, rfl, rfl, fun _ _ => rfl⟩
  apply Exists.intro
  refine ⟨fun bs ne => ?_, ?_⟩
  · obtain ⟨KA, KB, _⟩ := HL.out
    have d0 := fun t : Gb W bs => (KA.below t.below).1
    have d1 := fun t : Gb W bs => (KA.below t.below).2.1
    have d2 := fun t : Gb W bs => (KA.below t.below).2.2.1
    have d3 := fun t : Gb W bs => (KA.below t.below).2.2.2
    have e0 := fun t : Gb W bs => (KB.below t.below).1
    have e1 := fun t : Gb W bs => (KB.below t.below).2.1
    have e2 := fun t : Gb W bs => (KB.below t.below).2.2.1
    have e3 := fun t : Gb W bs => (KB.below t.below).2.2.2
    clear KA KB
    simp only [List.take_succ_cons, List.take_zero]
    repeat (go_big_quiet_step (first
      | (go_at_call 11; exact gb_call (HO.out _))
      | (go_at_call 13; exact gb_call (HM.out _))))
    exact wpQuiet_nil rfl
  · intro bl wr hb hlo hinj
    obtain ⟨k1, k2⟩ := hlo 7 (by omega) (by omega)
    obtain ⟨k3, k4⟩ := hlo 8 (by omega) (by omega)
    have k5 := hinj 7 8 (by omega) (by omega) (by omega) (by omega) (by omega)
    obtain ⟨c1, f1, l1⟩ := heap_cells k2
    obtain ⟨c2, f2, l2⟩ := heap_cells k4
    simp only [layL, ptr]
    generalize bl 7 = g5 at *
    generalize bl 8 = g6 at *
    clear hlo hinj k2 k4
    refine wpAny_one 9 (by kernel_rfl) rfl ?_
    intro K hK
    go_simp
    refine hK _ _ ?_
    clear hK K
    refine wpAny_one 10 (by kernel_rfl) rfl ?_
    intro K hK
    go_simp
    refine hK _ _ ?_
    clear hK K
    refine wpAny_done (by kernel_rfl) ?_ _
    obtain ⟨KA, KB, KL⟩ := HL.out
    have la := KA.lt
    have lb := KB.lt
    have z5 : AtC wr g5 ⟨0, 0, 0, 0⟩ := ⟨by rw [c1]; rfl, by rw [c1]; rfl, by rw [c1]; rfl, by rw [c1]; rfl⟩
    have z6 : AtC wr g6 ⟨0, 0, 0, 0⟩ := ⟨by rw [c2]; rfl, by rw [c2]; rfl, by rw [c2]; rfl, by rw [c2]; rfl⟩
    have A5 := ((((z5.put o.r o.g o.b o.a).set (p := ⟨g6, 0, none⟩) (.int .u8 m.r) (Ne.symm k5)).set (p := ⟨g6, 1, none⟩) (.int .u8 m.g) (Ne.symm k5)).set (p := ⟨g6, 2, none⟩) (.int .u8 m.b) (Ne.symm k5)).set (p := ⟨g6, 3, none⟩) (.int .u8 m.a) (Ne.symm k5)
    have A6 := ((((z6.set (p := ⟨g5, 0, none⟩) (.int .u8 o.r) k5).set (p := ⟨g5, 1, none⟩) (.int .u8 o.g) k5).set (p := ⟨g5, 2, none⟩) (.int .u8 o.b) k5).set (p := ⟨g5, 3, none⟩) (.int .u8 o.a) k5).put m.r m.g m.b m.a
    have q5a : g5 ≠ w.heap.size := by omega
    have q5b : g5 ≠ w.heap.size + 1 := by omega
    have q6a : g6 ≠ w.heap.size := by omega
    have q6b : g6 ≠ w.heap.size + 1 := by omega
    have AA := ((((((((KA.below hb).set (p := ⟨g5, 0, none⟩) (.int .u8 o.r) q5a).set (p := ⟨g5, 1, none⟩) (.int .u8 o.g) q5a).set (p := ⟨g5, 2, none⟩) (.int .u8 o.b) q5a).set (p := ⟨g5, 3, none⟩) (.int .u8 o.a) q5a).set (p := ⟨g6, 0, none⟩) (.int .u8 m.r) q6a).set (p := ⟨g6, 1, none⟩) (.int .u8 m.g) q6a).set (p := ⟨g6, 2, none⟩) (.int .u8 m.b) q6a).set (p := ⟨g6, 3, none⟩) (.int .u8 m.a) q6a
    have BB := ((((((((KB.below hb).set (p := ⟨g5, 0, none⟩) (.int .u8 o.r) q5b).set (p := ⟨g5, 1, none⟩) (.int .u8 o.g) q5b).set (p := ⟨g5, 2, none⟩) (.int .u8 o.b) q5b).set (p := ⟨g5, 3, none⟩) (.int .u8 o.a) q5b).set (p := ⟨g6, 0, none⟩) (.int .u8 m.r) q6b).set (p := ⟨g6, 1, none⟩) (.int .u8 m.g) q6b).set (p := ⟨g6, 2, none⟩) (.int .u8 m.b) q6b).set (p := ⟨g6, 3, none⟩) (.int .u8 m.a) q6b
    have L := set4_below (set4_below (KL.trans (hb.mono KL.size)) (show w.heap.size ≤ g5 by omega) (.int .u8 o.r) (.int .u8 o.g) (.int .u8 o.b) (.int .u8 o.a)) (show w.heap.size ≤ g6 by omega) (.int .u8 m.r) (.int .u8 m.g) (.int .u8 m.b) (.int .u8 m.a)
    generalize hZ : ((((((((wr.setCell ⟨g5, 0, none⟩ (.int .u8 o.r)).setCell ⟨g5, 1, none⟩ (.int .u8 o.g)).setCell ⟨g5, 2, none⟩ (.int .u8 o.b)).setCell ⟨g5, 3, none⟩ (.int .u8 o.a)).setCell ⟨g6, 0, none⟩ (.int .u8 m.r)).setCell ⟨g6, 1, none⟩ (.int .u8 m.g)).setCell ⟨g6, 2, none⟩ (.int .u8 m.b)).setCell ⟨g6, 3, none⟩ (.int .u8 m.a)) = Z at *
    clear hZ z5 z6 c1 c2 f1 f2 KA KB KL hb la lb l1 l2 HL
    obtain ⟨d0, d1, d2, d3⟩ := id AA
    obtain ⟨e0, e1, e2, e3⟩ := id BB
    obtain ⟨x0, x1, x2, x3⟩ := id A5
    obtain ⟨y0, y1, y2, y3⟩ := id A6
    have HZ : Hid (AtC Z w.heap.size a ∧ AtC Z (w.heap.size + 1) b ∧ AtC Z g5 o ∧ AtC Z g6 m ∧ Below w.heap.size w Z) := ⟨AA, BB, A5, A6, L⟩
    have ne := gw_ne L
    clear AA BB A5 A6 L k1 k3 k5 q5a q5b q6a q6b
    have cs : ((a.a == 0) = true ∧ decide (a.a < 255) = true ∧ decide (b.a < 255) = true) ∨ ((a.a == 0) = true ∧ decide (a.a < 255) = true ∧ decide (b.a < 255) = false) ∨
        ((a.a == 0) = false ∧ (b.a == 0) = true ∧ decide (a.a < 255) = true ∧ decide (b.a < 255) = true) ∨ ((a.a == 0) = false ∧ (b.a == 0) = true ∧ decide (a.a < 255) = false ∧ decide (b.a < 255) = true) ∨
        ((a.a == 0) = false ∧ (b.a == 0) = false ∧ decide (a.a < 255) = true ∧ decide (b.a < 255) = true) ∨ ((a.a == 0) = false ∧ (b.a == 0) = false ∧ decide (a.a < 255) = true ∧ decide (b.a < 255) = false) ∨
        ((a.a == 0) = false ∧ (b.a == 0) = false ∧ decide (a.a < 255) = false ∧ decide (b.a < 255) = true) ∨ ((a.a == 0) = false ∧ (b.a == 0) = false ∧ decide (a.a < 255) = false ∧ decide (b.a < 255) = false) := by
      simp only [beq_iff_eq, beq_eq_false_iff_ne, decide_eq_true_eq, decide_eq_false_iff_not]; omega
    rcases cs with ⟨v1, v3, v4⟩ | ⟨v1, v3, v4⟩ | ⟨v1, v2, v3, v4⟩ | ⟨v1, v2, v3, v4⟩ | ⟨v1, v2, v3, v4⟩ | ⟨v1, v2, v3, v4⟩ | ⟨v1, v2, v3, v4⟩ | ⟨v1, v2, v3, v4⟩
    all_goals
      try
        have hh : a.a = 255 := by simp only [decide_eq_false_iff_not] at v3; omega
        have hh2 := (HF.out hh).symm
        subst hh2
        clear hh
      try
        have hh : (o.a == 255) = true := by simp only [beq_iff_eq]; exact HQ.out (by simp only [decide_eq_false_iff_not] at v4; omega)
      try
        have hh : (a.a == 255) = true := by simp only [beq_iff_eq]; exact HQ.out (by simp only [decide_eq_false_iff_not] at v4; omega)
      clear a1 a2 b1 b2
      go_wp2_with (first
        | (go_at_call_of 20 (Value.int .u8 m.r); refine (HR.out _).mono ?_; rintro e w' ⟨rfl, rfl⟩)
        | (go_at_call_of 20 (Value.int .u8 m.g); refine (HG.out _).mono ?_; rintro e w' ⟨rfl, rfl⟩)
        | (go_at_call_of 20 (Value.int .u8 m.b); refine (HB.out _).mono ?_; rintro e w' ⟨rfl, rfl⟩)
        | (go_at_call_of 20 (Value.int .u8 m.a); refine (HA.out _).mono ?_; rintro e w' ⟨rfl, rfl⟩)
        | (go_at_call 20; refine (lbetween_any _ _ _ _ ?_).mono ?_; (first | exact (OB.out (by simpa using v1)).1 | exact (OB.out (by simpa using v1)).2.1 | exact (OB.out (by simpa using v1)).2.2); rintro e w' ⟨rfl, rfl⟩))
      clear d0 d1 d2 d3 e0 e1 e2 e3 x0 x1 x2 x3 y0 y1 y2 y3
      obtain ⟨AA, BB, A5, A6, L⟩ := HZ.out
      have s0 := fun t => (gwC AA t).1
      have s1 := fun t => (gwC AA t).2.1
      have s2 := fun t => (gwC AA t).2.2.1
      have s3 := fun t => (gwC AA t).2.2.2
      have t0 := fun t => (gwC BB t).1
      have t1 := fun t => (gwC BB t).2.1
      have t2 := fun t => (gwC BB t).2.2.1
      have t3 := fun t => (gwC BB t).2.2.2
      have u0 := fun t => (gwC A6 t).1
      have u1 := fun t => (gwC A6 t).2.1
      have u2 := fun t => (gwC A6 t).2.2.1
      have u3 := fun t => (gwC A6 t).2.2.2
      clear AA BB A5 A6 L
      refine wp_region_gw (by kernel_rfl) (by kernel_rfl) ?_
      repeat (go_big_quiet_step (first
        | (go_at_call 13; exact gw_call (HQ0.out _ _ _ _ (by first | exact HOK.out.1 | exact HOK.out.2.1) (by first | exact HOK.out.1 | exact HOK.out.2.1) (by first | exact by0 | exact by255 | exact HOK.out.2.2)))))
      refine wpQuiet_nil ?_
      rintro _ ⟨t, rfl⟩
      clear s0 s1 s2 s3 t0 t1 t2 t3 u0 u1 u2 u3
      go_wp2_with fail
      refine (alive_any _).mono ?_
      rintro e w1 ⟨rfl, hb⟩
      obtain ⟨AA, BB, A5, A6, L⟩ := HZ.out
      replace AA := (AA.below t.below).below hb
      replace BB := (BB.below t.below).below hb
      replace A5 := (A5.below t.below).below hb
      replace L := (L.trans (t.below.mono L.size)).trans (hb.mono (L.trans (t.below.mono L.size)).size)
      clear hb A6
      obtain ⟨d0, d1, d2, d3⟩ := AA
      obtain ⟨e0, e1, e2, e3⟩ := BB
      obtain ⟨x0, x1, x2, x3⟩ := A5
      go_wp2
      go_ret
      exact ⟨rfl, L⟩

end Go.Proofs.Ytbppadheejdhcaa
