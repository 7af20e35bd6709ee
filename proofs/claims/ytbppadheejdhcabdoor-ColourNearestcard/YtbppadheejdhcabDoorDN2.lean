/-
  The walk of the statement ColourNearest: it answers true; of what was there nothing turns.
-/
import Derived.Test.YtbppadheejdhcabDoorDN
namespace Go.Proofs.YtbppadheejdhcabDoor
open Go.RowKit

theorem near_spec (c : Co) (n : Nat) (b : Bool) (h : 0 < n) : nearN c n b < n ∧ (∀ j, j < n → farI (onB c) (bk (nearN c n b) b) ≤ farI (onB c) (bk j b)) ∧ ∀ j, j < nearN c n b → farI (onB c) (bk (nearN c n b) b) < farI (onB c) (bk j b) :=
  nst_spec (fun j => farI (onB c) (bk j b)) n h

set_option maxRecDepth 20000 in
set_option maxHeartbeats 4000000 in
theorem nearest_walk (x : Co) (w : World) (hx : x.ok) (hP : Pal w) :
    Calls Tryd.prog 3 #[(Value.agg #[.int .u8 x.r, .int .u8 x.g, .int .u8 x.b, .int .u8 x.a])] w fun e w' => e = .returned (.bool true) ∧ Below w.heap.size w w' := by
  obtain ⟨f, hf⟩ : ∃ f, f = onB x := ⟨_, rfl⟩
  have hfok : f.ok := by rw [hf]; exact onB_ok hx
  have hfa : f.a = 255 := by
    rw [hf]
    exact (over_a hx black_ok).2 rfl
  obtain ⟨s, hs⟩ : ∃ s, s = nearN x 16 false := ⟨_, rfl⟩
  obtain ⟨m, hm⟩ : ∃ m, m = nearN x 256 true := ⟨_, rfl⟩
  obtain ⟨s1, s2, s3⟩ := near_spec x 16 false (by decide)
  obtain ⟨m1, m2, m3⟩ := near_spec x 256 true (by decide)
  rw [← hs, ← hf] at s2 s3
  rw [← hs] at s1
  rw [← hm, ← hf] at m2 m3
  rw [← hm] at m1
  have HO : Hid (∀ w, Calls Tryd.prog 4 #[(Value.agg #[.int .u8 x.r, .int .u8 x.g, .int .u8 x.b, .int .u8 x.a]), .agg #[.int .u8 0, .int .u8 0, .int .u8 0, .int .u8 255]] w fun e w' => e = .returned (Value.agg #[.int .u8 f.r, .int .u8 f.g, .int .u8 f.b, .int .u8 255]) ∧ Below w.heap.size w w') := fun w => by
    have h := over_any x blackC w hx black_ok
    rw [show overC x blackC = f from hf.symm, hfa] at h
    exact h
  have HS : Hid (∀ w, Pal w → Calls Tryd.prog 6 #[(Value.agg #[.int .u8 x.r, .int .u8 x.g, .int .u8 x.b, .int .u8 x.a])] w fun e w' => e = .returned (.int .u8 (s : Nat)) ∧ Below w.heap.size w w') := fun w h => by rw [hs]; exact sixteen_any x w hx h
  have HM : Hid (∀ w, Pal w → Calls Tryd.prog 7 #[(Value.agg #[.int .u8 x.r, .int .u8 x.g, .int .u8 x.b, .int .u8 x.a])] w fun e w' => e = .returned (.int .u8 (m : Nat)) ∧ Below w.heap.size w w') := fun w h => by rw [hm]; exact many_any x w hx h
  obtain ⟨ps, hps⟩ : ∃ c, c = bk s false := ⟨_, rfl⟩
  obtain ⟨pm, hpm⟩ : ∃ c, c = bk m true := ⟨_, rfl⟩
  have hpmok : pm.ok := by rw [hpm]; exact (bk_ok m1 true).1
  obtain ⟨j, hj⟩ : ∃ j, j = nearN pm 256 true := ⟨_, rfl⟩
  have hj256 : j < 256 := by rw [hj]; exact (near_spec pm 256 true (by decide)).1
  have hbj : bk j true = pm := by rw [hj, hpm]; exact back_many m1
  obtain ⟨fe, hfe⟩ : ∃ z, z = farI f ps := ⟨_, rfl⟩
  obtain ⟨ma, hma⟩ : ∃ z, z = farI f pm := ⟨_, rfl⟩
  have K1 : Hid (∀ w, Pal w → Calls Tryd.prog 10 #[.int .u8 (s : Nat), .bool false] w fun e w' => e = .returned (Value.agg #[.int .u8 ps.r, .int .u8 ps.g, .int .u8 ps.b, .int .u8 ps.a]) ∧ Below w.heap.size w w') := fun w h => by rw [hps]; exact back_any s false w h (by omega)
  have K2 : Hid (∀ w, Pal w → Calls Tryd.prog 10 #[.int .u8 (m : Nat), .bool true] w fun e w' => e = .returned (Value.agg #[.int .u8 pm.r, .int .u8 pm.g, .int .u8 pm.b, .int .u8 pm.a]) ∧ Below w.heap.size w w') := fun w h => by rw [hpm]; exact back_any m true w h m1
  have K3 : Hid (∀ w, Calls Tryd.prog 9 #[(Value.agg #[.int .u8 f.r, .int .u8 f.g, .int .u8 f.b, .int .u8 255]), (Value.agg #[.int .u8 ps.r, .int .u8 ps.g, .int .u8 ps.b, .int .u8 ps.a])] w fun e w' => e = .returned (.int .i64 fe) ∧ Below w.heap.size w w') := fun w => by
    have h := lfar_any f ps w hfok (by rw [hps]; exact (bk_ok (by omega) false).1)
    rw [hfa] at h
    rw [hfe]; exact h
  have K4 : Hid (∀ w, Calls Tryd.prog 9 #[(Value.agg #[.int .u8 f.r, .int .u8 f.g, .int .u8 f.b, .int .u8 255]), (Value.agg #[.int .u8 pm.r, .int .u8 pm.g, .int .u8 pm.b, .int .u8 pm.a])] w fun e w' => e = .returned (.int .i64 ma) ∧ Below w.heap.size w w') := fun w => by
    have h := lfar_any f pm w hfok hpmok
    rw [hfa] at h
    rw [hma]; exact h
  have K5 : Hid (∀ w, Pal w → Calls Tryd.prog 7 #[(Value.agg #[.int .u8 pm.r, .int .u8 pm.g, .int .u8 pm.b, .int .u8 pm.a])] w fun e w' => e = .returned (.int .u8 (j : Nat)) ∧ Below w.heap.size w w') := fun w h => by rw [hj]; exact many_any pm w hpmok h
  have K6 : Hid (∀ w, Pal w → Calls Tryd.prog 10 #[.int .u8 (j : Nat), .bool true] w fun e w' => e = .returned (Value.agg #[.int .u8 pm.r, .int .u8 pm.g, .int .u8 pm.b, .int .u8 pm.a]) ∧ Below w.heap.size w w') := fun w h => by rw [← hbj]; exact back_any j true w h hj256
  rw [← hps, ← hfe] at s2 s3
  rw [← hpm, ← hma] at m2 m3
  have hle : ma ≤ fe := by
    have := m2 s (by omega)
    rw [bk_low s1, ← bk_low s1 false, ← hps, ← hfe] at this
    exact this
  have HK : Hid ((f.ok ∧ f.a = 255) ∧ (∀ j, j < 16 → fe ≤ farI f (bk j false)) ∧ (∀ j, j < s → fe < farI f (bk j false)) ∧ (∀ j, j < 256 → ma ≤ farI f (bk j true)) ∧ (∀ j, j < m → ma < farI f (bk j true))) := ⟨⟨hfok, hfa⟩, s2, s3, m2, m3⟩
  clear s2 s3 m2 m3 hps hpm hpmok hj hbj hfe hma hs hm hf hx hfok hfa
  have HP : Hid (Pal w) := hP
  go_enter Tryd.func3, Tryd.ntmps3
  go_wp2_with fail
  have A0 := AtC.new w x.r x.g x.b x.a 23
  have L0 : Below w.heap.size w (w.alloc (.cells #[.int .u8 x.r, .int .u8 x.g, .int .u8 x.b, .int .u8 x.a] 23)) := (Below.refl _ w).alloc (Nat.le_refl _) _
  generalize w.alloc (.cells #[.int .u8 x.r, .int .u8 x.g, .int .u8 x.b, .int .u8 x.a] 23) = W at *
  have HL : Hid (AtC W w.heap.size x ∧ Below w.heap.size w W) := ⟨A0, L0⟩
  clear A0 L0 hP
  refine wp_region_lit 3 1 1 (fun _ => .cells #[.int .u8 0, .int .u8 0, .int .u8 0, .int .u8 0] 23) [3] (by kernel_rfl) (by kernel_rfl) rfl ?_ rfl ?_ ?_
  · intro k hk
    have hc : k = 0 := by omega
    subst hc; rfl
  · intro i h1 h2
    have hc : i = 3 := by omega
    subst hc
    exact ⟨_, rfl, rfl, fun _ _ => rfl⟩
  apply Exists.intro
  refine ⟨fun bs ne => ?_, ?_⟩
  · obtain ⟨KA, _⟩ := HL.out
    have d0 := fun t : Gb W bs => (KA.below t.below).1
    have d1 := fun t : Gb W bs => (KA.below t.below).2.1
    have d2 := fun t : Gb W bs => (KA.below t.below).2.2.1
    have d3 := fun t : Gb W bs => (KA.below t.below).2.2.2
    clear KA
    simp only [List.take_succ_cons, List.take_zero]
    repeat (go_big_quiet_step (first
      | (go_at_call 5; exact gb_call (c_any _ _ _ _ _))
      | (go_at_call 4; exact gb_call (HO.out _))))
    exact wpQuiet_nil rfl
  intro bl wr hb hlo _
  obtain ⟨k1, k2⟩ := hlo 3 (by omega) (by omega)
  obtain ⟨c1, f1, l1⟩ := heap_cells k2
  simp only [layL, ptr]
  generalize bl 3 = g3 at *
  clear hlo k2
  refine wpAny_one 4 (by kernel_rfl) rfl ?_
  intro K hK
  go_simp
  refine hK _ _ ?_
  clear hK K
  refine wpAny_done (by kernel_rfl) ?_ _
  obtain ⟨KA, KL⟩ := HL.out
  have la := KA.lt
  have z3 : AtC wr g3 ⟨0, 0, 0, 0⟩ := ⟨by rw [c1]; rfl, by rw [c1]; rfl, by rw [c1]; rfl, by rw [c1]; rfl⟩
  have A3 := z3.put f.r f.g f.b 255
  have q3 : g3 ≠ w.heap.size := by omega
  have AX := ((((KA.below hb).set (p := ⟨g3, 0, none⟩) (.int .u8 f.r) q3).set (p := ⟨g3, 1, none⟩) (.int .u8 f.g) q3).set (p := ⟨g3, 2, none⟩) (.int .u8 f.b) q3).set (p := ⟨g3, 3, none⟩) (.int .u8 255) q3
  have LX := set4_below (KL.trans (hb.mono KL.size)) (show w.heap.size ≤ g3 by omega) (.int .u8 f.r) (.int .u8 f.g) (.int .u8 f.b) (.int .u8 255)
  generalize hZ : ((((wr.setCell ⟨g3, 0, none⟩ (.int .u8 f.r)).setCell ⟨g3, 1, none⟩ (.int .u8 f.g)).setCell ⟨g3, 2, none⟩ (.int .u8 f.b)).setCell ⟨g3, 3, none⟩ (.int .u8 255)) = Z at *
  clear hZ z3 c1 f1 l1 KA KL hb la HL k1 q3
  go_wp2_with fail
  have ne := gw_ne LX
  have HZ : Hid (AtC Z w.heap.size x ∧ AtC Z g3 ⟨f.r, f.g, f.b, 255⟩ ∧ Below w.heap.size w Z) := ⟨AX, A3, LX⟩
  have HQ : Hid (∀ t : Gw Z, Pal t.wd) := fun t => (HP.out.below LX).below t.below
  have a0 := fun t => (gwC AX t).1
  have a1 := fun t => (gwC AX t).2.1
  have a2 := fun t => (gwC AX t).2.2.1
  have a3 := fun t => (gwC AX t).2.2.2
  clear AX A3 LX
  refine wp_region_gw (by kernel_rfl) (by kernel_rfl) ?_
  repeat (go_big_quiet_step (first
    | (go_at_call 6; exact gw_call (HS.out _ (HQ.out _)))
    | (go_at_call 7; exact gw_call (HM.out _ (HQ.out _)))))
  refine wpQuiet_nil ?_
  rintro _ ⟨t, rfl⟩
  clear a0 a1 a2 a3
  go_wp2_with fail
  refine (alive_any _).mono ?_
  rintro e w2 ⟨rfl, hb⟩
  obtain ⟨AX, A3, LX⟩ := HZ.out
  replace A3 := (A3.below t.below).below hb
  replace LX := (LX.trans (t.below.mono LX.size)).trans (hb.mono (LX.trans (t.below.mono LX.size)).size)
  clear AX HZ HQ ne hb
  have l3 := A3.lt
  obtain ⟨d0, d1, d2, d3⟩ := id A3
  go_wp2_with fail
  clear d0 d1 d2 d3 l3
  have ne := gw_ne LX
  have HZ : Hid (AtC w2 g3 ⟨f.r, f.g, f.b, 255⟩ ∧ Below w.heap.size w w2) := ⟨A3, LX⟩
  have HQ : Hid (∀ t : Gw w2, Pal t.wd) := fun t => (HP.out.below LX).below t.below
  have a0 := fun t => (gwC A3 t).1
  have a1 := fun t => (gwC A3 t).2.1
  have a2 := fun t => (gwC A3 t).2.2.1
  have a3 := fun t => (gwC A3 t).2.2.2
  clear A3 LX
  refine wp_region_gw (by kernel_rfl) (by kernel_rfl) ?_
  repeat (go_big_quiet_step (first
    | (go_at_call_of 10 (Value.bool false); exact gw_call (K1.out _ (HQ.out _)))
    | (go_at_call_of 10 (Value.bool true); exact gw_call (K2.out _ (HQ.out _)))
    | (go_at_call_of 9 (Value.agg #[.int .u8 ps.r, .int .u8 ps.g, .int .u8 ps.b, .int .u8 ps.a]); exact gw_call (K3.out _))
    | (go_at_call_of 9 (Value.agg #[.int .u8 pm.r, .int .u8 pm.g, .int .u8 pm.b, .int .u8 pm.a]); exact gw_call (K4.out _))))
  refine wpQuiet_nil ?_
  rintro _ ⟨t2, rfl⟩
  clear a0 a1 a2 a3
  go_wp2
  have HI : Hid (AtC t2.wd g3 ⟨f.r, f.g, f.b, 255⟩ ∧ Below w.heap.size w t2.wd) := ⟨HZ.out.1.below t2.below, HZ.out.2.trans (t2.below.mono HZ.out.2.size)⟩
  clear HZ HQ ne
  go_loopw [8] (fun i wr => ∃ k : Nat, k ≤ 256 ∧ i = .int .i64 k ∧ AtC wr g3 ⟨f.r, f.g, f.b, 255⟩ ∧ Below w.heap.size w wr) (fun i _ => 256 - (intOf i).toNat)
  case atStart => exact ⟨0, by decide, rfl, HI.out.1, HI.out.2⟩
  case round =>
    obtain ⟨k, hk, rfl, A, L⟩ := hrel
    clear HI
    by_cases hlt : k < 256
    · obtain ⟨p, hp⟩ : ∃ p, p = bk k true := ⟨_, rfl⟩
      have hpo := bk_ok hlt true
      rw [← hp] at hpo
      obtain ⟨dp, hdp⟩ : ∃ z, z = farI f p := ⟨_, rfl⟩
      obtain ⟨⟨fok, fa⟩, n2, n3, n4, n5⟩ := HK.out
      have B1 : Hid (∀ w, Pal w → Calls Tryd.prog 10 #[.int .u8 (k : Nat), .bool true] w fun e w' => e = .returned (Value.agg #[.int .u8 p.r, .int .u8 p.g, .int .u8 p.b, .int .u8 255]) ∧ Below w.heap.size w w') := fun w h => by
        have h := back_any k true w h hlt
        rw [← hp, hpo.2] at h
        exact h
      have B2 : Hid (∀ w, Calls Tryd.prog 9 #[(Value.agg #[.int .u8 f.r, .int .u8 f.g, .int .u8 f.b, .int .u8 255]), (Value.agg #[.int .u8 p.r, .int .u8 p.g, .int .u8 p.b, .int .u8 255])] w fun e w' => e = .returned (.int .i64 dp) ∧ Below w.heap.size w w') := fun w => by
        have h := lfar_any f p w fok hpo.1
        rw [fa, hpo.2] at h
        rw [hdp]; exact h
      have g1 : decide (dp < ma) = false := by rw [hdp, hp]; simpa using n4 k hlt
      have g2 : (dp == ma) = false ∨ ((dp == ma) = true ∧ ¬ k < m) := by
        cases e : (dp == ma)
        · exact .inl rfl
        · refine .inr ⟨rfl, ?_⟩
          rw [beq_iff_eq] at e
          intro hh
          have := n5 k (by omega)
          rw [← hp, ← hdp] at this
          omega
      have HG : Hid (AtC wr g3 ⟨f.r, f.g, f.b, 255⟩ ∧ Below w.heap.size w wr) := ⟨A, L⟩
      by_cases h16 : k < 16
      · have hbf : bk k false = p := by rw [hp, bk_low h16, bk_low h16]
        have hk16 : decide ((k : Int) < 16) = true := by simp; omega
        have hm16 : (k : Int) % 16 = (k : Int) := by omega
        have B3 : Hid (∀ w, Pal w → Calls Tryd.prog 10 #[.int .u8 (k : Nat), .bool false] w fun e w' => e = .returned (Value.agg #[.int .u8 p.r, .int .u8 p.g, .int .u8 p.b, .int .u8 255]) ∧ Below w.heap.size w w') := fun w h => by
          have h := back_any k false w h hlt
          rw [hbf, hpo.2] at h
          exact h
        have B4 : Hid (∀ w, Pal w → Calls Tryd.prog 6 #[(Value.agg #[.int .u8 p.r, .int .u8 p.g, .int .u8 p.b, .int .u8 255])] w fun e w' => e = .returned (.int .u8 (k : Nat)) ∧ Below w.heap.size w w') := fun w h => by
          have h := sixteen_any p w hpo.1 h
          have e : nearN p 16 false = k := by rw [← hbf]; exact sixteen_back ⟨k, h16⟩
          rw [e, hpo.2] at h
          exact h
        have g3' : decide (dp < fe) = false := by
          have := n2 k h16
          rw [hbf, ← hdp] at this
          simpa using this
        have g4 : (dp == fe) = false ∨ ((dp == fe) = true ∧ ¬ k < s) := by
          cases e : (dp == fe)
          · exact .inl rfl
          · refine .inr ⟨rfl, ?_⟩
            rw [beq_iff_eq] at e
            intro hh
            have := n3 k (by omega)
            rw [hbf, ← hdp] at this
            omega
        clear n2 n3 n4 n5 fok fa hp hpo hdp hbf HK A L
        rcases g2 with g2 | ⟨g2, g5⟩
        all_goals rcases g4 with g4 | ⟨g4, g6⟩
        all_goals
          obtain ⟨A, L⟩ := HG.out
          go_wp2_with fail
          refine (B1.out _ (HP.out.below L)).mono ?_
          rintro e w3 ⟨rfl, hb⟩
          replace A := A.below hb
          replace L := L.trans (hb.mono L.size)
          clear hb
          have la := A.lt
          obtain ⟨d0, d1, d2, d3⟩ := id A
          go_wp2_with fail
          clear d0 d1 d2 d3 la
          refine (B2.out _).mono ?_
          rintro e w4 ⟨rfl, hb⟩
          have B := (AtC.new w3 p.r p.g p.b 255 23).below hb
          replace A := (A.alloc _).below hb
          replace L := (L.alloc L.size _).trans (hb.mono (by have := L.size; simp; omega))
          clear hb
          obtain ⟨d0, d1, d2, d3⟩ := id B
          go_wp2_with fail
          clear d0 d1 d2 d3
          refine (B3.out _ (HP.out.below L)).mono ?_
          rintro e w5 ⟨rfl, hb⟩
          replace A := A.below hb
          replace B := B.below hb
          replace L := L.trans (hb.mono L.size)
          clear hb
          have la := A.lt
          have lb := B.lt
          obtain ⟨d0, d1, d2, d3⟩ := id A
          go_wp2_with fail
          clear d0 d1 d2 d3 la lb
          refine (B2.out _).mono ?_
          rintro e w6 ⟨rfl, hb⟩
          have C := (AtC.new w5 p.r p.g p.b 255 23).below hb
          replace A := (A.alloc _).below hb
          replace B := (B.alloc _).below hb
          replace L := (L.alloc L.size _).trans (hb.mono (by have := L.size; simp; omega))
          clear hb
          go_wp2_with fail
          have ne := gw_ne L
          have a0 := fun t => (gwC B t).1
          have a1 := fun t => (gwC B t).2.1
          have a2 := fun t => (gwC B t).2.2.1
          have a3 := fun t => (gwC B t).2.2.2
          have b0 := fun t => (gwC C t).1
          have b1 := fun t => (gwC C t).2.1
          have b2 := fun t => (gwC C t).2.2.1
          have b3 := fun t => (gwC C t).2.2.2
          have HQ : Hid (∀ t : Gw w6, Pal t.wd) := fun t => (HP.out.below L).below t.below
          have HA : Hid (AtC w6 g3 ⟨f.r, f.g, f.b, 255⟩ ∧ Below w.heap.size w w6) := ⟨A, L⟩
          clear A B C L
          refine wp_region_gw (by kernel_rfl) (by kernel_rfl) ?_
          repeat (go_big_quiet_step (first
            | (go_at_call 6; exact gw_call (B4.out _ (HQ.out _)))
            | (go_at_call 10; exact gw_call (B3.out _ (HQ.out _)))))
          refine wpQuiet_nil ?_
          rintro _ ⟨t, rfl⟩
          clear a0 a1 a2 a3 b0 b1 b2 b3
          go_wp2
          go_roundw
          case rel =>
            obtain ⟨A, L⟩ := HA.out
            exact ⟨k + 1, by omega, by go_num, A.below t.below, L.trans (t.below.mono L.size)⟩
          case measure => simp [intOf]; omega
      · obtain ⟨q, hq⟩ : ∃ q, q = bk k false := ⟨_, rfl⟩
        have hqo := bk_ok hlt false
        rw [← hq] at hqo
        obtain ⟨dq, hdq⟩ : ∃ z, z = farI f q := ⟨_, rfl⟩
        obtain ⟨r, hr⟩ : ∃ r, r = k % 16 := ⟨_, rfl⟩
        have hr' : (k : Int) % 16 = (r : Int) := by omega
        have hk16 : decide ((k : Int) < 16) = false := by simp; omega
        have B3 : Hid (∀ w, Pal w → Calls Tryd.prog 10 #[.int .u8 (k : Nat), .bool false] w fun e w' => e = .returned (Value.agg #[.int .u8 q.r, .int .u8 q.g, .int .u8 q.b, .int .u8 255]) ∧ Below w.heap.size w w') := fun w h => by
          have h := back_any k false w h hlt
          rw [← hq, hqo.2] at h
          exact h
        have B4 : Hid (∀ w, Calls Tryd.prog 9 #[(Value.agg #[.int .u8 f.r, .int .u8 f.g, .int .u8 f.b, .int .u8 255]), (Value.agg #[.int .u8 q.r, .int .u8 q.g, .int .u8 q.b, .int .u8 255])] w fun e w' => e = .returned (.int .i64 dq) ∧ Below w.heap.size w w') := fun w => by
          have h := lfar_any f q w fok hqo.1
          rw [fa, hqo.2] at h
          rw [hdq]; exact h
        have B5 : Hid (∀ w, Pal w → Calls Tryd.prog 10 #[.int .u8 (r : Nat), .bool false] w fun e w' => e = .returned (Value.agg #[.int .u8 q.r, .int .u8 q.g, .int .u8 q.b, .int .u8 255]) ∧ Below w.heap.size w w') := fun w h => by
          have h := back_any r false w h (by omega)
          rw [hr, bk_twice, ← hq, hqo.2] at h
          rw [hr]
          exact h
        clear n2 n3 n4 n5 fok fa hp hpo hdp HK A L hq hqo hdq hr
        rcases g2 with g2 | ⟨g2, g5⟩
        all_goals
          obtain ⟨A, L⟩ := HG.out
          go_wp2_with fail
          refine (B1.out _ (HP.out.below L)).mono ?_
          rintro e w3 ⟨rfl, hb⟩
          replace A := A.below hb
          replace L := L.trans (hb.mono L.size)
          clear hb
          have la := A.lt
          obtain ⟨d0, d1, d2, d3⟩ := id A
          go_wp2_with fail
          clear d0 d1 d2 d3 la
          refine (B2.out _).mono ?_
          rintro e w4 ⟨rfl, hb⟩
          have B := (AtC.new w3 p.r p.g p.b 255 23).below hb
          replace A := (A.alloc _).below hb
          replace L := (L.alloc L.size _).trans (hb.mono (by have := L.size; simp; omega))
          clear hb
          obtain ⟨d0, d1, d2, d3⟩ := id B
          go_wp2_with fail
          clear d0 d1 d2 d3
          refine (B3.out _ (HP.out.below L)).mono ?_
          rintro e w5 ⟨rfl, hb⟩
          replace A := A.below hb
          replace B := B.below hb
          replace L := L.trans (hb.mono L.size)
          clear hb
          have la := A.lt
          have lb := B.lt
          obtain ⟨d0, d1, d2, d3⟩ := id A
          go_wp2_with fail
          clear d0 d1 d2 d3 la lb
          refine (B4.out _).mono ?_
          rintro e w6 ⟨rfl, hb⟩
          have C := (AtC.new w5 q.r q.g q.b 255 23).below hb
          replace A := (A.alloc _).below hb
          replace B := (B.alloc _).below hb
          replace L := (L.alloc L.size _).trans (hb.mono (by have := L.size; simp; omega))
          clear hb
          go_wp2_with fail
          have ne := gw_ne L
          have a0 := fun t => (gwC B t).1
          have a1 := fun t => (gwC B t).2.1
          have a2 := fun t => (gwC B t).2.2.1
          have a3 := fun t => (gwC B t).2.2.2
          have b0 := fun t => (gwC C t).1
          have b1 := fun t => (gwC C t).2.1
          have b2 := fun t => (gwC C t).2.2.1
          have b3 := fun t => (gwC C t).2.2.2
          have HQ : Hid (∀ t : Gw w6, Pal t.wd) := fun t => (HP.out.below L).below t.below
          have HA : Hid (AtC w6 g3 ⟨f.r, f.g, f.b, 255⟩ ∧ Below w.heap.size w w6) := ⟨A, L⟩
          clear A B C L
          refine wp_region_gw (by kernel_rfl) (by kernel_rfl) ?_
          repeat (go_big_quiet_step (first
            | (go_at_call 10; exact gw_call (B5.out _ (HQ.out _)))))
          refine wpQuiet_nil ?_
          rintro _ ⟨t, rfl⟩
          clear a0 a1 a2 a3 b0 b1 b2 b3
          go_wp2
          go_roundw
          case rel =>
            obtain ⟨A, L⟩ := HA.out
            exact ⟨k + 1, by omega, by go_num, A.below t.below, L.trans (t.below.mono L.size)⟩
          case measure => simp [intOf]; omega
    · obtain rfl : k = 256 := by omega
      go_wp2_with fail
      refine (K2.out _ (HP.out.below L)).mono ?_
      rintro e w3 ⟨rfl, hb⟩
      replace L := L.trans (hb.mono L.size)
      clear hb
      go_wp2_with fail
      refine (K5.out _ (HP.out.below L)).mono ?_
      rintro e w4 ⟨rfl, hb⟩
      replace L := L.trans (hb.mono L.size)
      clear hb
      go_wp2_with fail
      refine (K6.out _ (HP.out.below L)).mono ?_
      rintro e w5 ⟨rfl, hb⟩
      replace L := L.trans (hb.mono L.size)
      clear hb
      go_wp2_with fail
      refine (K2.out _ (HP.out.below L)).mono ?_
      rintro e w6 ⟨rfl, hb⟩
      replace L := L.trans (hb.mono L.size)
      clear hb
      go_wp2
      go_ret
      exact ⟨rfl, L⟩

end Go.Proofs.YtbppadheejdhcabDoor
