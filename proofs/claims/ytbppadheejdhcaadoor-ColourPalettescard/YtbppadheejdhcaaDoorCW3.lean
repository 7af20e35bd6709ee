/-
  Contracts of the document's answer: laid over, mixed, on black, how light, whether it can be read.
-/
import Derived.Test.YtbppadheejdhcaaDoorCW1
namespace Go.Proofs.YtbppadheejdhcaaDoor
open Go.RowKit
attribute [local go_sem] ite_max ite_min

theorem boxes_cc (w : World) (a b : Co) (t t' : TypeId) : AtC ((w.alloc (.cells #[.int .u8 a.r, .int .u8 a.g, .int .u8 a.b, .int .u8 a.a] t)).alloc (.cells #[.int .u8 b.r, .int .u8 b.g, .int .u8 b.b, .int .u8 b.a] t')) w.heap.size a ∧
    AtC ((w.alloc (.cells #[.int .u8 a.r, .int .u8 a.g, .int .u8 a.b, .int .u8 a.a] t)).alloc (.cells #[.int .u8 b.r, .int .u8 b.g, .int .u8 b.b, .int .u8 b.a] t')) (w.heap.size + 1) b ∧
    Below w.heap.size w ((w.alloc (.cells #[.int .u8 a.r, .int .u8 a.g, .int .u8 a.b, .int .u8 a.a] t)).alloc (.cells #[.int .u8 b.r, .int .u8 b.g, .int .u8 b.b, .int .u8 b.a] t')) := by
  have B := AtC.new (w.alloc (.cells #[.int .u8 a.r, .int .u8 a.g, .int .u8 a.b, .int .u8 a.a] t)) b.r b.g b.b b.a t'
  simp only [World.size_alloc] at B
  exact ⟨(AtC.new w a.r a.g a.b a.a t).alloc _, B, ((Below.refl _ w).alloc (Nat.le_refl _) _).alloc (by simp) _⟩

set_option maxHeartbeats 400000 in
theorem whole_any (a b : Co) (w : World) (ha : a.ok) (hb : b.ok) :
    Calls Tryd.prog 43 #[(Value.agg #[.int .u8 a.r, .int .u8 a.g, .int .u8 a.b, .int .u8 a.a]), (Value.agg #[.int .u8 b.r, .int .u8 b.g, .int .u8 b.b, .int .u8 b.a])] w fun e w' => e = .returned (.int .i64 (fro a + beh a b)) ∧ Below w.heap.size w w' := by
  obtain ⟨w1, w2, w3, w4, w5⟩ := wts ha hb
  obtain ⟨_, _, _, a1, a2⟩ := id ha
  obtain ⟨_, _, _, b1, b2⟩ := id hb
  simp only [fro, beh] at w1 w2 w3 w4 w5
  go_enter Tryd.func43, Tryd.ntmps43
  go_wp2
  go_ret
  exact ⟨rfl, ((Below.refl _ w).alloc (Nat.le_refl _) _).alloc (by simp) _⟩

set_option maxHeartbeats 400000 in
theorem laid_any (a b : Co) (x y : Int) (w : World) (ha : a.ok) (hb : b.ok) (hx : By x) (hy : By y) (h0 : a.a ≠ 0) :
    Calls Tryd.prog 42 #[(Value.agg #[.int .u8 a.r, .int .u8 a.g, .int .u8 a.b, .int .u8 a.a]), (Value.agg #[.int .u8 b.r, .int .u8 b.g, .int .u8 b.b, .int .u8 b.a]), .int .u8 x, .int .u8 y] w fun e w' => e = .returned (.int .u8 (shr x y (fro a) (beh a b))) ∧ Below w.heap.size w w' := by
  obtain ⟨w1, w2, w3, w4, w5⟩ := wts ha hb
  have w6 := wts_pos ha hb h0
  obtain ⟨s1, s2⟩ := shr_by hx hy w1 w3 w6
  obtain ⟨x1, x2⟩ := hx
  obtain ⟨y1, y2⟩ := hy
  have m1 : 0 ≤ 255 * a.a * x := Int.mul_nonneg w1 x1
  have m2 : 255 * a.a * x ≤ 65025 * 255 := Int.mul_le_mul w2 x2 x1 (by omega)
  have m3 : 0 ≤ (255 - a.a) * b.a * y := Int.mul_nonneg w3 y1
  have m4 : (255 - a.a) * b.a * y ≤ 65025 * 255 := Int.mul_le_mul w4 y2 y1 (by omega)
  obtain ⟨_, _, _, a1, a2⟩ := id ha
  obtain ⟨_, _, _, b1, b2⟩ := id hb
  have hs : Hid (shr x y (fro a) (beh a b) % 256 = shr x y (fro a) (beh a b)) := Int.emod_eq_of_lt s1 (by omega)
  clear s1 s2
  go_enter Tryd.func42, Tryd.ntmps42
  go_wp2_with fail
  refine (whole_any a b _ ha hb).mono ?_
  rintro e w1' ⟨rfl, hb1⟩
  obtain ⟨A, B, L⟩ := boxes_cc w a b 25 25
  replace A := A.below hb1
  replace B := B.below hb1
  replace L := L.trans (hb1.mono (by simp; omega))
  clear hb1
  obtain ⟨d0, d1, d2, d3⟩ := A
  obtain ⟨e0, e1, e2, e3⟩ := B
  simp only [fro, beh] at w1 w2 w3 w4 w5 w6 ⊢
  go_wp2
  go_ret
  exact ⟨congrArg (fun z => Ending.returned (.int .u8 z)) hs.out, L⟩

set_option maxHeartbeats 1000000 in
theorem rover_any (a b : Co) (w : World) (ha : a.ok) (hb : b.ok) :
    Calls Tryd.prog 39 #[(Value.agg #[.int .u8 a.r, .int .u8 a.g, .int .u8 a.b, .int .u8 a.a]), (Value.agg #[.int .u8 b.r, .int .u8 b.g, .int .u8 b.b, .int .u8 b.a])] w fun e w' => e = .returned (Value.agg #[.int .u8 (overC a b).r, .int .u8 (overC a b).g, .int .u8 (overC a b).b, .int .u8 (overC a b).a]) ∧ Below w.heap.size w w' := by
  by_cases c0 : a.a = 0
  · rw [show overC a b = b by unfold overC; rw [if_pos c0]]
    go_enter Tryd.func39, Tryd.ntmps39
    go_wp2
    exact bodyPost_ret (v := (Value.agg #[.int .u8 b.r, .int .u8 b.g, .int .u8 b.b, .int .u8 b.a])) (by simp [results, Tryd.results39, go_sem]) rfl ⟨rfl, (((Below.refl _ w).alloc (Nat.le_refl _) _).alloc (by simp) _).alloc (by simp; omega) _⟩
  · have c1 : (a.a == 0) = false := by simpa using c0
    rw [show overC a b = ⟨shr a.r b.r (fro a) (beh a b), shr a.g b.g (fro a) (beh a b), shr a.b b.b (fro a) (beh a b), (fro a + beh a b + 127) / 255⟩ by unfold overC; rw [if_neg c0]]
    obtain ⟨w1, w2, w3, w4, w5⟩ := wts ha hb
    have hA : Hid (a.ok ∧ b.ok) := ⟨ha, hb⟩
    have hS : Hid (∀ x y w, By x → By y → Calls Tryd.prog 42 #[(Value.agg #[.int .u8 a.r, .int .u8 a.g, .int .u8 a.b, .int .u8 a.a]), (Value.agg #[.int .u8 b.r, .int .u8 b.g, .int .u8 b.b, .int .u8 b.a]), .int .u8 x, .int .u8 y] w fun e w' => e = .returned (.int .u8 (shr x y (fro a) (beh a b))) ∧ Below w.heap.size w w') :=
      fun x y w hx hy => laid_any a b x y w ha hb hx hy c0
    clear ha hb c0
    generalize hf : fro a = f at *
    generalize hg : beh a b = g at *
    go_enter Tryd.func39, Tryd.ntmps39
    go_wp2_with fail
    obtain ⟨A, B, C, F, L⟩ := boxes_ccc w a b 25 25 25
    generalize hW : ((w.alloc (.cells #[.int .u8 a.r, .int .u8 a.g, .int .u8 a.b, .int .u8 a.a] 25)).alloc (.cells #[.int .u8 b.r, .int .u8 b.g, .int .u8 b.b, .int .u8 b.a] 25)).alloc (.cells #[.int .u8 0, .int .u8 0, .int .u8 0, .int .u8 0] 25) = W at *
    have HL : Hid (AtC W w.heap.size a ∧ AtC W (w.heap.size + 1) b ∧ AtC W (w.heap.size + 1 + 1) ⟨0, 0, 0, 0⟩ ∧ Fr W (w.heap.size + 1 + 1) ∧ Below w.heap.size w W) := ⟨A, B, C, F, L⟩
    have hV : Hid (∀ w, Calls Tryd.prog 43 #[(Value.agg #[.int .u8 a.r, .int .u8 a.g, .int .u8 a.b, .int .u8 a.a]), (Value.agg #[.int .u8 b.r, .int .u8 b.g, .int .u8 b.b, .int .u8 b.a])] w fun e w' => e = .returned (.int .i64 (f + g)) ∧ Below w.heap.size w w') := fun w => by
      have h := whole_any a b w hA.out.1 hA.out.2
      rw [hf, hg] at h
      exact h
    clear A B C F L hW hf hg
    refine wp_region_lit 28 0 1 (fun _ => .cells #[] 0) [] (by kernel_rfl) (by kernel_rfl) rfl (fun k hk => absurd hk (by omega)) rfl (fun i h1 h2 => absurd h2 (by omega)) ?_
    apply Exists.intro
    refine ⟨fun bs ne => ?_, ?_⟩
    · obtain ⟨HA, HB, _⟩ := HL.out
      have d0 := fun t : Gb W bs => (HA.below t.below).1
      have d1 := fun t : Gb W bs => (HA.below t.below).2.1
      have d2 := fun t : Gb W bs => (HA.below t.below).2.2.1
      have d3 := fun t : Gb W bs => (HA.below t.below).2.2.2
      have e0 := fun t : Gb W bs => (HB.below t.below).1
      have e1 := fun t : Gb W bs => (HB.below t.below).2.1
      have e2 := fun t : Gb W bs => (HB.below t.below).2.2.1
      have e3 := fun t : Gb W bs => (HB.below t.below).2.2.2
      clear HA HB
      simp only [List.take_succ_cons, List.take_zero]
      repeat (go_big_quiet_step (first
        | (go_at_call 43; exact gb_call (hV.out _))
        | (go_at_call 42; exact gb_call (hS.out _ _ _ (by first | exact hA.out.1.1 | exact hA.out.1.2.1 | exact hA.out.1.2.2.1) (by first | exact hA.out.2.1 | exact hA.out.2.2.1 | exact hA.out.2.2.2.1)))))
      exact wpQuiet_nil rfl
    · intro bl wr hb _ _
      obtain ⟨HA, HB, HC, HF, HD⟩ := HL.out
      replace HC := HC.below hb
      replace HF := (HF.below hb).2
      replace HD := HD.trans (hb.mono HD.size)
      obtain ⟨c0, c1, c2, c3⟩ := HC
      simp only [layL]
      refine wpAny_one 28 (by kernel_rfl) rfl ?_
      intro K hK
      go_simp
      refine hK _ _ ?_
      clear hK K
      refine wpAny_done (by kernel_rfl) ?_ _
      go_wp2
      exact bodyPost_ret (v := .agg #[.int .u8 _, .int .u8 _, .int .u8 _, .int .u8 _]) (by simp [results, Tryd.results39, go_sem, c0, c1, c2, c3]) rfl ⟨rfl, set4_below HD (by omega) _ _ _ _⟩

set_option maxHeartbeats 1000000 in
theorem ronBlack_any (c : Co) (w : World) (hc : c.ok) :
    Calls Tryd.prog 33 #[(Value.agg #[.int .u8 c.r, .int .u8 c.g, .int .u8 c.b, .int .u8 c.a])] w fun e w' => e = .returned (Value.agg #[.int .u8 (onB c).r, .int .u8 (onB c).g, .int .u8 (onB c).b, .int .u8 (onB c).a]) ∧ Below w.heap.size w w' := by
  go_enter Tryd.func33, Tryd.ntmps33
  go_wp2_with fail
  refine (rover_any c blackC _ hc black_ok).mono ?_
  rintro e w1 ⟨rfl, hb⟩
  have C := (AtC.new' (w.alloc _) (w.heap.size + 1) 0 0 0 0 25 (by simp)).below hb
  have F := ((fr1 w _ _ _).below hb).2
  have L := (((Below.refl w.heap.size w).alloc (Nat.le_refl _) _).alloc (by simp) _).trans (hb.mono (by simp; omega))
  clear hb
  obtain ⟨c0, c1, c2, c3⟩ := C
  go_wp2
  exact bodyPost_ret (v := .agg #[.int .u8 _, .int .u8 _, .int .u8 _, .int .u8 _]) (by simp [results, Tryd.results33, go_sem, c0, c1, c2, c3, onB]) rfl ⟨rfl, set4_below L (by omega) _ _ _ _⟩

end Go.Proofs.YtbppadheejdhcaaDoor
