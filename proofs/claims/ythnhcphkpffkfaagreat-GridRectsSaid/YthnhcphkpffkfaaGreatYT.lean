/-
  The document's grid: Rects, where something may not be.
-/
import Derived.Test.YthnhcphkpffkfaaGreatYJ
import Derived.Test.YthnhcphkpffkfaaGreatW3
namespace Go.Proofs.YthnhcphkpffkfaaGreat
open Go.RowKit

set_option maxRecDepth 10000 in
set_option maxHeartbeats 8000000 in
theorem rRects_bad (s : List Int) (z : List Sz) (col gap : Int) (r : Rc) (sv zv : Value) (w : World) (hs : IS w sv s) (hz : KS 2 fZ w zv z) (h1 : rE1 s z col gap r ≠ 0) :
    Calls Tryz.prog 11 #[sv, zv, .int .i64 col, .int .i64 gap, .agg #[.int .i64 r.x, .int .i64 r.y, .int .i64 r.w, .int .i64 r.h]] w fun e w' => ∃ u, e = .returned (.tuple #[u, .int .i64 (rcE s z col gap r)]) ∧ Hid (OwK 29 4 fR w.heap.size w' u (rcL s z col gap r) ∧ Below w.heap.size w w') := by
  have HV : Hid (IS w sv s ∧ KS 2 fZ w zv z) := ⟨hs, hz⟩
  obtain ⟨so, sc, rfl, _, _⟩ := hs
  obtain ⟨zo, zc, rfl, _, _⟩ := hz
  have H1 : Hid (∀ W, IS W (.slice so s.length sc) s → Calls Tryz.prog 35 #[.slice so s.length sc, .int .i64 64] W fun e w' => e = .returned (.int .i64 (eaC s 64)) ∧ Below W.heap.size W w') := fun W h => (reach_any s 64 _ W h).mono fun e w' ⟨a, b⟩ => ⟨a, b ▸ Below.refl _ _⟩
  have H1m : Hid (∀ W, KS 2 fZ W (.slice zo z.length zc) z → Calls Tryz.prog 36 #[.slice zo z.length zc] W fun e w' => e = .returned (.int .i64 (szC z)) ∧ Below W.heap.size W w') := fun W h => rsized_any z _ W h
  have H2 : Hid (∀ W, Calls Tryz.prog 37 #[.int .i64 col, .int .i64 64] W fun e w' => e = .returned (.int .i64 (nuC col 64)) ∧ Below W.heap.size W w') := fun W => (rnum_any col 64 W).mono fun e w' ⟨a, b⟩ => ⟨a, b ▸ Below.refl _ _⟩
  have H3 : Hid (∀ W, Calls Tryz.prog 37 #[.int .i64 gap, .int .i64 16384] W fun e w' => e = .returned (.int .i64 (nuC gap 16384)) ∧ Below W.heap.size W w') := fun W => (rnum_any gap 16384 W).mono fun e w' ⟨a, b⟩ => ⟨a, b ▸ Below.refl _ _⟩
  have H4 : Hid (∀ W, Calls Tryz.prog 44 #[.agg #[.int .i64 r.x, .int .i64 r.y, .int .i64 r.w, .int .i64 r.h]] W fun e w' => e = .returned (.int .i64 (chk r.x r.y r.w r.h)) ∧ Below W.heap.size W w') := fun W => rcheck_any _ _ _ _ W
  have HFi : Hid (∀ x W, IS W x [eaC s 64, szC z, nuC col 64, nuC gap 16384, chk r.x r.y r.w r.h] → Calls Tryz.prog 34 #[x] W fun e w' => e = .returned (.int .i64 (rE0 s z col gap r)) ∧ w' = W) := fun x W h => rfirst_any _ x W h (by simp)
  have HE1 : Hid ((rE0 s z col gap r = 0 → rE1 s z col gap r = if z.length = s.length then 0 else 110) ∧ (rE0 s z col gap r ≠ 0 → rE1 s z col gap r = rE0 s z col gap r)) := by
    unfold rE1
    exact ⟨fun h => if_pos h, fun h => if_neg h⟩
  have e1 : rcE s z col gap r = rE1 s z col gap r := by unfold rcE; exact if_neg h1
  have e2 : rcL s z col gap r = [] := by unfold rcL; rw [e1, if_neg h1]
  rw [e1, e2]
  clear e1 e2
  generalize rE1 s z col gap r = R at *
  generalize rE0 s z col gap r = R0 at *
  generalize eaC s 64 = r1 at *
  generalize szC z = r4 at *
  generalize nuC col 64 = r2 at *
  generalize nuC gap 16384 = r3 at *
  generalize chk r.x r.y r.w r.h = r5 at *
  obtain ⟨rx, ry, rw', rh⟩ := r
  simp only at *
  go_enter Tryz.func11, Tryz.ntmps11
  go_upto_region 1 with fail
  have HB0 : Hid (Below w.heap.size w (w.alloc (.cells #[.int .i64 rx, .int .i64 ry, .int .i64 rw', .int .i64 rh] 29)) ∧ Bk (w.alloc (.cells #[.int .i64 rx, .int .i64 ry, .int .i64 rw', .int .i64 rh] 29)) w.heap.size #[.int .i64 rx, .int .i64 ry, .int .i64 rw', .int .i64 rh] 29) := ⟨(Below.refl _ _).alloc (Nat.le_refl _) _, Bk.new _ _ _⟩
  obtain ⟨W1, HW1⟩ : ∃ W1, Hid (w.alloc (.cells #[.int .i64 rx, .int .i64 ry, .int .i64 rw', .int .i64 rh] 29) = W1) := ⟨_, rfl⟩
  rw [HW1.out] at HB0 ⊢
  refine R4.wp_region_lit 10 1 2 (fun _ b => .slice (some ⟨b, 0, none⟩) 5 5) (fun _ => .cells #[.int .i64 r1, .int .i64 r4, .int .i64 r2, .int .i64 r3, .int .i64 r5] 34) [40] (by kernel_rfl) (by kernel_rfl) rfl ?_ rfl ?_
  · intro k hk
    have hc : k = 0 := by omega
    subst hc; rfl
  apply Exists.intro
  refine ⟨fun bs ne => ?_, ?_, ?_⟩
  · have q0 := fun t : Gb W1 bs => (show t.wd.cell? ⟨w.heap.size, 0, none⟩ = some (.int .i64 rx) by rw [(HB0.out.2.below t.below).cell]; rfl)
    have q1 := fun t : Gb W1 bs => (show t.wd.cell? ⟨w.heap.size, 1, none⟩ = some (.int .i64 ry) by rw [(HB0.out.2.below t.below).cell]; rfl)
    have q2 := fun t : Gb W1 bs => (show t.wd.cell? ⟨w.heap.size, 2, none⟩ = some (.int .i64 rw') by rw [(HB0.out.2.below t.below).cell]; rfl)
    have q3 := fun t : Gb W1 bs => (show t.wd.cell? ⟨w.heap.size, 3, none⟩ = some (.int .i64 rh) by rw [(HB0.out.2.below t.below).cell]; rfl)
    have HV1 : Hid (∀ t : Gb W1 bs, IS t.wd (.slice so s.length sc) s ∧ KS 2 fZ t.wd (.slice zo z.length zc) z) := fun t => ⟨(HV.out.1.below HB0.out.1).below t.below, (HV.out.2.below HB0.out.1).below t.below⟩
    simp only [List.take_succ_cons, List.take_zero]
    repeat (go_big_quiet_step (first
      | (go_at_call 35; exact gb_call (H1.out _ (HV1.out _).1))
      | (go_at_call 36; exact gb_call (H1m.out _ (HV1.out _).2))
      | (go_at_call_of 37 (Value.int .i64 col); exact gb_call (H2.out _))
      | (go_at_call_of 37 (Value.int .i64 gap); exact gb_call (H3.out _))
      | (go_at_call 44; exact gb_call (H4.out _))))
    exact wpQuiet_nil rfl
  · intro i h1 h2
    have hc : i = 10 := by omega
    subst hc
    exact ⟨_, rfl, rfl, fun _ => by kernel_rfl⟩
  intro bl wx hbl hlo _
  obtain ⟨p1, p2⟩ := hlo 10 (by omega) (by omega)
  simp only [R4.layL]
  generalize bl 10 = g0 at *
  have HIS : Hid (IS wx (.slice (some ⟨g0, 0, none⟩) 5 5) [r1, r4, r2, r3, r5]) := by
    refine ⟨_, 5, rfl, Nat.le_refl _, fun _ => ⟨g0, 0, rfl, (Array.getElem?_eq_some_iff.1 p2).1, fun i hi => ?_⟩⟩
    have hb : Bk wx g0 (flatI [r1, r4, r2, r3, r5]).toArray 34 := p2
    rw [Nat.zero_add, hb.cell, List.getElem?_toArray]
    exact flatI_at _ i hi
  have HBw : Hid (Below w.heap.size w wx) := HB0.out.1.trans (hbl.mono HB0.out.1.size)
  clear hlo p1 p2 hbl HB0 H1 H1m H2 H3 H4
  refine wpAny_one 11 (by kernel_rfl) rfl ?_
  intro K hK
  go_simp
  refine (HFi.out _ _ HIS.out).mono ?_
  rintro e w2 ⟨rfl, rfl⟩
  refine hK _ _ ?_
  clear hK K HFi HIS
  refine wpAny_one 12 (by kernel_rfl) rfl ?_
  intro K hK
  go_simp
  refine hK _ _ ?_
  clear hK K
  refine wpAny_done (by kernel_rfl) ?_ _
  by_cases h0 : R0 = 0
  · have hE := HE1.out.1 h0
    clear HE1
    subst h0
    by_cases hl : z.length = s.length
    · rw [if_pos hl] at hE
      exact absurd hE h1
    · rw [if_neg hl] at hE
      subst hE
      have il : ¬ (z.length : Int) = s.length := by omega
      go_wp2
      go_ret2
      exact ⟨_, rfl, OwK.nil _ _ _ _ _, HBw.out⟩
  · have hE := HE1.out.2 h0
    subst hE
    clear HE1
    go_wp2
    go_ret2
    exact ⟨_, rfl, OwK.nil _ _ _ _ _, HBw.out⟩

end Go.Proofs.YthnhcphkpffkfaaGreat
