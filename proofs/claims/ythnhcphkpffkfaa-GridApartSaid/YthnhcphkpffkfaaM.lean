/-
  Contracts of package geom: areas, places, what two have together.
-/
import Derived.Test.YthnhcphkpffkfaaW1
import Derived.Test.YthnhcphkpffkfaaReg2
import Derived.BigQuiet
import Derived.Deep.RegionWith
import Derived.Deep.DeepCutAuto
namespace Go.Proofs.Ythnhcphkpffkfaa
open Go.RowKit
attribute [local go_sem] ite_max ite_min

set_option maxRecDepth 10000 in
set_option maxHeartbeats 2000000 in
theorem meet_any (ax ay aw ah bx by' bw bh : Int) (w : World) (hax : I64 ax) (hay : I64 ay) (hbx : I64 bx) (hby : I64 by') :
    Calls Try.prog 51 #[.agg #[.int .i64 ax, .int .i64 ay, .int .i64 aw, .int .i64 ah], .agg #[.int .i64 bx, .int .i64 by', .int .i64 bw, .int .i64 bh]] w fun e w' => e = .returned (.agg #[.int .i64 (meetR ax ay aw ah bx by' bw bh).x, .int .i64 (meetR ax ay aw ah bx by' bw bh).y, .int .i64 (meetR ax ay aw ah bx by' bw bh).w, .int .i64 (meetR ax ay aw ah bx by' bw bh).h]) ∧ Below w.heap.size w w' := by
  cases h1 : emptyB ax ay aw ah
  · cases h2 : emptyB bx by' bw bh
    · rw [show meetR ax ay aw ah bx by' bw bh = btw (max ax bx) (max ay by') (min (ax + aw) (bx + bw)) (min (ay + ah) (by' + bh)) by unfold meetR; rw [h1, h2]; rfl]
      obtain ⟨a1, a2, a3, a4, a5, a6, a7, a8, a9, a10⟩ := bounds_of h1
      obtain ⟨b1, b2, b3, b4, b5, b6, b7, b8, b9, b10⟩ := bounds_of h2
      go_enter Try.func51, Try.ntmps51
      go_wp2_with fail
      obtain ⟨A, B, C, L⟩ := boxes_rrr w ax ay aw ah bx by' bw bh 42 42 42
      refine (empty_any _ _ _ _ _ (by assumption) (by assumption)).mono ?_
      rintro e w1 ⟨rfl, hb⟩
      have F := (fr2 w _ _ _ _).below hb
      replace A := A.below hb
      replace B := B.below hb
      replace C := C.below hb
      replace L := L.trans (hb.mono (by simp; omega))
      clear hb
      obtain ⟨d0, d1, d2, d3⟩ := id A
      obtain ⟨e0, e1, e2, e3⟩ := id B
      go_wp2_with fail
      clear d0 d1 d2 d3 e0 e1 e2 e3
      refine (empty_any _ _ _ _ _ (by assumption) (by assumption)).mono ?_
      rintro e w2 ⟨rfl, hb⟩
      replace F := F.below hb
      replace L := L.trans (hb.mono L.size)
      replace A := A.below hb
      replace B := B.below hb
      replace C := C.below hb
      clear hb
      obtain ⟨d0, d1, d2, d3⟩ := id A
      obtain ⟨e0, e1, e2, e3⟩ := id B
      go_upto_region 3 with fail
      go_cut [5, 6] (fun s5 s6 wx => ∃ b5 b6, s5 = .pointer (some ⟨b5, 0, none⟩) ∧ s6 = .pointer (some ⟨b6, 0, none⟩) ∧ At2 wx b5 (ax + aw) (ay + ah) ∧ At2 wx b6 (bx + bw) (by' + bh) ∧ At4 wx w.heap.size ax ay aw ah ∧ At4 wx (w.heap.size + 1) bx by' bw bh ∧ At4 wx (w.heap.size + 1 + 1) 0 0 0 0 ∧ Fr wx (w.heap.size + 1 + 1) ∧ Below w.heap.size w wx)
      case first =>
        clear d0 d1 d2 d3 e0 e1 e2 e3
        have hE1 : Hid (∀ w, Calls Try.prog 70 #[.agg #[.int .i64 ax, .int .i64 ay, .int .i64 aw, .int .i64 ah]] w fun e w' => e = .returned (.agg #[.int .i64 (ax + aw), .int .i64 (ay + ah)]) ∧ Below w.heap.size w w') := fun w => end_any _ _ _ _ _ (by omega) (by omega) (by omega) (by omega) (by omega) (by omega) (by omega) (by omega)
        have hE2 : Hid (∀ w, Calls Try.prog 70 #[.agg #[.int .i64 bx, .int .i64 by', .int .i64 bw, .int .i64 bh]] w fun e w' => e = .returned (.agg #[.int .i64 (bx + bw), .int .i64 (by' + bh)]) ∧ Below w.heap.size w w') := fun w => end_any _ _ _ _ _ (by omega) (by omega) (by omega) (by omega) (by omega) (by omega) (by omega) (by omega)
        have HL : Hid (At4 w2 w.heap.size ax ay aw ah ∧ At4 w2 (w.heap.size + 1) bx by' bw bh ∧ At4 w2 (w.heap.size + 1 + 1) 0 0 0 0 ∧ Fr w2 (w.heap.size + 1 + 1) ∧ Below w.heap.size w w2) := ⟨A, B, C, F, L⟩
        clear hax hay hbx hby h1 h2 a1 a2 a3 a4 a5 a6 a7 a8 a9 a10 b1 b2 b3 b4 b5 b6 b7 b8 b9 b10 A B C F L
        refine wp_region_lit 4 2 2 (fun _ => .cells #[.int .i64 0, .int .i64 0] 40) [5, 6] (by kernel_rfl) (by kernel_rfl) rfl ?_ rfl ?_ ?_
        · intro k hk
          have hc : k = 0 ∨ k = 1 := by omega
          rcases hc with rfl | rfl <;> rfl
        · intro i h1 h2
          have hc : i = 4 ∨ i = 5 := by omega
          rcases hc with rfl | rfl
          · exact ⟨_, rfl, rfl, fun _ _ => rfl⟩
          · exact ⟨_, rfl, rfl, fun _ _ => rfl⟩
        apply Exists.intro
        refine ⟨fun bs ne => ?_, ?_⟩
        · obtain ⟨HA, HB, _⟩ := HL.out
          have d0 := fun t : Gb w2 bs => (HA.below t.below).1
          have d1 := fun t : Gb w2 bs => (HA.below t.below).2.1
          have d2 := fun t : Gb w2 bs => (HA.below t.below).2.2.1
          have d3 := fun t : Gb w2 bs => (HA.below t.below).2.2.2
          have e0 := fun t : Gb w2 bs => (HB.below t.below).1
          have e1 := fun t : Gb w2 bs => (HB.below t.below).2.1
          have e2 := fun t : Gb w2 bs => (HB.below t.below).2.2.1
          have e3 := fun t : Gb w2 bs => (HB.below t.below).2.2.2
          clear HA HB
          simp only [List.take_succ_cons, List.take_zero]
          repeat (go_big_quiet_step (first
            | (go_at_call_of 70 (Value.agg #[.int .i64 ax, .int .i64 ay, .int .i64 aw, .int .i64 ah]); exact gb_call (hE1.out _))
            | (go_at_call_of 70 (Value.agg #[.int .i64 bx, .int .i64 by', .int .i64 bw, .int .i64 bh]); exact gb_call (hE2.out _))))
          exact wpQuiet_nil rfl
        · intro bl wr hb hlo hinj
          obtain ⟨k1, k2⟩ := hlo 4 (by omega) (by omega)
          obtain ⟨k3, k4⟩ := hlo 5 (by omega) (by omega)
          have k5 := hinj 4 5 (by omega) (by omega) (by omega) (by omega) (by omega)
          obtain ⟨c1, f1, l1⟩ := heap_cells k2
          obtain ⟨c2, f2, l2⟩ := heap_cells k4
          simp only [layL, ptr]
          generalize bl 4 = g5 at *
          generalize bl 5 = g6 at *
          clear hlo hinj k2 k4
          refine wpAny_one 6 (by kernel_rfl) rfl ?_
          intro K hK
          go_simp
          refine hK _ _ ?_
          clear hK K
          refine wpAny_one 7 (by kernel_rfl) rfl ?_
          intro K hK
          go_simp
          refine hK _ _ ?_
          clear hK K
          refine wpAny_done (by kernel_rfl) ?_ _
          go_wp2_with fail
          go_meet
          obtain ⟨HA, HB, HC, HF, HD⟩ := HL.out
          have ha := HA.lt
          have hb1 := HB.lt
          have hc := HC.lt
          have hd := HD.size
          have z5 : At2 wr g5 0 0 := ⟨by rw [c1]; rfl, by rw [c1]; rfl⟩
          have z6 : At2 wr g6 0 0 := ⟨by rw [c2]; rfl, by rw [c2]; rfl⟩
          exact ⟨g5, g6, rfl, rfl, ((z5.put _ _).set _ (Ne.symm k5)).set _ (Ne.symm k5), ((z6.set _ k5).set _ k5).put _ _,
            ((((HA.below hb).set _ (by show g5 ≠ _; omega)).set _ (by show g5 ≠ _; omega)).set _ (by show g6 ≠ _; omega)).set _ (by show g6 ≠ _; omega),
            ((((HB.below hb).set _ (by show g5 ≠ _; omega)).set _ (by show g5 ≠ _; omega)).set _ (by show g6 ≠ _; omega)).set _ (by show g6 ≠ _; omega),
            ((((HC.below hb).set _ (by show g5 ≠ _; omega)).set _ (by show g5 ≠ _; omega)).set _ (by show g6 ≠ _; omega)).set _ (by show g6 ≠ _; omega),
            ((((HF.below hb).set _ _).set _ _).set _ _).set _ _,
            ((((HD.trans (hb.mono hd)).setCell (by show _ ≤ g5; omega) _).setCell (by show _ ≤ g5; omega) _).setCell (by show _ ≤ g6; omega) _).setCell (by show _ ≤ g6; omega) _⟩
      case rest =>
      obtain ⟨g5, g6, rfl, rfl, E5, E6, A, B, C, F, L⟩ := hcut
      have la := A.lt
      have lb := B.lt
      have lc := C.lt
      have l5 := E5.lt
      have l6 := E6.lt
      obtain ⟨d0, d1, d2, d3⟩ := A
      obtain ⟨e0, e1, e2, e3⟩ := B
      obtain ⟨x0, x1⟩ := E5
      obtain ⟨y0, y1⟩ := E6
      go_wp2_with fail
      clear d0 d1 d2 d3 e0 e1 e2 e3 x0 x1 y0 y1 la lb lc l5 l6
      refine (between_any _ _ _ _ _ (by omega) (by omega) (by omega) (by omega) (by omega) (by omega) (by omega) (by omega)).mono ?_
      rintro e w3 ⟨rfl, hb⟩
      replace C := C.below hb
      replace F := (F.below hb).2
      replace L := L.trans (hb.mono L.size)
      clear hb
      obtain ⟨d0, d1, d2, d3⟩ := id C
      go_wp2
      exact bodyPost_ret (v := .agg #[.int .i64 _, .int .i64 _, .int .i64 _, .int .i64 _]) (by simp [results, Try.results51, go_sem, d0, d1, d2, d3]) rfl ⟨rfl, set4_below L (by omega) _ _ _ _⟩
    · rw [show meetR ax ay aw ah bx by' bw bh = zr by unfold meetR; rw [h1, h2]; rfl]
      go_enter Try.func51, Try.ntmps51
      go_wp2_with fail
      obtain ⟨A, B, C, L⟩ := boxes_rrr w ax ay aw ah bx by' bw bh 42 42 42
      refine (empty_any _ _ _ _ _ (by assumption) (by assumption)).mono ?_
      rintro e w1 ⟨rfl, hb⟩
      have F := (fr2 w _ _ _ _).below hb
      replace B := B.below hb
      replace C := C.below hb
      replace L := L.trans (hb.mono L.size)
      clear A hb
      obtain ⟨e0, e1, e2, e3⟩ := id B
      go_wp2_with fail
      clear e0 e1 e2 e3
      refine (empty_any _ _ _ _ _ (by assumption) (by assumption)).mono ?_
      rintro e w2 ⟨rfl, hb⟩
      replace F := (F.below hb).2
      replace L := L.trans (hb.mono L.size)
      replace C := C.below hb
      clear B hb
      obtain ⟨d0, d1, d2, d3⟩ := id C
      go_wp2
      exact bodyPost_ret (v := .agg #[.int .i64 0, .int .i64 0, .int .i64 0, .int .i64 0]) (by simp [results, Try.results51, go_sem, d0, d1, d2, d3]) rfl ⟨rfl, set4_below L (by omega) _ _ _ _⟩
  · rw [show meetR ax ay aw ah bx by' bw bh = zr by unfold meetR; rw [h1]; rfl]
    go_enter Try.func51, Try.ntmps51
    go_wp2_with fail
    obtain ⟨A, B, C, L⟩ := boxes_rrr w ax ay aw ah bx by' bw bh 42 42 42
    refine (empty_any _ _ _ _ _ (by assumption) (by assumption)).mono ?_
    rintro e w1 ⟨rfl, hb⟩
    have F := ((fr2 w _ _ _ _).below hb).2
    replace C := C.below hb
    replace L := L.trans (hb.mono L.size)
    clear A B hb
    obtain ⟨d0, d1, d2, d3⟩ := id C
    go_wp2
    exact bodyPost_ret (v := .agg #[.int .i64 0, .int .i64 0, .int .i64 0, .int .i64 0]) (by simp [results, Try.results51, go_sem, d0, d1, d2, d3]) rfl ⟨rfl, set4_below L (by omega) _ _ _ _⟩

end Go.Proofs.Ythnhcphkpffkfaa
