/-
  Texts of this claim, one behind the other: what each is about stands ahead of it.
-/
import Derived.Test.YtcahdmfmcojaoaaGreatDoorK3
import Derived.Test.YtcahdmfmcojaoaaGreatDoorK0
import Derived.Test.YtcahdmfmcojaoaaGreatDoorK23
/-
  Contract of package geom: what a rectangle has around another one that lies in it.
-/
namespace Go.Proofs.YtcahdmfmcojaoaaGreatDoor
open Go.RowKit

theorem heap_new (w : World) (o : Obj) {b : Nat} (h : b = w.heap.size) : (w.alloc o).heap[b]? = some o := by
  subst h
  show (w.heap.push o)[w.heap.size]? = _
  simp

set_option maxRecDepth 20000 in
set_option maxHeartbeats 4000000 in
theorem around_any (ax ay aw ah mx my mw mh : Int) (w : World) (lax : -16384 ≤ ax) (uax : ax ≤ 16384) (lay : -16384 ≤ ay) (uay : ay ≤ 16384) (lmx : -16384 ≤ mx) (umx : mx ≤ 16384) (lmy : -16384 ≤ my) (umy : my ≤ 16384) (law : 0 ≤ aw) (uaw : aw ≤ 32768) (lah : 0 ≤ ah) (uah : ah ≤ 32768) (lmw : 0 ≤ mw) (umw : mw ≤ 32768) (lmh : 0 ≤ mh) (umh : mh ≤ 32768) :
    Calls Tryz.prog 163 #[.agg #[.int .i64 ax, .int .i64 ay, .int .i64 aw, .int .i64 ah], .agg #[.int .i64 mx, .int .i64 my, .int .i64 mw, .int .i64 mh]] w fun e w' => e = .returned (.agg #[.int .i64 (btw ax ay (ax + aw) my).x, .int .i64 (btw ax ay (ax + aw) my).y, .int .i64 (btw ax ay (ax + aw) my).w, .int .i64 (btw ax ay (ax + aw) my).h, .int .i64 (btw ax my mx (my + mh)).x, .int .i64 (btw ax my mx (my + mh)).y, .int .i64 (btw ax my mx (my + mh)).w, .int .i64 (btw ax my mx (my + mh)).h, .int .i64 (btw (mx + mw) my (ax + aw) (my + mh)).x, .int .i64 (btw (mx + mw) my (ax + aw) (my + mh)).y, .int .i64 (btw (mx + mw) my (ax + aw) (my + mh)).w, .int .i64 (btw (mx + mw) my (ax + aw) (my + mh)).h, .int .i64 (btw ax (my + mh) (ax + aw) (ay + ah)).x, .int .i64 (btw ax (my + mh) (ax + aw) (ay + ah)).y, .int .i64 (btw ax (my + mh) (ax + aw) (ay + ah)).w, .int .i64 (btw ax (my + mh) (ax + aw) (ay + ah)).h]) ∧ Below w.heap.size w w' := by
  have hE1 : Hid (∀ w, Calls Tryz.prog 69 #[.agg #[.int .i64 ax, .int .i64 ay, .int .i64 aw, .int .i64 ah]] w fun e w' => e = .returned (.agg #[.int .i64 (ax + aw), .int .i64 (ay + ah)]) ∧ Below w.heap.size w w') := fun w => end_any _ _ _ _ _ (by omega) (by omega) (by omega) (by omega) (by omega) (by omega) (by omega) (by omega)
  have hE2 : Hid (∀ w, Calls Tryz.prog 69 #[.agg #[.int .i64 mx, .int .i64 my, .int .i64 mw, .int .i64 mh]] w fun e w' => e = .returned (.agg #[.int .i64 (mx + mw), .int .i64 (my + mh)]) ∧ Below w.heap.size w w') := fun w => end_any _ _ _ _ _ (by omega) (by omega) (by omega) (by omega) (by omega) (by omega) (by omega) (by omega)
  have hB0 : Hid (∀ w, Calls Tryz.prog 70 #[.agg #[.int .i64 ax, .int .i64 ay], .agg #[.int .i64 (ax + aw), .int .i64 my]] w fun e w' => e = .returned (.agg #[.int .i64 (btw ax ay (ax + aw) my).x, .int .i64 (btw ax ay (ax + aw) my).y, .int .i64 (btw ax ay (ax + aw) my).w, .int .i64 (btw ax ay (ax + aw) my).h]) ∧ Below w.heap.size w w') := fun w => between_any _ _ _ _ _ (by omega) (by omega) (by omega) (by omega) (by omega) (by omega) (by omega) (by omega)
  have hB1 : Hid (∀ w, Calls Tryz.prog 70 #[.agg #[.int .i64 ax, .int .i64 my], .agg #[.int .i64 mx, .int .i64 (my + mh)]] w fun e w' => e = .returned (.agg #[.int .i64 (btw ax my mx (my + mh)).x, .int .i64 (btw ax my mx (my + mh)).y, .int .i64 (btw ax my mx (my + mh)).w, .int .i64 (btw ax my mx (my + mh)).h]) ∧ Below w.heap.size w w') := fun w => between_any _ _ _ _ _ (by omega) (by omega) (by omega) (by omega) (by omega) (by omega) (by omega) (by omega)
  have hB2 : Hid (∀ w, Calls Tryz.prog 70 #[.agg #[.int .i64 (mx + mw), .int .i64 my], .agg #[.int .i64 (ax + aw), .int .i64 (my + mh)]] w fun e w' => e = .returned (.agg #[.int .i64 (btw (mx + mw) my (ax + aw) (my + mh)).x, .int .i64 (btw (mx + mw) my (ax + aw) (my + mh)).y, .int .i64 (btw (mx + mw) my (ax + aw) (my + mh)).w, .int .i64 (btw (mx + mw) my (ax + aw) (my + mh)).h]) ∧ Below w.heap.size w w') := fun w => between_any _ _ _ _ _ (by omega) (by omega) (by omega) (by omega) (by omega) (by omega) (by omega) (by omega)
  have hB3 : Hid (∀ w, Calls Tryz.prog 70 #[.agg #[.int .i64 ax, .int .i64 (my + mh)], .agg #[.int .i64 (ax + aw), .int .i64 (ay + ah)]] w fun e w' => e = .returned (.agg #[.int .i64 (btw ax (my + mh) (ax + aw) (ay + ah)).x, .int .i64 (btw ax (my + mh) (ax + aw) (ay + ah)).y, .int .i64 (btw ax (my + mh) (ax + aw) (ay + ah)).w, .int .i64 (btw ax (my + mh) (ax + aw) (ay + ah)).h]) ∧ Below w.heap.size w w') := fun w => between_any _ _ _ _ _ (by omega) (by omega) (by omega) (by omega) (by omega) (by omega) (by omega) (by omega)
  generalize btw ax ay (ax + aw) my = o0 at *
  generalize btw ax my mx (my + mh) = o1 at *
  generalize btw (mx + mw) my (ax + aw) (my + mh) = o2 at *
  generalize btw ax (my + mh) (ax + aw) (ay + ah) = o3 at *
  generalize ax + aw = ex at *
  generalize ay + ah = ey at *
  generalize mx + mw = fx at *
  generalize my + mh = fy at *
  clear lax uax lay uay lmx umx lmy umy law uaw lah uah lmw umw lmh umh
  go_enter Tryz.func163, Tryz.ntmps163
  go_upto_region 1 with fail
  have A := ((At4.new w ax ay aw ah 56).alloc (.cells #[.int .i64 mx, .int .i64 my, .int .i64 mw, .int .i64 mh] 56)).alloc (.cells #[.int .i64 0, .int .i64 0, .int .i64 0, .int .i64 0, .int .i64 0, .int .i64 0, .int .i64 0, .int .i64 0, .int .i64 0, .int .i64 0, .int .i64 0, .int .i64 0, .int .i64 0, .int .i64 0, .int .i64 0, .int .i64 0] 222)
  have M := (At4.new' (w.alloc (.cells #[.int .i64 ax, .int .i64 ay, .int .i64 aw, .int .i64 ah] 56)) (w.heap.size + 1) mx my mw mh 56 (by simp)).alloc (.cells #[.int .i64 0, .int .i64 0, .int .i64 0, .int .i64 0, .int .i64 0, .int .i64 0, .int .i64 0, .int .i64 0, .int .i64 0, .int .i64 0, .int .i64 0, .int .i64 0, .int .i64 0, .int .i64 0, .int .i64 0, .int .i64 0] 222)
  have G : (((w.alloc (.cells #[.int .i64 ax, .int .i64 ay, .int .i64 aw, .int .i64 ah] 56)).alloc (.cells #[.int .i64 mx, .int .i64 my, .int .i64 mw, .int .i64 mh] 56)).alloc (.cells #[.int .i64 0, .int .i64 0, .int .i64 0, .int .i64 0, .int .i64 0, .int .i64 0, .int .i64 0, .int .i64 0, .int .i64 0, .int .i64 0, .int .i64 0, .int .i64 0, .int .i64 0, .int .i64 0, .int .i64 0, .int .i64 0] 222)).heap[w.heap.size + 1 + 1]? = some (.cells #[.int .i64 0, .int .i64 0, .int .i64 0, .int .i64 0, .int .i64 0, .int .i64 0, .int .i64 0, .int .i64 0, .int .i64 0, .int .i64 0, .int .i64 0, .int .i64 0, .int .i64 0, .int .i64 0, .int .i64 0, .int .i64 0] 222) := by
    exact heap_new _ _ (by simp)
  have L := (((Below.refl w.heap.size w).alloc (Nat.le_refl _) (.cells #[.int .i64 ax, .int .i64 ay, .int .i64 aw, .int .i64 ah] 56)).alloc (by simp) (.cells #[.int .i64 mx, .int .i64 my, .int .i64 mw, .int .i64 mh] 56)).alloc (by simp; omega) (.cells #[.int .i64 0, .int .i64 0, .int .i64 0, .int .i64 0, .int .i64 0, .int .i64 0, .int .i64 0, .int .i64 0, .int .i64 0, .int .i64 0, .int .i64 0, .int .i64 0, .int .i64 0, .int .i64 0, .int .i64 0, .int .i64 0] 222)
  generalize ((w.alloc (.cells #[.int .i64 ax, .int .i64 ay, .int .i64 aw, .int .i64 ah] 56)).alloc (.cells #[.int .i64 mx, .int .i64 my, .int .i64 mw, .int .i64 mh] 56)).alloc (.cells #[.int .i64 0, .int .i64 0, .int .i64 0, .int .i64 0, .int .i64 0, .int .i64 0, .int .i64 0, .int .i64 0, .int .i64 0, .int .i64 0, .int .i64 0, .int .i64 0, .int .i64 0, .int .i64 0, .int .i64 0, .int .i64 0] 222) = W at *
  have HL : Hid (At4 W w.heap.size ax ay aw ah ∧ At4 W (w.heap.size + 1) mx my mw mh ∧ W.heap[w.heap.size + 1 + 1]? = some (.cells #[.int .i64 0, .int .i64 0, .int .i64 0, .int .i64 0, .int .i64 0, .int .i64 0, .int .i64 0, .int .i64 0, .int .i64 0, .int .i64 0, .int .i64 0, .int .i64 0, .int .i64 0, .int .i64 0, .int .i64 0, .int .i64 0] 222) ∧ Below w.heap.size w W) := ⟨A, M, G, L⟩
  clear A M G L
  refine wp_region_lit 4 2 2 (fun _ => .cells #[.int .i64 0, .int .i64 0] 28) [5, 6] (by kernel_rfl) (by kernel_rfl) rfl ?_ rfl ?_ ?_
  · intro k hk
    have hc : k = 0 ∨ k = 1 := by omega
    rcases hc with rfl | rfl <;> rfl
  · intro i h1 h2
    have hc : i = 4 ∨ i = 5 := by omega
    rcases hc with rfl | rfl
    · exact ⟨_, rfl, rfl, fun _ _ => rfl⟩
    · exact ⟨_, rfl, rfl, fun _ _ => rfl⟩
  apply Exists.intro
  refine ⟨fun bs ne => ?_, ?_⟩
  · obtain ⟨HA, HB, _⟩ := HL.out
    have d0 := fun t : Gb W bs => (HA.below t.below).1
    have d1 := fun t : Gb W bs => (HA.below t.below).2.1
    have d2 := fun t : Gb W bs => (HA.below t.below).2.2.1
    have d3 := fun t : Gb W bs => (HA.below t.below).2.2.2
    have e0 := fun t : Gb W bs => (HB.below t.below).1
    have e1 := fun t : Gb W bs => (HB.below t.below).2.1
    have e2 := fun t : Gb W bs => (HB.below t.below).2.2.1
    have e3 := fun t : Gb W bs => (HB.below t.below).2.2.2
    clear HA HB
    simp only [List.take_succ_cons, List.take_zero]
    repeat (go_big_quiet_step (first
      | (go_at_call_of 69 (Value.agg #[.int .i64 ax, .int .i64 ay, .int .i64 aw, .int .i64 ah]); exact gb_call (hE1.out _))
      | (go_at_call_of 69 (Value.agg #[.int .i64 mx, .int .i64 my, .int .i64 mw, .int .i64 mh]); exact gb_call (hE2.out _))))
    exact wpQuiet_nil rfl
  · intro bl wr hb hlo hinj
    obtain ⟨k1, k2⟩ := hlo 4 (by omega) (by omega)
    obtain ⟨k3, k4⟩ := hlo 5 (by omega) (by omega)
    have k5 := hinj 4 5 (by omega) (by omega) (by omega) (by omega) (by omega)
    obtain ⟨c1, f1, l1⟩ := heap_cells k2
    obtain ⟨c2, f2, l2⟩ := heap_cells k4
    simp only [layL, ptr]
    generalize bl 4 = g5 at *
    generalize bl 5 = g6 at *
    clear hlo hinj k2 k4
    refine wpAny_one 6 (by kernel_rfl) rfl ?_
    intro K hK
    go_simp
    refine hK _ _ ?_
    clear hK K
    refine wpAny_one 7 (by kernel_rfl) rfl ?_
    intro K hK
    go_simp
    refine hK _ _ ?_
    clear hK K
    refine wpAny_done (by kernel_rfl) ?_ _
    obtain ⟨HA, HB, HG, HD⟩ := HL.out
    have ha := HA.lt
    have hb1 := HB.lt
    have hd := HD.size
    have z5 : At2 wr g5 0 0 := ⟨by rw [c1]; rfl, by rw [c1]; rfl⟩
    have z6 : At2 wr g6 0 0 := ⟨by rw [c2]; rfl, by rw [c2]; rfl⟩
    have gl : w.heap.size + 1 + 1 < W.heap.size := (Array.getElem?_eq_some_iff.1 HG).1
    replace HG : wr.heap[w.heap.size + 1 + 1]? = some (.cells #[.int .i64 0, .int .i64 0, .int .i64 0, .int .i64 0, .int .i64 0, .int .i64 0, .int .i64 0, .int .i64 0, .int .i64 0, .int .i64 0, .int .i64 0, .int .i64 0, .int .i64 0, .int .i64 0, .int .i64 0, .int .i64 0] 222) := by rw [hb.block _ gl]; exact HG
    have y5 := ((z5.put ex ey).set (p := ⟨g6, 0, none⟩) (.int .i64 fx) (Ne.symm k5)).set (p := ⟨g6, 1, none⟩) (.int .i64 fy) (Ne.symm k5)
    have y6 := ((z6.set (p := ⟨g5, 0, none⟩) (.int .i64 ex) k5).set (p := ⟨g5, 1, none⟩) (.int .i64 ey) k5).put fx fy
    have yA := ((((HA.below hb).set (p := ⟨g5, 0, none⟩) (.int .i64 ex) (by show g5 ≠ _; omega)).set (p := ⟨g5, 1, none⟩) (.int .i64 ey) (by show g5 ≠ _; omega)).set (p := ⟨g6, 0, none⟩) (.int .i64 fx) (by show g6 ≠ _; omega)).set (p := ⟨g6, 1, none⟩) (.int .i64 fy) (by show g6 ≠ _; omega)
    have yM := ((((HB.below hb).set (p := ⟨g5, 0, none⟩) (.int .i64 ex) (by show g5 ≠ _; omega)).set (p := ⟨g5, 1, none⟩) (.int .i64 ey) (by show g5 ≠ _; omega)).set (p := ⟨g6, 0, none⟩) (.int .i64 fx) (by show g6 ≠ _; omega)).set (p := ⟨g6, 1, none⟩) (.int .i64 fy) (by show g6 ≠ _; omega)
    have yL := ((((HD.trans (hb.mono hd)).setCell (p := ⟨g5, 0, none⟩) (by show _ ≤ g5; omega) (.int .i64 ex)).setCell (p := ⟨g5, 1, none⟩) (by show _ ≤ g5; omega) (.int .i64 ey)).setCell (p := ⟨g6, 0, none⟩) (by show _ ≤ g6; omega) (.int .i64 fx)).setCell (p := ⟨g6, 1, none⟩) (by show _ ≤ g6; omega) (.int .i64 fy)
    have yG : ((((wr.setCell ⟨g5, 0, none⟩ (.int .i64 ex)).setCell ⟨g5, 1, none⟩ (.int .i64 ey)).setCell ⟨g6, 0, none⟩ (.int .i64 fx)).setCell ⟨g6, 1, none⟩ (.int .i64 fy)).heap[w.heap.size + 1 + 1]? = some (.cells #[.int .i64 0, .int .i64 0, .int .i64 0, .int .i64 0, .int .i64 0, .int .i64 0, .int .i64 0, .int .i64 0, .int .i64 0, .int .i64 0, .int .i64 0, .int .i64 0, .int .i64 0, .int .i64 0, .int .i64 0, .int .i64 0] 222) := by
      rw [Below.heap_setCell _ _ _ _ (by show _ ≠ g6; omega), Below.heap_setCell _ _ _ _ (by show _ ≠ g6; omega), Below.heap_setCell _ _ _ _ (by show _ ≠ g5; omega), Below.heap_setCell _ _ _ _ (by show _ ≠ g5; omega)]
      exact HG
    generalize (((wr.setCell ⟨g5, 0, none⟩ (.int .i64 ex)).setCell ⟨g5, 1, none⟩ (.int .i64 ey)).setCell ⟨g6, 0, none⟩ (.int .i64 fx)).setCell ⟨g6, 1, none⟩ (.int .i64 fy) = X at *
    have HX : Hid (At4 X w.heap.size ax ay aw ah ∧ At4 X (w.heap.size + 1) mx my mw mh ∧ At2 X g5 ex ey ∧ At2 X g6 fx fy ∧ X.heap[w.heap.size + 1 + 1]? = some (.cells #[.int .i64 0, .int .i64 0, .int .i64 0, .int .i64 0, .int .i64 0, .int .i64 0, .int .i64 0, .int .i64 0, .int .i64 0, .int .i64 0, .int .i64 0, .int .i64 0, .int .i64 0, .int .i64 0, .int .i64 0, .int .i64 0] 222) ∧ Below w.heap.size w X) := ⟨yA, yM, y5, y6, yG, yL⟩
    clear HL HA HB HG HD hb ha hb1 hd z5 z6 gl y5 y6 yA yM yL yG c1 f1 l1 c2 f2 l2 k1 k3 k5 hE1 hE2
    go_upto_region 2 with fail
    refine wp_region_lit 44 0 1 (fun _ => .cells #[] 0) [] (by kernel_rfl) (by kernel_rfl) rfl (fun k hk => absurd hk (Nat.not_lt_zero _)) rfl (fun i h1 h2 => absurd h2 (by omega)) ?_
    apply Exists.intro
    refine ⟨fun bs ne => ?_, ?_⟩
    · obtain ⟨HA, HB, H5, H6, _⟩ := HX.out
      have d0 := fun t : Gb X bs => (HA.below t.below).1
      have d1 := fun t : Gb X bs => (HA.below t.below).2.1
      have d2 := fun t : Gb X bs => (HA.below t.below).2.2.1
      have d3 := fun t : Gb X bs => (HA.below t.below).2.2.2
      have e0 := fun t : Gb X bs => (HB.below t.below).1
      have e1 := fun t : Gb X bs => (HB.below t.below).2.1
      have e2 := fun t : Gb X bs => (HB.below t.below).2.2.1
      have e3 := fun t : Gb X bs => (HB.below t.below).2.2.2
      have f0 := fun t : Gb X bs => (H5.below t.below).1
      have f1 := fun t : Gb X bs => (H5.below t.below).2
      have g0 := fun t : Gb X bs => (H6.below t.below).1
      have g1 := fun t : Gb X bs => (H6.below t.below).2
      clear HA HB H5 H6
      simp only [List.take_succ_cons, List.take_zero]
      repeat (go_big_quiet_step (first
        | (go_at_call_of 70 (Value.agg #[.int .i64 ax, .int .i64 ay]); exact gb_call (hB0.out _))
        | (go_at_call_of 70 (Value.agg #[.int .i64 ax, .int .i64 my]); exact gb_call (hB1.out _))
        | (go_at_call_of 70 (Value.agg #[.int .i64 fx, .int .i64 my]); exact gb_call (hB2.out _))
        | (go_at_call_of 70 (Value.agg #[.int .i64 ax, .int .i64 fy]); exact gb_call (hB3.out _))))
      exact wpQuiet_nil rfl
    · intro bl wr hb _ _
      simp only [layL]
      obtain ⟨HA, HB, H5, H6, HG, HD⟩ := HX.out
      have gl : w.heap.size + 1 + 1 < X.heap.size := (Array.getElem?_eq_some_iff.1 HG).1
      replace HG : wr.heap[w.heap.size + 1 + 1]? = some (.cells #[.int .i64 0, .int .i64 0, .int .i64 0, .int .i64 0, .int .i64 0, .int .i64 0, .int .i64 0, .int .i64 0, .int .i64 0, .int .i64 0, .int .i64 0, .int .i64 0, .int .i64 0, .int .i64 0, .int .i64 0, .int .i64 0] 222) := by rw [hb.block _ gl]; exact HG
      replace HD := HD.trans (hb.mono HD.size)
      obtain ⟨c1, f1, l1⟩ := heap_cells HG
      clear HA HB H5 H6 hb HX hB0 hB1 hB2 hB3 gl
      refine wpAny_one 44 (by kernel_rfl) rfl ?_
      intro K hK
      go_simp
      refine hK _ _ ?_
      clear hK K
      refine wpAny_done (by kernel_rfl) ?_ _
      go_wp2
      exact bodyPost_ret (v := .agg #[.int .i64 o0.x, .int .i64 o0.y, .int .i64 o0.w, .int .i64 o0.h, .int .i64 o1.x, .int .i64 o1.y, .int .i64 o1.w, .int .i64 o1.h, .int .i64 o2.x, .int .i64 o2.y, .int .i64 o2.w, .int .i64 o2.h, .int .i64 o3.x, .int .i64 o3.y, .int .i64 o3.w, .int .i64 o3.h]) (by simp [results, Tryz.results163, go_sem, c1]) rfl ⟨rfl, (((((((((((((((HD.setCell (by show _ ≤ w.heap.size + 1 + 1; omega) _).setCell (by show _ ≤ w.heap.size + 1 + 1; omega) _).setCell (by show _ ≤ w.heap.size + 1 + 1; omega) _).setCell (by show _ ≤ w.heap.size + 1 + 1; omega) _).setCell (by show _ ≤ w.heap.size + 1 + 1; omega) _).setCell (by show _ ≤ w.heap.size + 1 + 1; omega) _).setCell (by show _ ≤ w.heap.size + 1 + 1; omega) _).setCell (by show _ ≤ w.heap.size + 1 + 1; omega) _).setCell (by show _ ≤ w.heap.size + 1 + 1; omega) _).setCell (by show _ ≤ w.heap.size + 1 + 1; omega) _).setCell (by show _ ≤ w.heap.size + 1 + 1; omega) _).setCell (by show _ ≤ w.heap.size + 1 + 1; omega) _).setCell (by show _ ≤ w.heap.size + 1 + 1; omega) _).setCell (by show _ ≤ w.heap.size + 1 + 1; omega) _).setCell (by show _ ≤ w.heap.size + 1 + 1; omega) _).setCell (by show _ ≤ w.heap.size + 1 + 1; omega) _⟩

end Go.Proofs.YtcahdmfmcojaoaaGreatDoor

/-
  Contract of package geom: what one rectangle has and another one has not, as pieces in new memory.
-/
namespace Go.Proofs.YtcahdmfmcojaoaaGreatDoor
open Go.RowKit

theorem info_rectL : (Tryz.prog.info? 56).map (fun i => (i.zero, i.size, i.bytes)) = some (some (.agg #[.int .i64 0, .int .i64 0, .int .i64 0, .int .i64 0]), 4, 32) := by kernel_rfl
theorem idx0 (a0 a1 a2 a3 a4 a5 a6 a7 a8 a9 a10 a11 a12 a13 a14 a15 : Value) (w : World) : (Instr.index 222 (.agg #[a0, a1, a2, a3, a4, a5, a6, a7, a8, a9, a10, a11, a12, a13, a14, a15]) (.int .i64 0)).run Tryz.prog w = .ok (.agg #[a0, a1, a2, a3]) w := by kernel_rfl
theorem idx1 (a0 a1 a2 a3 a4 a5 a6 a7 a8 a9 a10 a11 a12 a13 a14 a15 : Value) (w : World) : (Instr.index 222 (.agg #[a0, a1, a2, a3, a4, a5, a6, a7, a8, a9, a10, a11, a12, a13, a14, a15]) (.int .i64 1)).run Tryz.prog w = .ok (.agg #[a4, a5, a6, a7]) w := by kernel_rfl
theorem idx2 (a0 a1 a2 a3 a4 a5 a6 a7 a8 a9 a10 a11 a12 a13 a14 a15 : Value) (w : World) : (Instr.index 222 (.agg #[a0, a1, a2, a3, a4, a5, a6, a7, a8, a9, a10, a11, a12, a13, a14, a15]) (.int .i64 2)).run Tryz.prog w = .ok (.agg #[a8, a9, a10, a11]) w := by kernel_rfl
theorem idx3 (a0 a1 a2 a3 a4 a5 a6 a7 a8 a9 a10 a11 a12 a13 a14 a15 : Value) (w : World) : (Instr.index 222 (.agg #[a0, a1, a2, a3, a4, a5, a6, a7, a8, a9, a10, a11, a12, a13, a14, a15]) (.int .i64 3)).run Tryz.prog w = .ok (.agg #[a12, a13, a14, a15]) w := by kernel_rfl

theorem ownsRow_lit' {base : Nat} {e : TypeId} {size : Nat} (w : World) (cs : Array Value) (n b : Nat) (h : b = w.heap.size) (hb : base ≤ w.heap.size) (hm : n ≤ maxLen) (hs : cs.size = n * size) :
    (w.alloc (.cells cs e)).ownsRow base e size (.slice (some ⟨b, 0, none⟩) n n) n cs.toList := by
  subst h
  exact World.ownsRow_lit w cs n hb hm hs
theorem cell_four (w : World) (x y n m : Value) (t : TypeId) (b : Nat) (h : b = w.heap.size) : ∀ (j : Nat) (u : Value), [x, y, n, m][j]? = some u → (w.alloc (.cells #[x, y, n, m] t)).cell? ((⟨b, 0, none⟩ : Addr).add j) = some u := by
  intro j u hj
  subst h
  match j, hj with
  | 0, hj => simp at hj; subst hj; simp [Addr.add]
  | 1, hj => simp at hj; subst hj; simp [Addr.add]
  | 2, hj => simp at hj; subst hj; simp [Addr.add]
  | 3, hj => simp at hj; subst hj; simp [Addr.add]
def got (o0 o1 o2 o3 : Rc) (k : Nat) : List Rc := (([o0, o1, o2, o3] : List Rc).take k).filter keepB
theorem got_le (o0 o1 o2 o3 : Rc) (k : Nat) : (got o0 o1 o2 o3 k).length ≤ 4 := by
  have h := List.length_filter_le keepB (([o0, o1, o2, o3] : List Rc).take k)
  have h2 : (([o0, o1, o2, o3] : List Rc).take k).length ≤ 4 := by rw [List.length_take]; exact Nat.min_le_right _ _
  exact Nat.le_trans h h2

theorem got_y0 (o0 o1 o2 o3 : Rc) (h : keepB o0 = true) : got o0 o1 o2 o3 1 = got o0 o1 o2 o3 0 ++ [o0] := by
  unfold got
  rw [show ([o0, o1, o2, o3] : List Rc).take 1 = ([o0, o1, o2, o3] : List Rc).take 0 ++ [o0] from rfl, List.filter_append, List.filter_cons, if_pos h, List.filter_nil]
theorem got_n0 (o0 o1 o2 o3 : Rc) (h : keepB o0 = false) : got o0 o1 o2 o3 1 = got o0 o1 o2 o3 0 := by
  unfold got
  rw [show ([o0, o1, o2, o3] : List Rc).take 1 = ([o0, o1, o2, o3] : List Rc).take 0 ++ [o0] from rfl, List.filter_append, List.filter_cons, if_neg (by rw [h]; simp), List.filter_nil, List.append_nil]
theorem got_y1 (o0 o1 o2 o3 : Rc) (h : keepB o1 = true) : got o0 o1 o2 o3 2 = got o0 o1 o2 o3 1 ++ [o1] := by
  unfold got
  rw [show ([o0, o1, o2, o3] : List Rc).take 2 = ([o0, o1, o2, o3] : List Rc).take 1 ++ [o1] from rfl, List.filter_append, List.filter_cons, if_pos h, List.filter_nil]
theorem got_n1 (o0 o1 o2 o3 : Rc) (h : keepB o1 = false) : got o0 o1 o2 o3 2 = got o0 o1 o2 o3 1 := by
  unfold got
  rw [show ([o0, o1, o2, o3] : List Rc).take 2 = ([o0, o1, o2, o3] : List Rc).take 1 ++ [o1] from rfl, List.filter_append, List.filter_cons, if_neg (by rw [h]; simp), List.filter_nil, List.append_nil]
theorem got_y2 (o0 o1 o2 o3 : Rc) (h : keepB o2 = true) : got o0 o1 o2 o3 3 = got o0 o1 o2 o3 2 ++ [o2] := by
  unfold got
  rw [show ([o0, o1, o2, o3] : List Rc).take 3 = ([o0, o1, o2, o3] : List Rc).take 2 ++ [o2] from rfl, List.filter_append, List.filter_cons, if_pos h, List.filter_nil]
theorem got_n2 (o0 o1 o2 o3 : Rc) (h : keepB o2 = false) : got o0 o1 o2 o3 3 = got o0 o1 o2 o3 2 := by
  unfold got
  rw [show ([o0, o1, o2, o3] : List Rc).take 3 = ([o0, o1, o2, o3] : List Rc).take 2 ++ [o2] from rfl, List.filter_append, List.filter_cons, if_neg (by rw [h]; simp), List.filter_nil, List.append_nil]
theorem got_y3 (o0 o1 o2 o3 : Rc) (h : keepB o3 = true) : got o0 o1 o2 o3 4 = got o0 o1 o2 o3 3 ++ [o3] := by
  unfold got
  rw [show ([o0, o1, o2, o3] : List Rc).take 4 = ([o0, o1, o2, o3] : List Rc).take 3 ++ [o3] from rfl, List.filter_append, List.filter_cons, if_pos h, List.filter_nil]
theorem got_n3 (o0 o1 o2 o3 : Rc) (h : keepB o3 = false) : got o0 o1 o2 o3 4 = got o0 o1 o2 o3 3 := by
  unfold got
  rw [show ([o0, o1, o2, o3] : List Rc).take 4 = ([o0, o1, o2, o3] : List Rc).take 3 ++ [o3] from rfl, List.filter_append, List.filter_cons, if_neg (by rw [h]; simp), List.filter_nil, List.append_nil]

set_option maxHeartbeats 4000000 in
theorem less_any (ax ay aw ah bx by' bw bh : Int) (w : World) (hax : I64 ax) (hay : I64 ay) (hbx : I64 bx) (hby : I64 by') :
    Calls Tryz.prog 140 #[.agg #[.int .i64 ax, .int .i64 ay, .int .i64 aw, .int .i64 ah], .agg #[.int .i64 bx, .int .i64 by', .int .i64 bw, .int .i64 bh]] w fun e w' =>
      ∃ v, e = .returned (.tuple #[v, .int .i64 (lesE ax ay aw ah bx by' bw bh)]) ∧ w'.ownsRow w.heap.size 56 4 v (lesL ax ay aw ah bx by' bw bh).length (flat (lesL ax ay aw ah bx by' bw bh)) ∧ Below w.heap.size w w' := by
  have hka := chk_ne ax ay aw ah
  have hkb := chk_ne bx by' bw bh
  have cs : mayB ax ay aw ah = false ∨ (mayB ax ay aw ah = true ∧ mayB bx by' bw bh = false) ∨ (mayB ax ay aw ah = true ∧ mayB bx by' bw bh = true ∧ emptyB ax ay aw ah = true) ∨ (mayB ax ay aw ah = true ∧ mayB bx by' bw bh = true ∧ emptyB ax ay aw ah = false ∧ eqB (meetR ax ay aw ah bx by' bw bh) 0 0 0 0 = true) ∨ (mayB ax ay aw ah = true ∧ mayB bx by' bw bh = true ∧ emptyB ax ay aw ah = false ∧ eqB (meetR ax ay aw ah bx by' bw bh) 0 0 0 0 = false) := by
    cases mayB ax ay aw ah <;> cases mayB bx by' bw bh <;> cases emptyB ax ay aw ah <;> cases eqB (meetR ax ay aw ah bx by' bw bh) 0 0 0 0 <;> simp
  rcases cs with h1 | ⟨h1, h2⟩ | ⟨h1, h2, h3⟩ | ⟨h1, h2, h3, h4⟩ | ⟨h1, h2, h3, h4⟩
  · rw [show lesL ax ay aw ah bx by' bw bh = [] by simp [lesL, h1], show lesE ax ay aw ah bx by' bw bh = 5 by simp [lesE, h1]]
    go_enter Tryz.func140, Tryz.ntmps140
    go_wp2_with fail
    obtain ⟨A, B, L⟩ := boxes_rr w ax ay aw ah bx by' bw bh 56 56
    refine (check_any _ _ _ _ _ hax hay).mono ?_
    rintro e w1 ⟨rfl, hb⟩
    replace L := L.trans (hb.mono L.size)
    clear A B hb
    go_wp2
    go_ret2
    exact ⟨_, rfl, World.ownsRow_nil _ _ _ _, L⟩
  · rw [show lesL ax ay aw ah bx by' bw bh = [] by simp [lesL, h2], show lesE ax ay aw ah bx by' bw bh = 5 by simp [lesE, h2]]
    go_enter Tryz.func140, Tryz.ntmps140
    go_wp2_with fail
    obtain ⟨A, B, L⟩ := boxes_rr w ax ay aw ah bx by' bw bh 56 56
    refine (check_any _ _ _ _ _ hax hay).mono ?_
    rintro e w1 ⟨rfl, hb⟩
    replace B := B.below hb
    replace L := L.trans (hb.mono L.size)
    clear A hb
    obtain ⟨e0, e1, e2, e3⟩ := id B
    go_wp2_with fail
    clear e0 e1 e2 e3
    refine (check_any _ _ _ _ _ hbx hby).mono ?_
    rintro e w2 ⟨rfl, hb⟩
    replace L := L.trans (hb.mono L.size)
    clear B hb
    go_wp2
    go_ret2
    exact ⟨_, rfl, World.ownsRow_nil _ _ _ _, L⟩
  all_goals
    rw [show lesE ax ay aw ah bx by' bw bh = 0 by simp [lesE, h1, h2]]
    go_enter Tryz.func140, Tryz.ntmps140
    go_wp2_with fail
    obtain ⟨A, B, L⟩ := boxes_rr w ax ay aw ah bx by' bw bh 56 56
    refine (check_any _ _ _ _ _ hax hay).mono ?_
    rintro e w1 ⟨rfl, hb⟩
    replace A := A.below hb
    replace B := B.below hb
    replace L := L.trans (hb.mono L.size)
    clear hb
    obtain ⟨e0, e1, e2, e3⟩ := id B
    go_wp2_with fail
    clear e0 e1 e2 e3
    refine (check_any _ _ _ _ _ hbx hby).mono ?_
    rintro e w2 ⟨rfl, hb⟩
    replace A := A.below hb
    replace B := B.below hb
    replace L := L.trans (hb.mono L.size)
    clear hb
    obtain ⟨d0, d1, d2, d3⟩ := id A
    go_wp2_with fail
    clear d0 d1 d2 d3
    refine (empty_any _ _ _ _ _ hax hay).mono ?_
    rintro e w3 ⟨rfl, hb⟩
    replace A := A.below hb
    replace B := B.below hb
    replace L := L.trans (hb.mono L.size)
    clear hb
  · go_wp2
    go_ret2
    refine ⟨_, rfl, ?_, L⟩
    rw [show lesL ax ay aw ah bx by' bw bh = [] by simp [lesL, h3]]
    exact World.ownsRow_nil _ _ _ _
  all_goals
    obtain ⟨d0, d1, d2, d3⟩ := id A
    obtain ⟨e0, e1, e2, e3⟩ := id B
    go_wp2_with fail
    clear d0 d1 d2 d3 e0 e1 e2 e3
    refine (meet_any _ _ _ _ _ _ _ _ _ hax hay hbx hby).mono ?_
    rintro e w4 ⟨rfl, hb⟩
    replace A := A.below hb
    replace B := B.below hb
    replace L := L.trans (hb.mono L.size)
    clear hb
    have la := A.lt
    obtain ⟨d0, d1, d2, d3⟩ := id A
    have hq := eql_rect
    unfold eqB at h4
  · go_wp2
    go_ret2
    refine ⟨_, rfl, ?_, (L.alloc L.size _).alloc (by have := L.size; simp; omega) _⟩
    rw [show lesL ax ay aw ah bx by' bw bh = [⟨ax, ay, aw, ah⟩] by simp only [lesL, eqB, h1, h2, h3, h4]; simp]
    have hz := L.size
    exact ownsRow_lit' (w4.alloc _) #[.int .i64 ax, .int .i64 ay, .int .i64 aw, .int .i64 ah] 1 _ (by simp) (by simp; omega) (by unfold maxLen; omega) rfl
  · have hL : lesL ax ay aw ah bx by' bw bh = (pcR ax ay aw ah (meetR ax ay aw ah bx by' bw bh).x (meetR ax ay aw ah bx by' bw bh).y (meetR ax ay aw ah bx by' bw bh).w (meetR ax ay aw ah bx by' bw bh).h).filter keepB := by simp only [lesL, eqB, h1, h2, h3, h4]; simp
    obtain ⟨m1, m2, m3, m4, m5, m6, m7, m8⟩ := meet_bd (bx := bx) (by' := by') (bw := bw) (bh := bh) h3
    obtain ⟨a1, a2, a3, a4, a5, a6, a7, a8, a9, a10⟩ := bounds_of h3
    go_wp2_with fail
    clear d0 d1 d2 d3
    refine (around_any _ _ _ _ _ _ _ _ _ a1 a2 a3 a4 m1 m2 m3 m4 (by omega) a6 (by omega) a8 m5 m6 m7 m8).mono ?_
    rintro e w5 ⟨rfl, hb⟩
    replace L := (L.alloc L.size _).trans (hb.mono (by have := L.size; simp; omega))
    clear A B hb la hq h4
    unfold pcR at hL
    generalize btw ax ay (ax + aw) (meetR ax ay aw ah bx by' bw bh).y = o0 at *
    generalize btw ax (meetR ax ay aw ah bx by' bw bh).y (meetR ax ay aw ah bx by' bw bh).x ((meetR ax ay aw ah bx by' bw bh).y + (meetR ax ay aw ah bx by' bw bh).h) = o1 at *
    generalize btw ((meetR ax ay aw ah bx by' bw bh).x + (meetR ax ay aw ah bx by' bw bh).w) (meetR ax ay aw ah bx by' bw bh).y (ax + aw) ((meetR ax ay aw ah bx by' bw bh).y + (meetR ax ay aw ah bx by' bw bh).h) = o2 at *
    generalize btw ax ((meetR ax ay aw ah bx by' bw bh).y + (meetR ax ay aw ah bx by' bw bh).h) (ax + aw) (ay + ah) = o3 at *
    have HL : Hid (lesL ax ay aw ah bx by' bw bh = [o0, o1, o2, o3].filter keepB) := hL
    clear hL hka hkb h1 h2 h3 m1 m2 m3 m4 m5 m6 m7 m8 a1 a2 a3 a4 a5 a6 a7 a8 a9 a10 hax hay hbx hby
    obtain ⟨i0, hi, hz0, hz1, hz2⟩ := info_parts info_rectL
    go_wp2_with fail
    go_loopw [7, 31] (fun v i wr => ∃ k : Nat, k ≤ 4 ∧ i = .int .i64 k ∧ wr.ownsRow w.heap.size 56 4 v (got o0 o1 o2 o3 k).length (flat (got o0 o1 o2 o3 k)) ∧ Below w.heap.size w wr) (fun _ i _ => 4 - (intOf i).toNat)
    case atStart => exact ⟨0, Nat.zero_le _, rfl, World.ownsRow_nil _ _ _ _, L⟩
    case round =>
      obtain ⟨k, hk, rfl, hown, hL⟩ := hrel
      have hq := neq_rect
      have hs := hL.size
      have hc : k = 0 ∨ k = 1 ∨ k = 2 ∨ k = 3 ∨ k = 4 := by omega
      clear L
      rcases hc with rfl | rfl | rfl | rfl | rfl
      · have hx := idx0
        cases hkp : keepB o0
        · have HK : Hid (keepB o0 = false) := hkp
          unfold keepB eqB at hkp
          go_wp2
          go_roundw
          case rel => exact ⟨1, by omega, rfl, by rw [got_n0 _ _ _ _ HK.out]; exact hown.alloc _, hL.alloc hs _⟩
          case measure => simp [intOf]
        · have HK : Hid (keepB o0 = true) := hkp
          unfold keepB eqB at hkp
          go_wp2_with (at_builtin; refine wpList_append_own _ rfl _ _ 45 rfl w.heap.size 56 i0 (.agg #[.int .i64 0, .int .i64 0, .int .i64 0, .int .i64 0]) 4 32 Tryz.underlying45 hi hz0 hz1 hz2 rfl (by decide) _ _ _ rfl ((hown.alloc _).alloc _) ⟨wr.heap.size + 1, 0, none⟩ 1 1 [.int .i64 o0.x, .int .i64 o0.y, .int .i64 o0.w, .int .i64 o0.h] rfl rfl ?c1 ?c2 ?c3 ?c4 ?c5 ?_)
          case c1 => exact cell_four _ _ _ _ _ _ _ (by simp)
          case c2 => intro u hu; simp at hu; rcases hu with rfl | rfl | rfl | rfl <;> rfl
          case c3 => have := got_le o0 o1 o2 o3 0; unfold maxLen; omega
          case c4 => have := got_le o0 o1 o2 o3 0; omega
          case c5 => simp; omega
          intro v' w1 hown' hgrow _
          have hn := got_y0 o0 o1 o2 o3 HK.out
          have R : w1.ownsRow w.heap.size 56 4 v' (got o0 o1 o2 o3 1).length (flat (got o0 o1 o2 o3 1)) := by rw [hn, List.length_append, flat_append, flat_one]; exact hown'
          have R2 : Below w.heap.size w w1 := ((hL.alloc hs _).alloc (by simp; omega) _).grown hgrow (by simp; omega) (fun b hb => (hown.lt b hb).1)
          clear hown' hgrow hown hn hkp hL hs
          go_wp2
          go_roundw
          case rel => exact ⟨1, by omega, rfl, R, R2⟩
          case measure => simp [intOf]
      · have hx := idx1
        cases hkp : keepB o1
        · have HK : Hid (keepB o1 = false) := hkp
          unfold keepB eqB at hkp
          go_wp2
          go_roundw
          case rel => exact ⟨2, by omega, rfl, by rw [got_n1 _ _ _ _ HK.out]; exact hown.alloc _, hL.alloc hs _⟩
          case measure => simp [intOf]
        · have HK : Hid (keepB o1 = true) := hkp
          unfold keepB eqB at hkp
          go_wp2_with (at_builtin; refine wpList_append_own _ rfl _ _ 45 rfl w.heap.size 56 i0 (.agg #[.int .i64 0, .int .i64 0, .int .i64 0, .int .i64 0]) 4 32 Tryz.underlying45 hi hz0 hz1 hz2 rfl (by decide) _ _ _ rfl ((hown.alloc _).alloc _) ⟨wr.heap.size + 1, 0, none⟩ 1 1 [.int .i64 o1.x, .int .i64 o1.y, .int .i64 o1.w, .int .i64 o1.h] rfl rfl ?c1 ?c2 ?c3 ?c4 ?c5 ?_)
          case c1 => exact cell_four _ _ _ _ _ _ _ (by simp)
          case c2 => intro u hu; simp at hu; rcases hu with rfl | rfl | rfl | rfl <;> rfl
          case c3 => have := got_le o0 o1 o2 o3 1; unfold maxLen; omega
          case c4 => have := got_le o0 o1 o2 o3 1; omega
          case c5 => simp; omega
          intro v' w1 hown' hgrow _
          have hn := got_y1 o0 o1 o2 o3 HK.out
          have R : w1.ownsRow w.heap.size 56 4 v' (got o0 o1 o2 o3 2).length (flat (got o0 o1 o2 o3 2)) := by rw [hn, List.length_append, flat_append, flat_one]; exact hown'
          have R2 : Below w.heap.size w w1 := ((hL.alloc hs _).alloc (by simp; omega) _).grown hgrow (by simp; omega) (fun b hb => (hown.lt b hb).1)
          clear hown' hgrow hown hn hkp hL hs
          go_wp2
          go_roundw
          case rel => exact ⟨2, by omega, rfl, R, R2⟩
          case measure => simp [intOf]
      · have hx := idx2
        cases hkp : keepB o2
        · have HK : Hid (keepB o2 = false) := hkp
          unfold keepB eqB at hkp
          go_wp2
          go_roundw
          case rel => exact ⟨3, by omega, rfl, by rw [got_n2 _ _ _ _ HK.out]; exact hown.alloc _, hL.alloc hs _⟩
          case measure => simp [intOf]
        · have HK : Hid (keepB o2 = true) := hkp
          unfold keepB eqB at hkp
          go_wp2_with (at_builtin; refine wpList_append_own _ rfl _ _ 45 rfl w.heap.size 56 i0 (.agg #[.int .i64 0, .int .i64 0, .int .i64 0, .int .i64 0]) 4 32 Tryz.underlying45 hi hz0 hz1 hz2 rfl (by decide) _ _ _ rfl ((hown.alloc _).alloc _) ⟨wr.heap.size + 1, 0, none⟩ 1 1 [.int .i64 o2.x, .int .i64 o2.y, .int .i64 o2.w, .int .i64 o2.h] rfl rfl ?c1 ?c2 ?c3 ?c4 ?c5 ?_)
          case c1 => exact cell_four _ _ _ _ _ _ _ (by simp)
          case c2 => intro u hu; simp at hu; rcases hu with rfl | rfl | rfl | rfl <;> rfl
          case c3 => have := got_le o0 o1 o2 o3 2; unfold maxLen; omega
          case c4 => have := got_le o0 o1 o2 o3 2; omega
          case c5 => simp; omega
          intro v' w1 hown' hgrow _
          have hn := got_y2 o0 o1 o2 o3 HK.out
          have R : w1.ownsRow w.heap.size 56 4 v' (got o0 o1 o2 o3 3).length (flat (got o0 o1 o2 o3 3)) := by rw [hn, List.length_append, flat_append, flat_one]; exact hown'
          have R2 : Below w.heap.size w w1 := ((hL.alloc hs _).alloc (by simp; omega) _).grown hgrow (by simp; omega) (fun b hb => (hown.lt b hb).1)
          clear hown' hgrow hown hn hkp hL hs
          go_wp2
          go_roundw
          case rel => exact ⟨3, by omega, rfl, R, R2⟩
          case measure => simp [intOf]
      · have hx := idx3
        cases hkp : keepB o3
        · have HK : Hid (keepB o3 = false) := hkp
          unfold keepB eqB at hkp
          go_wp2
          go_roundw
          case rel => exact ⟨4, by omega, rfl, by rw [got_n3 _ _ _ _ HK.out]; exact hown.alloc _, hL.alloc hs _⟩
          case measure => simp [intOf]
        · have HK : Hid (keepB o3 = true) := hkp
          unfold keepB eqB at hkp
          go_wp2_with (at_builtin; refine wpList_append_own _ rfl _ _ 45 rfl w.heap.size 56 i0 (.agg #[.int .i64 0, .int .i64 0, .int .i64 0, .int .i64 0]) 4 32 Tryz.underlying45 hi hz0 hz1 hz2 rfl (by decide) _ _ _ rfl ((hown.alloc _).alloc _) ⟨wr.heap.size + 1, 0, none⟩ 1 1 [.int .i64 o3.x, .int .i64 o3.y, .int .i64 o3.w, .int .i64 o3.h] rfl rfl ?c1 ?c2 ?c3 ?c4 ?c5 ?_)
          case c1 => exact cell_four _ _ _ _ _ _ _ (by simp)
          case c2 => intro u hu; simp at hu; rcases hu with rfl | rfl | rfl | rfl <;> rfl
          case c3 => have := got_le o0 o1 o2 o3 3; unfold maxLen; omega
          case c4 => have := got_le o0 o1 o2 o3 3; omega
          case c5 => simp; omega
          intro v' w1 hown' hgrow _
          have hn := got_y3 o0 o1 o2 o3 HK.out
          have R : w1.ownsRow w.heap.size 56 4 v' (got o0 o1 o2 o3 4).length (flat (got o0 o1 o2 o3 4)) := by rw [hn, List.length_append, flat_append, flat_one]; exact hown'
          have R2 : Below w.heap.size w w1 := ((hL.alloc hs _).alloc (by simp; omega) _).grown hgrow (by simp; omega) (fun b hb => (hown.lt b hb).1)
          clear hown' hgrow hown hn hkp hL hs
          go_wp2
          go_roundw
          case rel => exact ⟨4, by omega, rfl, R, R2⟩
          case measure => simp [intOf]
      · go_wp2
        go_ret2
        refine ⟨_, rfl, ?_, hL⟩
        rw [HL.out]
        exact hown

end Go.Proofs.YtcahdmfmcojaoaaGreatDoor
