/-
  Texts of this claim, one behind the other: what each is about stands ahead of it.
-/
import Derived.Test.YtleoaanjcccooaaGreatDoorK3
import Derived.Test.YtleoaanjcccooaaGreatDoorK1
import Derived.Test.YtleoaanjcccooaaGreatDoorK20
import Derived.Test.YtleoaanjcccooaaGreatDoorK2
import Derived.Test.YtleoaanjcccooaaGreatDoorK24
import Derived.Test.YtleoaanjcccooaaGreatDoorK5
import Derived.BigQuiet
import Derived.Deep.Onto
import Derived.Deep.QuietTactic
/-
  Contract of package geom: what a rectangle has around another one that lies in it.
-/
namespace Go.Proofs.YtleoaanjcccooaaGreatDoor
open Go.RowKit

theorem heap_new (w : World) (o : Obj) {b : Nat} (h : b = w.heap.size) : (w.alloc o).heap[b]? = some o := by
  subst h
  show (w.heap.push o)[w.heap.size]? = _
  simp

set_option maxRecDepth 20000 in
set_option maxHeartbeats 4000000 in
theorem around_any (ax ay aw ah mx my mw mh : Int) (w : World) (lax : -16384 ≤ ax) (uax : ax ≤ 16384) (lay : -16384 ≤ ay) (uay : ay ≤ 16384) (lmx : -16384 ≤ mx) (umx : mx ≤ 16384) (lmy : -16384 ≤ my) (umy : my ≤ 16384) (law : 0 ≤ aw) (uaw : aw ≤ 32768) (lah : 0 ≤ ah) (uah : ah ≤ 32768) (lmw : 0 ≤ mw) (umw : mw ≤ 32768) (lmh : 0 ≤ mh) (umh : mh ≤ 32768) :
    Calls Tryz.prog 153 #[.agg #[.int .i64 ax, .int .i64 ay, .int .i64 aw, .int .i64 ah], .agg #[.int .i64 mx, .int .i64 my, .int .i64 mw, .int .i64 mh]] w fun e w' => e = .returned (.agg #[.int .i64 (btw ax ay (ax + aw) my).x, .int .i64 (btw ax ay (ax + aw) my).y, .int .i64 (btw ax ay (ax + aw) my).w, .int .i64 (btw ax ay (ax + aw) my).h, .int .i64 (btw ax my mx (my + mh)).x, .int .i64 (btw ax my mx (my + mh)).y, .int .i64 (btw ax my mx (my + mh)).w, .int .i64 (btw ax my mx (my + mh)).h, .int .i64 (btw (mx + mw) my (ax + aw) (my + mh)).x, .int .i64 (btw (mx + mw) my (ax + aw) (my + mh)).y, .int .i64 (btw (mx + mw) my (ax + aw) (my + mh)).w, .int .i64 (btw (mx + mw) my (ax + aw) (my + mh)).h, .int .i64 (btw ax (my + mh) (ax + aw) (ay + ah)).x, .int .i64 (btw ax (my + mh) (ax + aw) (ay + ah)).y, .int .i64 (btw ax (my + mh) (ax + aw) (ay + ah)).w, .int .i64 (btw ax (my + mh) (ax + aw) (ay + ah)).h]) ∧ Below w.heap.size w w' := by
  have hE1 : Hid (∀ w, Calls Tryz.prog 58 #[.agg #[.int .i64 ax, .int .i64 ay, .int .i64 aw, .int .i64 ah]] w fun e w' => e = .returned (.agg #[.int .i64 (ax + aw), .int .i64 (ay + ah)]) ∧ Below w.heap.size w w') := fun w => end_any _ _ _ _ _ (by omega) (by omega) (by omega) (by omega) (by omega) (by omega) (by omega) (by omega)
  have hE2 : Hid (∀ w, Calls Tryz.prog 58 #[.agg #[.int .i64 mx, .int .i64 my, .int .i64 mw, .int .i64 mh]] w fun e w' => e = .returned (.agg #[.int .i64 (mx + mw), .int .i64 (my + mh)]) ∧ Below w.heap.size w w') := fun w => end_any _ _ _ _ _ (by omega) (by omega) (by omega) (by omega) (by omega) (by omega) (by omega) (by omega)
  have hB0 : Hid (∀ w, Calls Tryz.prog 59 #[.agg #[.int .i64 ax, .int .i64 ay], .agg #[.int .i64 (ax + aw), .int .i64 my]] w fun e w' => e = .returned (.agg #[.int .i64 (btw ax ay (ax + aw) my).x, .int .i64 (btw ax ay (ax + aw) my).y, .int .i64 (btw ax ay (ax + aw) my).w, .int .i64 (btw ax ay (ax + aw) my).h]) ∧ Below w.heap.size w w') := fun w => between_any _ _ _ _ _ (by omega) (by omega) (by omega) (by omega) (by omega) (by omega) (by omega) (by omega)
  have hB1 : Hid (∀ w, Calls Tryz.prog 59 #[.agg #[.int .i64 ax, .int .i64 my], .agg #[.int .i64 mx, .int .i64 (my + mh)]] w fun e w' => e = .returned (.agg #[.int .i64 (btw ax my mx (my + mh)).x, .int .i64 (btw ax my mx (my + mh)).y, .int .i64 (btw ax my mx (my + mh)).w, .int .i64 (btw ax my mx (my + mh)).h]) ∧ Below w.heap.size w w') := fun w => between_any _ _ _ _ _ (by omega) (by omega) (by omega) (by omega) (by omega) (by omega) (by omega) (by omega)
  have hB2 : Hid (∀ w, Calls Tryz.prog 59 #[.agg #[.int .i64 (mx + mw), .int .i64 my], .agg #[.int .i64 (ax + aw), .int .i64 (my + mh)]] w fun e w' => e = .returned (.agg #[.int .i64 (btw (mx + mw) my (ax + aw) (my + mh)).x, .int .i64 (btw (mx + mw) my (ax + aw) (my + mh)).y, .int .i64 (btw (mx + mw) my (ax + aw) (my + mh)).w, .int .i64 (btw (mx + mw) my (ax + aw) (my + mh)).h]) ∧ Below w.heap.size w w') := fun w => between_any _ _ _ _ _ (by omega) (by omega) (by omega) (by omega) (by omega) (by omega) (by omega) (by omega)
  have hB3 : Hid (∀ w, Calls Tryz.prog 59 #[.agg #[.int .i64 ax, .int .i64 (my + mh)], .agg #[.int .i64 (ax + aw), .int .i64 (ay + ah)]] w fun e w' => e = .returned (.agg #[.int .i64 (btw ax (my + mh) (ax + aw) (ay + ah)).x, .int .i64 (btw ax (my + mh) (ax + aw) (ay + ah)).y, .int .i64 (btw ax (my + mh) (ax + aw) (ay + ah)).w, .int .i64 (btw ax (my + mh) (ax + aw) (ay + ah)).h]) ∧ Below w.heap.size w w') := fun w => between_any _ _ _ _ _ (by omega) (by omega) (by omega) (by omega) (by omega) (by omega) (by omega) (by omega)
  generalize btw ax ay (ax + aw) my = o0 at *
  generalize btw ax my mx (my + mh) = o1 at *
  generalize btw (mx + mw) my (ax + aw) (my + mh) = o2 at *
  generalize btw ax (my + mh) (ax + aw) (ay + ah) = o3 at *
  generalize ax + aw = ex at *
  generalize ay + ah = ey at *
  generalize mx + mw = fx at *
  generalize my + mh = fy at *
  clear lax uax lay uay lmx umx lmy umy law uaw lah uah lmw umw lmh umh
  go_enter Tryz.func153, Tryz.ntmps153
  go_upto_region 1 with fail
  have A := ((At4.new w ax ay aw ah 55).alloc (.cells #[.int .i64 mx, .int .i64 my, .int .i64 mw, .int .i64 mh] 55)).alloc (.cells #[.int .i64 0, .int .i64 0, .int .i64 0, .int .i64 0, .int .i64 0, .int .i64 0, .int .i64 0, .int .i64 0, .int .i64 0, .int .i64 0, .int .i64 0, .int .i64 0, .int .i64 0, .int .i64 0, .int .i64 0, .int .i64 0] 223)
  have M := (At4.new' (w.alloc (.cells #[.int .i64 ax, .int .i64 ay, .int .i64 aw, .int .i64 ah] 55)) (w.heap.size + 1) mx my mw mh 55 (by simp)).alloc (.cells #[.int .i64 0, .int .i64 0, .int .i64 0, .int .i64 0, .int .i64 0, .int .i64 0, .int .i64 0, .int .i64 0, .int .i64 0, .int .i64 0, .int .i64 0, .int .i64 0, .int .i64 0, .int .i64 0, .int .i64 0, .int .i64 0] 223)
  have G : (((w.alloc (.cells #[.int .i64 ax, .int .i64 ay, .int .i64 aw, .int .i64 ah] 55)).alloc (.cells #[.int .i64 mx, .int .i64 my, .int .i64 mw, .int .i64 mh] 55)).alloc (.cells #[.int .i64 0, .int .i64 0, .int .i64 0, .int .i64 0, .int .i64 0, .int .i64 0, .int .i64 0, .int .i64 0, .int .i64 0, .int .i64 0, .int .i64 0, .int .i64 0, .int .i64 0, .int .i64 0, .int .i64 0, .int .i64 0] 223)).heap[w.heap.size + 1 + 1]? = some (.cells #[.int .i64 0, .int .i64 0, .int .i64 0, .int .i64 0, .int .i64 0, .int .i64 0, .int .i64 0, .int .i64 0, .int .i64 0, .int .i64 0, .int .i64 0, .int .i64 0, .int .i64 0, .int .i64 0, .int .i64 0, .int .i64 0] 223) := by
    exact heap_new _ _ (by simp)
  have L := (((Below.refl w.heap.size w).alloc (Nat.le_refl _) (.cells #[.int .i64 ax, .int .i64 ay, .int .i64 aw, .int .i64 ah] 55)).alloc (by simp) (.cells #[.int .i64 mx, .int .i64 my, .int .i64 mw, .int .i64 mh] 55)).alloc (by simp; omega) (.cells #[.int .i64 0, .int .i64 0, .int .i64 0, .int .i64 0, .int .i64 0, .int .i64 0, .int .i64 0, .int .i64 0, .int .i64 0, .int .i64 0, .int .i64 0, .int .i64 0, .int .i64 0, .int .i64 0, .int .i64 0, .int .i64 0] 223)
  generalize ((w.alloc (.cells #[.int .i64 ax, .int .i64 ay, .int .i64 aw, .int .i64 ah] 55)).alloc (.cells #[.int .i64 mx, .int .i64 my, .int .i64 mw, .int .i64 mh] 55)).alloc (.cells #[.int .i64 0, .int .i64 0, .int .i64 0, .int .i64 0, .int .i64 0, .int .i64 0, .int .i64 0, .int .i64 0, .int .i64 0, .int .i64 0, .int .i64 0, .int .i64 0, .int .i64 0, .int .i64 0, .int .i64 0, .int .i64 0] 223) = W at *
  have HL : Hid (At4 W w.heap.size ax ay aw ah ∧ At4 W (w.heap.size + 1) mx my mw mh ∧ W.heap[w.heap.size + 1 + 1]? = some (.cells #[.int .i64 0, .int .i64 0, .int .i64 0, .int .i64 0, .int .i64 0, .int .i64 0, .int .i64 0, .int .i64 0, .int .i64 0, .int .i64 0, .int .i64 0, .int .i64 0, .int .i64 0, .int .i64 0, .int .i64 0, .int .i64 0] 223) ∧ Below w.heap.size w W) := ⟨A, M, G, L⟩
  clear A M G L
  refine wp_region_lit 4 2 2 (fun _ => .cells #[.int .i64 0, .int .i64 0] 41) [5, 6] (by kernel_rfl) (by kernel_rfl) rfl ?_ rfl ?_ ?_
  · intro k hk
    have hc : k = 0 ∨ k = 1 := by omega
    rcases hc with rfl | rfl <;> rfl
  · intro i h1 h2
    have hc : i = 4 ∨ i = 5 := by omega
    rcases hc with rfl | rfl
    · exact ⟨_, rfl, rfl, fun _ _ => rfl⟩
    · exact ⟨_, rfl, rfl, fun _ _ => rfl⟩
  apply Exists.intro
  refine ⟨fun bs ne => ?_, ?_⟩
  · obtain ⟨HA, HB, _⟩ := HL.out
    have d0 := fun t : Gb W bs => (HA.below t.below).1
    have d1 := fun t : Gb W bs => (HA.below t.below).2.1
    have d2 := fun t : Gb W bs => (HA.below t.below).2.2.1
    have d3 := fun t : Gb W bs => (HA.below t.below).2.2.2
    have e0 := fun t : Gb W bs => (HB.below t.below).1
    have e1 := fun t : Gb W bs => (HB.below t.below).2.1
    have e2 := fun t : Gb W bs => (HB.below t.below).2.2.1
    have e3 := fun t : Gb W bs => (HB.below t.below).2.2.2
    clear HA HB
    simp only [List.take_succ_cons, List.take_zero]
    repeat (go_big_quiet_step (first
      | (go_at_call_of 58 (Value.agg #[.int .i64 ax, .int .i64 ay, .int .i64 aw, .int .i64 ah]); exact gb_call (hE1.out _))
      | (go_at_call_of 58 (Value.agg #[.int .i64 mx, .int .i64 my, .int .i64 mw, .int .i64 mh]); exact gb_call (hE2.out _))))
    exact wpQuiet_nil rfl
  · intro bl wr hb hlo hinj
    obtain ⟨k1, k2⟩ := hlo 4 (by omega) (by omega)
    obtain ⟨k3, k4⟩ := hlo 5 (by omega) (by omega)
    have k5 := hinj 4 5 (by omega) (by omega) (by omega) (by omega) (by omega)
    obtain ⟨c1, f1, l1⟩ := heap_cells k2
    obtain ⟨c2, f2, l2⟩ := heap_cells k4
    simp only [layL, ptr]
    generalize bl 4 = g5 at *
    generalize bl 5 = g6 at *
    clear hlo hinj k2 k4
    refine wpAny_one 6 (by kernel_rfl) rfl ?_
    intro K hK
    go_simp
    refine hK _ _ ?_
    clear hK K
    refine wpAny_one 7 (by kernel_rfl) rfl ?_
    intro K hK
    go_simp
    refine hK _ _ ?_
    clear hK K
    refine wpAny_done (by kernel_rfl) ?_ _
    obtain ⟨HA, HB, HG, HD⟩ := HL.out
    have ha := HA.lt
    have hb1 := HB.lt
    have hd := HD.size
    have z5 : At2 wr g5 0 0 := ⟨by rw [c1]; rfl, by rw [c1]; rfl⟩
    have z6 : At2 wr g6 0 0 := ⟨by rw [c2]; rfl, by rw [c2]; rfl⟩
    have gl : w.heap.size + 1 + 1 < W.heap.size := (Array.getElem?_eq_some_iff.1 HG).1
    replace HG : wr.heap[w.heap.size + 1 + 1]? = some (.cells #[.int .i64 0, .int .i64 0, .int .i64 0, .int .i64 0, .int .i64 0, .int .i64 0, .int .i64 0, .int .i64 0, .int .i64 0, .int .i64 0, .int .i64 0, .int .i64 0, .int .i64 0, .int .i64 0, .int .i64 0, .int .i64 0] 223) := by rw [hb.block _ gl]; exact HG
    have y5 := ((z5.put ex ey).set (p := ⟨g6, 0, none⟩) (.int .i64 fx) (Ne.symm k5)).set (p := ⟨g6, 1, none⟩) (.int .i64 fy) (Ne.symm k5)
    have y6 := ((z6.set (p := ⟨g5, 0, none⟩) (.int .i64 ex) k5).set (p := ⟨g5, 1, none⟩) (.int .i64 ey) k5).put fx fy
    have yA := ((((HA.below hb).set (p := ⟨g5, 0, none⟩) (.int .i64 ex) (by show g5 ≠ _; omega)).set (p := ⟨g5, 1, none⟩) (.int .i64 ey) (by show g5 ≠ _; omega)).set (p := ⟨g6, 0, none⟩) (.int .i64 fx) (by show g6 ≠ _; omega)).set (p := ⟨g6, 1, none⟩) (.int .i64 fy) (by show g6 ≠ _; omega)
    have yM := ((((HB.below hb).set (p := ⟨g5, 0, none⟩) (.int .i64 ex) (by show g5 ≠ _; omega)).set (p := ⟨g5, 1, none⟩) (.int .i64 ey) (by show g5 ≠ _; omega)).set (p := ⟨g6, 0, none⟩) (.int .i64 fx) (by show g6 ≠ _; omega)).set (p := ⟨g6, 1, none⟩) (.int .i64 fy) (by show g6 ≠ _; omega)
    have yL := ((((HD.trans (hb.mono hd)).setCell (p := ⟨g5, 0, none⟩) (by show _ ≤ g5; omega) (.int .i64 ex)).setCell (p := ⟨g5, 1, none⟩) (by show _ ≤ g5; omega) (.int .i64 ey)).setCell (p := ⟨g6, 0, none⟩) (by show _ ≤ g6; omega) (.int .i64 fx)).setCell (p := ⟨g6, 1, none⟩) (by show _ ≤ g6; omega) (.int .i64 fy)
    have yG : ((((wr.setCell ⟨g5, 0, none⟩ (.int .i64 ex)).setCell ⟨g5, 1, none⟩ (.int .i64 ey)).setCell ⟨g6, 0, none⟩ (.int .i64 fx)).setCell ⟨g6, 1, none⟩ (.int .i64 fy)).heap[w.heap.size + 1 + 1]? = some (.cells #[.int .i64 0, .int .i64 0, .int .i64 0, .int .i64 0, .int .i64 0, .int .i64 0, .int .i64 0, .int .i64 0, .int .i64 0, .int .i64 0, .int .i64 0, .int .i64 0, .int .i64 0, .int .i64 0, .int .i64 0, .int .i64 0] 223) := by
      rw [Below.heap_setCell _ _ _ _ (by show _ ≠ g6; omega), Below.heap_setCell _ _ _ _ (by show _ ≠ g6; omega), Below.heap_setCell _ _ _ _ (by show _ ≠ g5; omega), Below.heap_setCell _ _ _ _ (by show _ ≠ g5; omega)]
      exact HG
    generalize (((wr.setCell ⟨g5, 0, none⟩ (.int .i64 ex)).setCell ⟨g5, 1, none⟩ (.int .i64 ey)).setCell ⟨g6, 0, none⟩ (.int .i64 fx)).setCell ⟨g6, 1, none⟩ (.int .i64 fy) = X at *
    have HX : Hid (At4 X w.heap.size ax ay aw ah ∧ At4 X (w.heap.size + 1) mx my mw mh ∧ At2 X g5 ex ey ∧ At2 X g6 fx fy ∧ X.heap[w.heap.size + 1 + 1]? = some (.cells #[.int .i64 0, .int .i64 0, .int .i64 0, .int .i64 0, .int .i64 0, .int .i64 0, .int .i64 0, .int .i64 0, .int .i64 0, .int .i64 0, .int .i64 0, .int .i64 0, .int .i64 0, .int .i64 0, .int .i64 0, .int .i64 0] 223) ∧ Below w.heap.size w X) := ⟨yA, yM, y5, y6, yG, yL⟩
    clear HL HA HB HG HD hb ha hb1 hd z5 z6 gl y5 y6 yA yM yL yG c1 f1 l1 c2 f2 l2 k1 k3 k5 hE1 hE2
    go_upto_region 2 with fail
    refine wp_region_lit 44 0 1 (fun _ => .cells #[] 0) [] (by kernel_rfl) (by kernel_rfl) rfl (fun k hk => absurd hk (Nat.not_lt_zero _)) rfl (fun i h1 h2 => absurd h2 (by omega)) ?_
    apply Exists.intro
    refine ⟨fun bs ne => ?_, ?_⟩
    · obtain ⟨HA, HB, H5, H6, _⟩ := HX.out
      have d0 := fun t : Gb X bs => (HA.below t.below).1
      have d1 := fun t : Gb X bs => (HA.below t.below).2.1
      have d2 := fun t : Gb X bs => (HA.below t.below).2.2.1
      have d3 := fun t : Gb X bs => (HA.below t.below).2.2.2
      have e0 := fun t : Gb X bs => (HB.below t.below).1
      have e1 := fun t : Gb X bs => (HB.below t.below).2.1
      have e2 := fun t : Gb X bs => (HB.below t.below).2.2.1
      have e3 := fun t : Gb X bs => (HB.below t.below).2.2.2
      have f0 := fun t : Gb X bs => (H5.below t.below).1
      have f1 := fun t : Gb X bs => (H5.below t.below).2
      have g0 := fun t : Gb X bs => (H6.below t.below).1
      have g1 := fun t : Gb X bs => (H6.below t.below).2
      clear HA HB H5 H6
      simp only [List.take_succ_cons, List.take_zero]
      repeat (go_big_quiet_step (first
        | (go_at_call_of 59 (Value.agg #[.int .i64 ax, .int .i64 ay]); exact gb_call (hB0.out _))
        | (go_at_call_of 59 (Value.agg #[.int .i64 ax, .int .i64 my]); exact gb_call (hB1.out _))
        | (go_at_call_of 59 (Value.agg #[.int .i64 fx, .int .i64 my]); exact gb_call (hB2.out _))
        | (go_at_call_of 59 (Value.agg #[.int .i64 ax, .int .i64 fy]); exact gb_call (hB3.out _))))
      exact wpQuiet_nil rfl
    · intro bl wr hb _ _
      simp only [layL]
      obtain ⟨HA, HB, H5, H6, HG, HD⟩ := HX.out
      have gl : w.heap.size + 1 + 1 < X.heap.size := (Array.getElem?_eq_some_iff.1 HG).1
      replace HG : wr.heap[w.heap.size + 1 + 1]? = some (.cells #[.int .i64 0, .int .i64 0, .int .i64 0, .int .i64 0, .int .i64 0, .int .i64 0, .int .i64 0, .int .i64 0, .int .i64 0, .int .i64 0, .int .i64 0, .int .i64 0, .int .i64 0, .int .i64 0, .int .i64 0, .int .i64 0] 223) := by rw [hb.block _ gl]; exact HG
      replace HD := HD.trans (hb.mono HD.size)
      obtain ⟨c1, f1, l1⟩ := heap_cells HG
      clear HA HB H5 H6 hb HX hB0 hB1 hB2 hB3 gl
      refine wpAny_one 44 (by kernel_rfl) rfl ?_
      intro K hK
      go_simp
      refine hK _ _ ?_
      clear hK K
      refine wpAny_done (by kernel_rfl) ?_ _
      go_wp2
      exact bodyPost_ret (v := .agg #[.int .i64 o0.x, .int .i64 o0.y, .int .i64 o0.w, .int .i64 o0.h, .int .i64 o1.x, .int .i64 o1.y, .int .i64 o1.w, .int .i64 o1.h, .int .i64 o2.x, .int .i64 o2.y, .int .i64 o2.w, .int .i64 o2.h, .int .i64 o3.x, .int .i64 o3.y, .int .i64 o3.w, .int .i64 o3.h]) (by simp [results, Tryz.results153, go_sem, c1]) rfl ⟨rfl, (((((((((((((((HD.setCell (by show _ ≤ w.heap.size + 1 + 1; omega) _).setCell (by show _ ≤ w.heap.size + 1 + 1; omega) _).setCell (by show _ ≤ w.heap.size + 1 + 1; omega) _).setCell (by show _ ≤ w.heap.size + 1 + 1; omega) _).setCell (by show _ ≤ w.heap.size + 1 + 1; omega) _).setCell (by show _ ≤ w.heap.size + 1 + 1; omega) _).setCell (by show _ ≤ w.heap.size + 1 + 1; omega) _).setCell (by show _ ≤ w.heap.size + 1 + 1; omega) _).setCell (by show _ ≤ w.heap.size + 1 + 1; omega) _).setCell (by show _ ≤ w.heap.size + 1 + 1; omega) _).setCell (by show _ ≤ w.heap.size + 1 + 1; omega) _).setCell (by show _ ≤ w.heap.size + 1 + 1; omega) _).setCell (by show _ ≤ w.heap.size + 1 + 1; omega) _).setCell (by show _ ≤ w.heap.size + 1 + 1; omega) _).setCell (by show _ ≤ w.heap.size + 1 + 1; omega) _).setCell (by show _ ≤ w.heap.size + 1 + 1; omega) _⟩

end Go.Proofs.YtleoaanjcccooaaGreatDoor

/-
  Contract of package geom: what one rectangle has and another one has not, as pieces in new memory.
-/
namespace Go.Proofs.YtleoaanjcccooaaGreatDoor
open Go.RowKit

theorem info_rectL : (Tryz.prog.info? 55).map (fun i => (i.zero, i.size, i.bytes)) = some (some (.agg #[.int .i64 0, .int .i64 0, .int .i64 0, .int .i64 0]), 4, 32) := by kernel_rfl
theorem idx0 (a0 a1 a2 a3 a4 a5 a6 a7 a8 a9 a10 a11 a12 a13 a14 a15 : Value) (w : World) : (Instr.index 223 (.agg #[a0, a1, a2, a3, a4, a5, a6, a7, a8, a9, a10, a11, a12, a13, a14, a15]) (.int .i64 0)).run Tryz.prog w = .ok (.agg #[a0, a1, a2, a3]) w := by kernel_rfl
theorem idx1 (a0 a1 a2 a3 a4 a5 a6 a7 a8 a9 a10 a11 a12 a13 a14 a15 : Value) (w : World) : (Instr.index 223 (.agg #[a0, a1, a2, a3, a4, a5, a6, a7, a8, a9, a10, a11, a12, a13, a14, a15]) (.int .i64 1)).run Tryz.prog w = .ok (.agg #[a4, a5, a6, a7]) w := by kernel_rfl
theorem idx2 (a0 a1 a2 a3 a4 a5 a6 a7 a8 a9 a10 a11 a12 a13 a14 a15 : Value) (w : World) : (Instr.index 223 (.agg #[a0, a1, a2, a3, a4, a5, a6, a7, a8, a9, a10, a11, a12, a13, a14, a15]) (.int .i64 2)).run Tryz.prog w = .ok (.agg #[a8, a9, a10, a11]) w := by kernel_rfl
theorem idx3 (a0 a1 a2 a3 a4 a5 a6 a7 a8 a9 a10 a11 a12 a13 a14 a15 : Value) (w : World) : (Instr.index 223 (.agg #[a0, a1, a2, a3, a4, a5, a6, a7, a8, a9, a10, a11, a12, a13, a14, a15]) (.int .i64 3)).run Tryz.prog w = .ok (.agg #[a12, a13, a14, a15]) w := by kernel_rfl

theorem ownsRow_lit' {base : Nat} {e : TypeId} {size : Nat} (w : World) (cs : Array Value) (n b : Nat) (h : b = w.heap.size) (hb : base ≤ w.heap.size) (hm : n ≤ maxLen) (hs : cs.size = n * size) :
    (w.alloc (.cells cs e)).ownsRow base e size (.slice (some ⟨b, 0, none⟩) n n) n cs.toList := by
  subst h
  exact World.ownsRow_lit w cs n hb hm hs
theorem cell_four (w : World) (x y n m : Value) (t : TypeId) (b : Nat) (h : b = w.heap.size) : ∀ (j : Nat) (u : Value), [x, y, n, m][j]? = some u → (w.alloc (.cells #[x, y, n, m] t)).cell? ((⟨b, 0, none⟩ : Addr).add j) = some u := by
  intro j u hj
  subst h
  match j, hj with
  | 0, hj => simp at hj; subst hj; simp [Addr.add]
  | 1, hj => simp at hj; subst hj; simp [Addr.add]
  | 2, hj => simp at hj; subst hj; simp [Addr.add]
  | 3, hj => simp at hj; subst hj; simp [Addr.add]
/-- The pieces gathered by the first k rounds. -/
def got (o0 o1 o2 o3 : Rc) (k : Nat) : List Rc := (([o0, o1, o2, o3] : List Rc).take k).filter keepB
theorem got_le (o0 o1 o2 o3 : Rc) (k : Nat) : (got o0 o1 o2 o3 k).length ≤ 4 := by
  have h := List.length_filter_le keepB (([o0, o1, o2, o3] : List Rc).take k)
  have h2 : (([o0, o1, o2, o3] : List Rc).take k).length ≤ 4 := by rw [List.length_take]; exact Nat.min_le_right _ _
  exact Nat.le_trans h h2

theorem got_y0 (o0 o1 o2 o3 : Rc) (h : keepB o0 = true) : got o0 o1 o2 o3 1 = got o0 o1 o2 o3 0 ++ [o0] := by
  unfold got
  rw [show ([o0, o1, o2, o3] : List Rc).take 1 = ([o0, o1, o2, o3] : List Rc).take 0 ++ [o0] from rfl, List.filter_append, List.filter_cons, if_pos h, List.filter_nil]
theorem got_n0 (o0 o1 o2 o3 : Rc) (h : keepB o0 = false) : got o0 o1 o2 o3 1 = got o0 o1 o2 o3 0 := by
  unfold got
  rw [show ([o0, o1, o2, o3] : List Rc).take 1 = ([o0, o1, o2, o3] : List Rc).take 0 ++ [o0] from rfl, List.filter_append, List.filter_cons, if_neg (by rw [h]; simp), List.filter_nil, List.append_nil]
theorem got_y1 (o0 o1 o2 o3 : Rc) (h : keepB o1 = true) : got o0 o1 o2 o3 2 = got o0 o1 o2 o3 1 ++ [o1] := by
  unfold got
  rw [show ([o0, o1, o2, o3] : List Rc).take 2 = ([o0, o1, o2, o3] : List Rc).take 1 ++ [o1] from rfl, List.filter_append, List.filter_cons, if_pos h, List.filter_nil]
theorem got_n1 (o0 o1 o2 o3 : Rc) (h : keepB o1 = false) : got o0 o1 o2 o3 2 = got o0 o1 o2 o3 1 := by
  unfold got
  rw [show ([o0, o1, o2, o3] : List Rc).take 2 = ([o0, o1, o2, o3] : List Rc).take 1 ++ [o1] from rfl, List.filter_append, List.filter_cons, if_neg (by rw [h]; simp), List.filter_nil, List.append_nil]
theorem got_y2 (o0 o1 o2 o3 : Rc) (h : keepB o2 = true) : got o0 o1 o2 o3 3 = got o0 o1 o2 o3 2 ++ [o2] := by
  unfold got
  rw [show ([o0, o1, o2, o3] : List Rc).take 3 = ([o0, o1, o2, o3] : List Rc).take 2 ++ [o2] from rfl, List.filter_append, List.filter_cons, if_pos h, List.filter_nil]
theorem got_n2 (o0 o1 o2 o3 : Rc) (h : keepB o2 = false) : got o0 o1 o2 o3 3 = got o0 o1 o2 o3 2 := by
  unfold got
  rw [show ([o0, o1, o2, o3] : List Rc).take 3 = ([o0, o1, o2, o3] : List Rc).take 2 ++ [o2] from rfl, List.filter_append, List.filter_cons, if_neg (by rw [h]; simp), List.filter_nil, List.append_nil]
theorem got_y3 (o0 o1 o2 o3 : Rc) (h : keepB o3 = true) : got o0 o1 o2 o3 4 = got o0 o1 o2 o3 3 ++ [o3] := by
  unfold got
  rw [show ([o0, o1, o2, o3] : List Rc).take 4 = ([o0, o1, o2, o3] : List Rc).take 3 ++ [o3] from rfl, List.filter_append, List.filter_cons, if_pos h, List.filter_nil]
theorem got_n3 (o0 o1 o2 o3 : Rc) (h : keepB o3 = false) : got o0 o1 o2 o3 4 = got o0 o1 o2 o3 3 := by
  unfold got
  rw [show ([o0, o1, o2, o3] : List Rc).take 4 = ([o0, o1, o2, o3] : List Rc).take 3 ++ [o3] from rfl, List.filter_append, List.filter_cons, if_neg (by rw [h]; simp), List.filter_nil, List.append_nil]

set_option maxHeartbeats 4000000 in
theorem less_any (ax ay aw ah bx by' bw bh : Int) (w : World) (hax : I64 ax) (hay : I64 ay) (hbx : I64 bx) (hby : I64 by') :
    Calls Tryz.prog 130 #[.agg #[.int .i64 ax, .int .i64 ay, .int .i64 aw, .int .i64 ah], .agg #[.int .i64 bx, .int .i64 by', .int .i64 bw, .int .i64 bh]] w fun e w' =>
      ∃ v, e = .returned (.tuple #[v, .int .i64 (lesE ax ay aw ah bx by' bw bh)]) ∧ w'.ownsRow w.heap.size 55 4 v (lesL ax ay aw ah bx by' bw bh).length (flat (lesL ax ay aw ah bx by' bw bh)) ∧ Below w.heap.size w w' := by
  have hka := chk_ne ax ay aw ah
  have hkb := chk_ne bx by' bw bh
  have cs : mayB ax ay aw ah = false ∨ (mayB ax ay aw ah = true ∧ mayB bx by' bw bh = false) ∨ (mayB ax ay aw ah = true ∧ mayB bx by' bw bh = true ∧ emptyB ax ay aw ah = true) ∨ (mayB ax ay aw ah = true ∧ mayB bx by' bw bh = true ∧ emptyB ax ay aw ah = false ∧ eqB (meetR ax ay aw ah bx by' bw bh) 0 0 0 0 = true) ∨ (mayB ax ay aw ah = true ∧ mayB bx by' bw bh = true ∧ emptyB ax ay aw ah = false ∧ eqB (meetR ax ay aw ah bx by' bw bh) 0 0 0 0 = false) := by
    cases mayB ax ay aw ah <;> cases mayB bx by' bw bh <;> cases emptyB ax ay aw ah <;> cases eqB (meetR ax ay aw ah bx by' bw bh) 0 0 0 0 <;> simp
  rcases cs with h1 | ⟨h1, h2⟩ | ⟨h1, h2, h3⟩ | ⟨h1, h2, h3, h4⟩ | ⟨h1, h2, h3, h4⟩
  · rw [show lesL ax ay aw ah bx by' bw bh = [] by simp [lesL, h1], show lesE ax ay aw ah bx by' bw bh = 5 by simp [lesE, h1]]
    go_enter Tryz.func130, Tryz.ntmps130
    go_wp2_with fail
    obtain ⟨A, B, L⟩ := boxes_rr w ax ay aw ah bx by' bw bh 55 55
    refine (check_any _ _ _ _ _ hax hay).mono ?_
    rintro e w1 ⟨rfl, hb⟩
    replace L := L.trans (hb.mono L.size)
    clear A B hb
    go_wp2
    go_ret2
    exact ⟨_, rfl, World.ownsRow_nil _ _ _ _, L⟩
  · rw [show lesL ax ay aw ah bx by' bw bh = [] by simp [lesL, h2], show lesE ax ay aw ah bx by' bw bh = 5 by simp [lesE, h2]]
    go_enter Tryz.func130, Tryz.ntmps130
    go_wp2_with fail
    obtain ⟨A, B, L⟩ := boxes_rr w ax ay aw ah bx by' bw bh 55 55
    refine (check_any _ _ _ _ _ hax hay).mono ?_
    rintro e w1 ⟨rfl, hb⟩
    replace B := B.below hb
    replace L := L.trans (hb.mono L.size)
    clear A hb
    obtain ⟨e0, e1, e2, e3⟩ := id B
    go_wp2_with fail
    clear e0 e1 e2 e3
    refine (check_any _ _ _ _ _ hbx hby).mono ?_
    rintro e w2 ⟨rfl, hb⟩
    replace L := L.trans (hb.mono L.size)
    clear B hb
    go_wp2
    go_ret2
    exact ⟨_, rfl, World.ownsRow_nil _ _ _ _, L⟩
  all_goals
    rw [show lesE ax ay aw ah bx by' bw bh = 0 by simp [lesE, h1, h2]]
    go_enter Tryz.func130, Tryz.ntmps130
    go_wp2_with fail
    obtain ⟨A, B, L⟩ := boxes_rr w ax ay aw ah bx by' bw bh 55 55
    refine (check_any _ _ _ _ _ hax hay).mono ?_
    rintro e w1 ⟨rfl, hb⟩
    replace A := A.below hb
    replace B := B.below hb
    replace L := L.trans (hb.mono L.size)
    clear hb
    obtain ⟨e0, e1, e2, e3⟩ := id B
    go_wp2_with fail
    clear e0 e1 e2 e3
    refine (check_any _ _ _ _ _ hbx hby).mono ?_
    rintro e w2 ⟨rfl, hb⟩
    replace A := A.below hb
    replace B := B.below hb
    replace L := L.trans (hb.mono L.size)
    clear hb
    obtain ⟨d0, d1, d2, d3⟩ := id A
    go_wp2_with fail
    clear d0 d1 d2 d3
    refine (empty_any _ _ _ _ _ hax hay).mono ?_
    rintro e w3 ⟨rfl, hb⟩
    replace A := A.below hb
    replace B := B.below hb
    replace L := L.trans (hb.mono L.size)
    clear hb
  · go_wp2
    go_ret2
    refine ⟨_, rfl, ?_, L⟩
    rw [show lesL ax ay aw ah bx by' bw bh = [] by simp [lesL, h3]]
    exact World.ownsRow_nil _ _ _ _
  all_goals
    obtain ⟨d0, d1, d2, d3⟩ := id A
    obtain ⟨e0, e1, e2, e3⟩ := id B
    go_wp2_with fail
    clear d0 d1 d2 d3 e0 e1 e2 e3
    refine (meet_any _ _ _ _ _ _ _ _ _ hax hay hbx hby).mono ?_
    rintro e w4 ⟨rfl, hb⟩
    replace A := A.below hb
    replace B := B.below hb
    replace L := L.trans (hb.mono L.size)
    clear hb
    have la := A.lt
    obtain ⟨d0, d1, d2, d3⟩ := id A
    have hq := eql_rect
    unfold eqB at h4
  · go_wp2
    go_ret2
    refine ⟨_, rfl, ?_, (L.alloc L.size _).alloc (by have := L.size; simp; omega) _⟩
    rw [show lesL ax ay aw ah bx by' bw bh = [⟨ax, ay, aw, ah⟩] by simp only [lesL, eqB, h1, h2, h3, h4]; simp]
    have hz := L.size
    exact ownsRow_lit' (w4.alloc _) #[.int .i64 ax, .int .i64 ay, .int .i64 aw, .int .i64 ah] 1 _ (by simp) (by simp; omega) (by unfold maxLen; omega) rfl
  · have hL : lesL ax ay aw ah bx by' bw bh = (pcR ax ay aw ah (meetR ax ay aw ah bx by' bw bh).x (meetR ax ay aw ah bx by' bw bh).y (meetR ax ay aw ah bx by' bw bh).w (meetR ax ay aw ah bx by' bw bh).h).filter keepB := by simp only [lesL, eqB, h1, h2, h3, h4]; simp
    obtain ⟨m1, m2, m3, m4, m5, m6, m7, m8⟩ := meet_bd (bx := bx) (by' := by') (bw := bw) (bh := bh) h3
    obtain ⟨a1, a2, a3, a4, a5, a6, a7, a8, a9, a10⟩ := bounds_of h3
    go_wp2_with fail
    clear d0 d1 d2 d3
    refine (around_any _ _ _ _ _ _ _ _ _ a1 a2 a3 a4 m1 m2 m3 m4 (by omega) a6 (by omega) a8 m5 m6 m7 m8).mono ?_
    rintro e w5 ⟨rfl, hb⟩
    replace L := (L.alloc L.size _).trans (hb.mono (by have := L.size; simp; omega))
    clear A B hb la hq h4
    unfold pcR at hL
    generalize btw ax ay (ax + aw) (meetR ax ay aw ah bx by' bw bh).y = o0 at *
    generalize btw ax (meetR ax ay aw ah bx by' bw bh).y (meetR ax ay aw ah bx by' bw bh).x ((meetR ax ay aw ah bx by' bw bh).y + (meetR ax ay aw ah bx by' bw bh).h) = o1 at *
    generalize btw ((meetR ax ay aw ah bx by' bw bh).x + (meetR ax ay aw ah bx by' bw bh).w) (meetR ax ay aw ah bx by' bw bh).y (ax + aw) ((meetR ax ay aw ah bx by' bw bh).y + (meetR ax ay aw ah bx by' bw bh).h) = o2 at *
    generalize btw ax ((meetR ax ay aw ah bx by' bw bh).y + (meetR ax ay aw ah bx by' bw bh).h) (ax + aw) (ay + ah) = o3 at *
    have HL : Hid (lesL ax ay aw ah bx by' bw bh = [o0, o1, o2, o3].filter keepB) := hL
    clear hL hka hkb h1 h2 h3 m1 m2 m3 m4 m5 m6 m7 m8 a1 a2 a3 a4 a5 a6 a7 a8 a9 a10 hax hay hbx hby
    obtain ⟨i0, hi, hz0, hz1, hz2⟩ := info_parts info_rectL
    go_wp2_with fail
    go_loopw [7, 31] (fun v i wr => ∃ k : Nat, k ≤ 4 ∧ i = .int .i64 k ∧ wr.ownsRow w.heap.size 55 4 v (got o0 o1 o2 o3 k).length (flat (got o0 o1 o2 o3 k)) ∧ Below w.heap.size w wr) (fun _ i _ => 4 - (intOf i).toNat)
    case atStart => exact ⟨0, Nat.zero_le _, rfl, World.ownsRow_nil _ _ _ _, L⟩
    case round =>
      obtain ⟨k, hk, rfl, hown, hL⟩ := hrel
      have hq := neq_rect
      have hs := hL.size
      have hc : k = 0 ∨ k = 1 ∨ k = 2 ∨ k = 3 ∨ k = 4 := by omega
      clear L
      rcases hc with rfl | rfl | rfl | rfl | rfl
      · have hx := idx0
        cases hkp : keepB o0
        · have HK : Hid (keepB o0 = false) := hkp
          unfold keepB eqB at hkp
          go_wp2
          go_roundw
          case rel => exact ⟨1, by omega, rfl, by rw [got_n0 _ _ _ _ HK.out]; exact hown.alloc _, hL.alloc hs _⟩
          case measure => simp [intOf]
        · have HK : Hid (keepB o0 = true) := hkp
          unfold keepB eqB at hkp
          go_wp2_with (at_builtin; refine wpList_append_own _ rfl _ _ 28 rfl w.heap.size 55 i0 (.agg #[.int .i64 0, .int .i64 0, .int .i64 0, .int .i64 0]) 4 32 Tryz.underlying28 hi hz0 hz1 hz2 rfl (by decide) _ _ _ rfl ((hown.alloc _).alloc _) ⟨wr.heap.size + 1, 0, none⟩ 1 1 [.int .i64 o0.x, .int .i64 o0.y, .int .i64 o0.w, .int .i64 o0.h] rfl rfl ?c1 ?c2 ?c3 ?c4 ?c5 ?_)
          case c1 => exact cell_four _ _ _ _ _ _ _ (by simp)
          case c2 => intro u hu; simp at hu; rcases hu with rfl | rfl | rfl | rfl <;> rfl
          case c3 => have := got_le o0 o1 o2 o3 0; unfold maxLen; omega
          case c4 => have := got_le o0 o1 o2 o3 0; omega
          case c5 => simp; omega
          intro v' w1 hown' hgrow _
          have hn := got_y0 o0 o1 o2 o3 HK.out
          have R : w1.ownsRow w.heap.size 55 4 v' (got o0 o1 o2 o3 1).length (flat (got o0 o1 o2 o3 1)) := by rw [hn, List.length_append, flat_append, flat_one]; exact hown'
          have R2 : Below w.heap.size w w1 := ((hL.alloc hs _).alloc (by simp; omega) _).grown hgrow (by simp; omega) (fun b hb => (hown.lt b hb).1)
          clear hown' hgrow hown hn hkp hL hs
          go_wp2
          go_roundw
          case rel => exact ⟨1, by omega, rfl, R, R2⟩
          case measure => simp [intOf]
      · have hx := idx1
        cases hkp : keepB o1
        · have HK : Hid (keepB o1 = false) := hkp
          unfold keepB eqB at hkp
          go_wp2
          go_roundw
          case rel => exact ⟨2, by omega, rfl, by rw [got_n1 _ _ _ _ HK.out]; exact hown.alloc _, hL.alloc hs _⟩
          case measure => simp [intOf]
        · have HK : Hid (keepB o1 = true) := hkp
          unfold keepB eqB at hkp
          go_wp2_with (at_builtin; refine wpList_append_own _ rfl _ _ 28 rfl w.heap.size 55 i0 (.agg #[.int .i64 0, .int .i64 0, .int .i64 0, .int .i64 0]) 4 32 Tryz.underlying28 hi hz0 hz1 hz2 rfl (by decide) _ _ _ rfl ((hown.alloc _).alloc _) ⟨wr.heap.size + 1, 0, none⟩ 1 1 [.int .i64 o1.x, .int .i64 o1.y, .int .i64 o1.w, .int .i64 o1.h] rfl rfl ?c1 ?c2 ?c3 ?c4 ?c5 ?_)
          case c1 => exact cell_four _ _ _ _ _ _ _ (by simp)
          case c2 => intro u hu; simp at hu; rcases hu with rfl | rfl | rfl | rfl <;> rfl
          case c3 => have := got_le o0 o1 o2 o3 1; unfold maxLen; omega
          case c4 => have := got_le o0 o1 o2 o3 1; omega
          case c5 => simp; omega
          intro v' w1 hown' hgrow _
          have hn := got_y1 o0 o1 o2 o3 HK.out
          have R : w1.ownsRow w.heap.size 55 4 v' (got o0 o1 o2 o3 2).length (flat (got o0 o1 o2 o3 2)) := by rw [hn, List.length_append, flat_append, flat_one]; exact hown'
          have R2 : Below w.heap.size w w1 := ((hL.alloc hs _).alloc (by simp; omega) _).grown hgrow (by simp; omega) (fun b hb => (hown.lt b hb).1)
          clear hown' hgrow hown hn hkp hL hs
          go_wp2
          go_roundw
          case rel => exact ⟨2, by omega, rfl, R, R2⟩
          case measure => simp [intOf]
      · have hx := idx2
        cases hkp : keepB o2
        · have HK : Hid (keepB o2 = false) := hkp
          unfold keepB eqB at hkp
          go_wp2
          go_roundw
          case rel => exact ⟨3, by omega, rfl, by rw [got_n2 _ _ _ _ HK.out]; exact hown.alloc _, hL.alloc hs _⟩
          case measure => simp [intOf]
        · have HK : Hid (keepB o2 = true) := hkp
          unfold keepB eqB at hkp
          go_wp2_with (at_builtin; refine wpList_append_own _ rfl _ _ 28 rfl w.heap.size 55 i0 (.agg #[.int .i64 0, .int .i64 0, .int .i64 0, .int .i64 0]) 4 32 Tryz.underlying28 hi hz0 hz1 hz2 rfl (by decide) _ _ _ rfl ((hown.alloc _).alloc _) ⟨wr.heap.size + 1, 0, none⟩ 1 1 [.int .i64 o2.x, .int .i64 o2.y, .int .i64 o2.w, .int .i64 o2.h] rfl rfl ?c1 ?c2 ?c3 ?c4 ?c5 ?_)
          case c1 => exact cell_four _ _ _ _ _ _ _ (by simp)
          case c2 => intro u hu; simp at hu; rcases hu with rfl | rfl | rfl | rfl <;> rfl
          case c3 => have := got_le o0 o1 o2 o3 2; unfold maxLen; omega
          case c4 => have := got_le o0 o1 o2 o3 2; omega
          case c5 => simp; omega
          intro v' w1 hown' hgrow _
          have hn := got_y2 o0 o1 o2 o3 HK.out
          have R : w1.ownsRow w.heap.size 55 4 v' (got o0 o1 o2 o3 3).length (flat (got o0 o1 o2 o3 3)) := by rw [hn, List.length_append, flat_append, flat_one]; exact hown'
          have R2 : Below w.heap.size w w1 := ((hL.alloc hs _).alloc (by simp; omega) _).grown hgrow (by simp; omega) (fun b hb => (hown.lt b hb).1)
          clear hown' hgrow hown hn hkp hL hs
          go_wp2
          go_roundw
          case rel => exact ⟨3, by omega, rfl, R, R2⟩
          case measure => simp [intOf]
      · have hx := idx3
        cases hkp : keepB o3
        · have HK : Hid (keepB o3 = false) := hkp
          unfold keepB eqB at hkp
          go_wp2
          go_roundw
          case rel => exact ⟨4, by omega, rfl, by rw [got_n3 _ _ _ _ HK.out]; exact hown.alloc _, hL.alloc hs _⟩
          case measure => simp [intOf]
        · have HK : Hid (keepB o3 = true) := hkp
          unfold keepB eqB at hkp
          go_wp2_with (at_builtin; refine wpList_append_own _ rfl _ _ 28 rfl w.heap.size 55 i0 (.agg #[.int .i64 0, .int .i64 0, .int .i64 0, .int .i64 0]) 4 32 Tryz.underlying28 hi hz0 hz1 hz2 rfl (by decide) _ _ _ rfl ((hown.alloc _).alloc _) ⟨wr.heap.size + 1, 0, none⟩ 1 1 [.int .i64 o3.x, .int .i64 o3.y, .int .i64 o3.w, .int .i64 o3.h] rfl rfl ?c1 ?c2 ?c3 ?c4 ?c5 ?_)
          case c1 => exact cell_four _ _ _ _ _ _ _ (by simp)
          case c2 => intro u hu; simp at hu; rcases hu with rfl | rfl | rfl | rfl <;> rfl
          case c3 => have := got_le o0 o1 o2 o3 3; unfold maxLen; omega
          case c4 => have := got_le o0 o1 o2 o3 3; omega
          case c5 => simp; omega
          intro v' w1 hown' hgrow _
          have hn := got_y3 o0 o1 o2 o3 HK.out
          have R : w1.ownsRow w.heap.size 55 4 v' (got o0 o1 o2 o3 4).length (flat (got o0 o1 o2 o3 4)) := by rw [hn, List.length_append, flat_append, flat_one]; exact hown'
          have R2 : Below w.heap.size w w1 := ((hL.alloc hs _).alloc (by simp; omega) _).grown hgrow (by simp; omega) (fun b hb => (hown.lt b hb).1)
          clear hown' hgrow hown hn hkp hL hs
          go_wp2
          go_roundw
          case rel => exact ⟨4, by omega, rfl, R, R2⟩
          case measure => simp [intOf]
      · go_wp2
        go_ret2
        refine ⟨_, rfl, ?_, hL⟩
        rw [HL.out]
        exact hown

end Go.Proofs.YtleoaanjcccooaaGreatDoor

/-
  Contracts of package geom: a rectangle inset, moved; a size within it.
-/
namespace Go.Proofs.YtleoaanjcccooaaGreatDoor
open Go.RowKit

theorem i64_bd {x : Int} (h1 : -1000000 ≤ x) (h2 : x ≤ 1000000) : I64 x := ⟨by omega, by omega⟩

set_option maxHeartbeats 400000 in
theorem sized_any (x y n m : Int) (w : World) (hx : I64 x) (hy : I64 y) :
    Calls Tryz.prog 152 #[.agg #[.int .i64 x, .int .i64 y, .int .i64 n, .int .i64 m]] w fun e w' => e = .returned (.tuple #[.agg #[.int .i64 (szR ⟨x, y, n, m⟩).x, .int .i64 (szR ⟨x, y, n, m⟩).y, .int .i64 (szR ⟨x, y, n, m⟩).w, .int .i64 (szR ⟨x, y, n, m⟩).h], .int .i64 (szE ⟨x, y, n, m⟩)]) ∧ Below w.heap.size w w' := by
  have hk := chk_ne x y n m
  cases h1 : mayB x y n m
  · rw [show szR ⟨x, y, n, m⟩ = zr by simp [szR, h1], show szE ⟨x, y, n, m⟩ = 9 by simp [szE, h1]]
    go_enter Tryz.func152, Tryz.ntmps152
    go_wp2_with fail
    refine (check_any _ _ _ _ _ hx hy).mono ?_
    rintro e w1 ⟨rfl, hb⟩
    have F := ((fr1 w _ _ _).below hb).2
    obtain ⟨d0, d1, d2, d3⟩ := (At4.new' (w.alloc _) (w.heap.size + 1) 0 0 0 0 55 (by simp)).below hb
    have L := (((Below.refl w.heap.size w).alloc (Nat.le_refl _) _).alloc (by simp) _).trans (hb.mono (by simp; omega))
    clear hb
    go_wp2
    exact bodyPost_ret (v := .tuple #[.agg #[.int .i64 0, .int .i64 0, .int .i64 0, .int .i64 0], .int .i64 9]) (by simp [results, Tryz.results152, go_sem, d0, d1, d2, d3]) rfl ⟨rfl, set4_below L (by omega) _ _ _ _⟩
  · rw [show szR ⟨x, y, n, m⟩ = ⟨x, y, n, m⟩ by simp [szR, h1], show szE ⟨x, y, n, m⟩ = 0 by simp [szE, h1]]
    go_enter Tryz.func152, Tryz.ntmps152
    go_wp2_with fail
    refine (check_any _ _ _ _ _ hx hy).mono ?_
    rintro e w1 ⟨rfl, hb⟩
    have F := ((fr1 w _ _ _).below hb).2
    obtain ⟨d0, d1, d2, d3⟩ := (At4.new' (w.alloc _) (w.heap.size + 1) 0 0 0 0 55 (by simp)).below hb
    obtain ⟨e0, e1, e2, e3⟩ := ((At4.new w x y n m 55).alloc _).below hb
    have L := (((Below.refl w.heap.size w).alloc (Nat.le_refl _) _).alloc (by simp) _).trans (hb.mono (by simp; omega))
    clear hb
    go_wp2
    exact bodyPost_ret (v := .tuple #[.agg #[.int .i64 x, .int .i64 y, .int .i64 n, .int .i64 m], .int .i64 0]) (by simp [results, Tryz.results152, go_sem, d0, d1, d2, d3]) rfl ⟨rfl, set4_below L (by omega) _ _ _ _⟩

set_option maxHeartbeats 1000000 in
theorem inset_any (x y n m k : Int) (w : World) (hx : I64 x) (hy : I64 y) :
    Calls Tryz.prog 129 #[.agg #[.int .i64 x, .int .i64 y, .int .i64 n, .int .i64 m], .int .i64 k] w fun e w' => e = .returned (.tuple #[.agg #[.int .i64 (insR x y n m k).x, .int .i64 (insR x y n m k).y, .int .i64 (insR x y n m k).w, .int .i64 (insR x y n m k).h], .int .i64 (insE x y n m k)]) ∧ Below w.heap.size w w' := by
  have hk := chk_ne x y n m
  have cs : mayB x y n m = false ∨ (mayB x y n m = true ∧ witB k (-16384) 16384 = false) ∨ (mayB x y n m = true ∧ witB k (-16384) 16384 = true ∧ emptyB x y n m = true) ∨ (mayB x y n m = true ∧ witB k (-16384) 16384 = true ∧ emptyB x y n m = false) := by
    cases mayB x y n m <;> cases witB k (-16384) 16384 <;> cases emptyB x y n m <;> simp
  rcases cs with h1 | ⟨h1, h2⟩ | ⟨h1, h2, h3⟩ | ⟨h1, h2, h3⟩
  · rw [show insR x y n m k = zr by simp [insR, h1], show insE x y n m k = 5 by simp [insE, h1]]
    go_enter Tryz.func129, Tryz.ntmps129
    go_wp2_with fail
    refine (check_any _ _ _ _ _ hx hy).mono ?_
    rintro e w1 ⟨rfl, hb⟩
    have F := (fr1 w _ _ _).below hb
    have C := (At4.new' (w.alloc _) (w.heap.size + 1) 0 0 0 0 55 (by simp)).below hb
    have A := ((At4.new w x y n m 55).alloc _).below hb
    have L := (((Below.refl w.heap.size w).alloc (Nat.le_refl _) _).alloc (by simp) _).trans (hb.mono (by simp; omega))
    clear hb
    replace F := F.2
    obtain ⟨d0, d1, d2, d3⟩ := id C
    go_wp2
    exact bodyPost_ret (v := .tuple #[.agg #[.int .i64 0, .int .i64 0, .int .i64 0, .int .i64 0], .int .i64 5]) (by simp [results, Tryz.results129, go_sem, d0, d1, d2, d3]) rfl ⟨rfl, set4_below L (by omega) _ _ _ _⟩
  · rw [show insR x y n m k = zr by simp [insR, h2], show insE x y n m k = 2 by simp [insE, h1, h2]]
    go_enter Tryz.func129, Tryz.ntmps129
    go_wp2_with fail
    refine (check_any _ _ _ _ _ hx hy).mono ?_
    rintro e w1 ⟨rfl, hb⟩
    have F := (fr1 w _ _ _).below hb
    have C := (At4.new' (w.alloc _) (w.heap.size + 1) 0 0 0 0 55 (by simp)).below hb
    have A := ((At4.new w x y n m 55).alloc _).below hb
    have L := (((Below.refl w.heap.size w).alloc (Nat.le_refl _) _).alloc (by simp) _).trans (hb.mono (by simp; omega))
    clear hb
    replace F := F.2
    obtain ⟨d0, d1, d2, d3⟩ := id C
    go_wp2_with (go_at_call 151; refine (within_any _ _ _ _).mono ?_; rintro e w' ⟨rfl, rfl⟩)
    exact bodyPost_ret (v := .tuple #[.agg #[.int .i64 0, .int .i64 0, .int .i64 0, .int .i64 0], .int .i64 2]) (by simp [results, Tryz.results129, go_sem, d0, d1, d2, d3]) rfl ⟨rfl, set4_below L (by omega) _ _ _ _⟩
  · rw [show insR x y n m k = zr by simp [insR, h3], show insE x y n m k = 0 by simp [insE, h1, h2, h3]]
    go_enter Tryz.func129, Tryz.ntmps129
    go_wp2_with fail
    refine (check_any _ _ _ _ _ hx hy).mono ?_
    rintro e w1 ⟨rfl, hb⟩
    have F := (fr1 w _ _ _).below hb
    have C := (At4.new' (w.alloc _) (w.heap.size + 1) 0 0 0 0 55 (by simp)).below hb
    have A := ((At4.new w x y n m 55).alloc _).below hb
    have L := (((Below.refl w.heap.size w).alloc (Nat.le_refl _) _).alloc (by simp) _).trans (hb.mono (by simp; omega))
    clear hb
    obtain ⟨e0, e1, e2, e3⟩ := id A
    go_wp2_with (go_at_call 151; refine (within_any _ _ _ _).mono ?_; rintro e w' ⟨rfl, rfl⟩)
    clear e0 e1 e2 e3
    refine (empty_any _ _ _ _ _ hx hy).mono ?_
    rintro e w2 ⟨rfl, hb⟩
    replace F := F.below hb
    replace C := C.below hb
    replace L := L.trans (hb.mono L.size)
    clear hb
    replace F := F.2
    obtain ⟨d0, d1, d2, d3⟩ := id C
    go_wp2
    exact bodyPost_ret (v := .tuple #[.agg #[.int .i64 0, .int .i64 0, .int .i64 0, .int .i64 0], .int .i64 0]) (by simp [results, Tryz.results129, go_sem, d0, d1, d2, d3]) rfl ⟨rfl, set4_below L (by omega) _ _ _ _⟩
  · rw [show insR x y n m k = szR (btw (x + k) (y + k) (x + n - k) (y + m - k)) by simp [insR, h1, h2, h3], show insE x y n m k = szE (btw (x + k) (y + k) (x + n - k) (y + m - k)) by simp [insE, h1, h2, h3]]
    obtain ⟨a1, a2, a3, a4, a5, a6, a7, a8, a9, a10⟩ := bounds_of h3
    obtain ⟨b1, b2⟩ := wit_iff.1 h2
    go_enter Tryz.func129, Tryz.ntmps129
    go_wp2_with fail
    refine (check_any _ _ _ _ _ hx hy).mono ?_
    rintro e w1 ⟨rfl, hb⟩
    have F := (fr1 w _ _ _).below hb
    have C := (At4.new' (w.alloc _) (w.heap.size + 1) 0 0 0 0 55 (by simp)).below hb
    have A := ((At4.new w x y n m 55).alloc _).below hb
    have L := (((Below.refl w.heap.size w).alloc (Nat.le_refl _) _).alloc (by simp) _).trans (hb.mono (by simp; omega))
    clear hb
    obtain ⟨e0, e1, e2, e3⟩ := id A
    go_wp2_with (go_at_call 151; refine (within_any _ _ _ _).mono ?_; rintro e w' ⟨rfl, rfl⟩)
    clear e0 e1 e2 e3
    refine (empty_any _ _ _ _ _ hx hy).mono ?_
    rintro e w2 ⟨rfl, hb⟩
    replace F := F.below hb
    replace A := A.below hb
    replace C := C.below hb
    replace L := L.trans (hb.mono L.size)
    clear hb
    obtain ⟨e0, e1, e2, e3⟩ := id A
    go_wp2_with fail
    clear e0 e1 e2 e3
    refine (end_any _ _ _ _ _ (by omega) (by omega) (by omega) (by omega) (by omega) (by omega) (by omega) (by omega)).mono ?_
    rintro e w3 ⟨rfl, hb⟩
    replace F := F.below hb
    replace A := A.below hb
    replace C := C.below hb
    replace L := L.trans (hb.mono L.size)
    clear hb
    have la := A.lt
    obtain ⟨e0, e1, e2, e3⟩ := id A
    go_wp2_with fail
    clear e0 e1 e2 e3 la
    refine (between_any _ _ _ _ _ (by omega) (by omega) (by omega) (by omega) (by omega) (by omega) (by omega) (by omega)).mono ?_
    rintro e w4 ⟨rfl, hb⟩
    replace F := (F.alloc _).below hb
    replace C := (C.alloc _).below hb
    replace L := (L.alloc L.size _).trans (hb.mono (by have := L.size; simp; omega))
    clear A hb
    go_wp2_with fail
    obtain ⟨g1, g2, g3, g4⟩ := btw_bd (x + k) (y + k) (x + n - k) (y + m - k) 100000 (by omega) (by omega) (by omega) (by omega) (by omega)
    refine (sized_any _ _ _ _ _ (i64_bd (by omega) (by omega)) (i64_bd (by omega) (by omega))).mono ?_
    rintro e w5 ⟨rfl, hb⟩
    replace F := (F.below hb).2
    replace C := C.below hb
    replace L := L.trans (hb.mono L.size)
    clear hb
    obtain ⟨d0, d1, d2, d3⟩ := id C
    go_wp2
    exact bodyPost_ret (v := .tuple #[.agg #[.int .i64 _, .int .i64 _, .int .i64 _, .int .i64 _], .int .i64 _]) (by simp [results, Tryz.results129, go_sem, d0, d1, d2, d3]) rfl ⟨rfl, set4_below L (by omega) _ _ _ _⟩

end Go.Proofs.YtleoaanjcccooaaGreatDoor

/-
  Package cells: border, boxRune.
-/
namespace Go.Proofs.YtleoaanjcccooaaGreatDoor
open Go.RowKit

/-- The runes of a frame, as package cells keeps them. -/
def boxT : List Int := [0, 9474, 9474, 9474, 9472, 9484, 9488, 9474, 9472, 9492, 9496, 9474, 9472, 9472, 9472, 9633]
theorem edgN_at (p q n : Int) : edgN (p - q) n = (if p = q then 1 else 0) + (if p = q + n - 1 then 2 else 0) := by
  unfold edgN
  congr 1
  · by_cases h : p = q
    · rw [if_pos h, if_pos (by omega)]
    · rw [if_neg h, if_neg (by omega)]
  · by_cases h : p = q + n - 1
    · rw [if_pos h, if_pos (by omega)]
    · rw [if_neg h, if_neg (by omega)]
theorem box_frm {r : Rc} {px py : Int} (h : edgB r px py = true) (h1 : r.x ≤ px) (h2 : px < r.x + r.w) (h3 : r.y ≤ py) (h4 : py < r.y + r.h) : boxT.getD ((edgN (py - r.y) r.h).toNat * 4 + (edgN (px - r.x) r.w).toNat) 0 = frmR r px py := by
  unfold frmR
  rw [h, if_neg (show ¬ true = false by decide), edgN_at, edgN_at]
  have h' : px = r.x ∨ py = r.y ∨ px = r.x + r.w - 1 ∨ py = r.y + r.h - 1 := by
    unfold edgB at h
    simpa using h
  by_cases a1 : py = r.y <;> by_cases a2 : py = r.y + r.h - 1 <;> by_cases a3 : px = r.x <;> by_cases a4 : px = r.x + r.w - 1
  · rw [if_pos a1, if_pos a2, if_pos a3, if_pos a4, if_pos ⟨by omega, by omega⟩]
    rfl
  · rw [if_pos a1, if_pos a2, if_pos a3, if_neg a4, if_neg (by omega), if_neg (by omega), if_pos (by omega)]
    rfl
  · rw [if_pos a1, if_pos a2, if_neg a3, if_pos a4, if_neg (by omega), if_neg (by omega), if_pos (by omega)]
    rfl
  · rw [if_pos a1, if_pos a2, if_neg a3, if_neg a4, if_neg (by omega), if_neg (by omega), if_pos (by omega)]
    rfl
  · rw [if_pos a1, if_neg a2, if_pos a3, if_pos a4, if_neg (by omega), if_pos (by omega)]
    rfl
  · rw [if_pos a1, if_neg a2, if_pos a3, if_neg a4, if_neg (by omega), if_neg (by omega), if_neg (by omega), if_pos ⟨by omega, by omega⟩]
    rfl
  · rw [if_pos a1, if_neg a2, if_neg a3, if_pos a4, if_neg (by omega), if_neg (by omega), if_neg (by omega), if_neg (by omega), if_pos ⟨by omega, by omega⟩]
    rfl
  · rw [if_pos a1, if_neg a2, if_neg a3, if_neg a4, if_neg (by omega), if_neg (by omega), if_neg (by omega), if_neg (by omega), if_neg (by omega), if_neg (by omega), if_neg (by omega), if_pos (by omega)]
    rfl
  · rw [if_neg a1, if_pos a2, if_pos a3, if_pos a4, if_neg (by omega), if_pos (by omega)]
    rfl
  · rw [if_neg a1, if_pos a2, if_pos a3, if_neg a4, if_neg (by omega), if_neg (by omega), if_neg (by omega), if_neg (by omega), if_neg (by omega), if_pos ⟨by omega, by omega⟩]
    rfl
  · rw [if_neg a1, if_pos a2, if_neg a3, if_pos a4, if_neg (by omega), if_neg (by omega), if_neg (by omega), if_neg (by omega), if_neg (by omega), if_neg (by omega), if_pos ⟨by omega, by omega⟩]
    rfl
  · rw [if_neg a1, if_pos a2, if_neg a3, if_neg a4, if_neg (by omega), if_neg (by omega), if_neg (by omega), if_neg (by omega), if_neg (by omega), if_neg (by omega), if_neg (by omega), if_pos (by omega)]
    rfl
  · rw [if_neg a1, if_neg a2, if_pos a3, if_pos a4, if_neg (by omega), if_pos (by omega)]
    rfl
  · rw [if_neg a1, if_neg a2, if_pos a3, if_neg a4, if_neg (by omega), if_neg (by omega), if_neg (by omega), if_neg (by omega), if_neg (by omega), if_neg (by omega), if_neg (by omega), if_neg (by omega)]
    rfl
  · rw [if_neg a1, if_neg a2, if_neg a3, if_pos a4, if_neg (by omega), if_neg (by omega), if_neg (by omega), if_neg (by omega), if_neg (by omega), if_neg (by omega), if_neg (by omega), if_neg (by omega)]
    rfl
  · exfalso; omega

end Go.Proofs.YtleoaanjcccooaaGreatDoor

/-
  Package cells: border, boxRune.
-/
namespace Go.Proofs.YtleoaanjcccooaaGreatDoor
open Go.RowKit

/-- The sides of a frame. -/
def bordL (r : Rc) : List Rc := lesL r.x r.y r.w r.h (insR r.x r.y r.w r.h 1).x (insR r.x r.y r.w r.h 1).y (insR r.x r.y r.w r.h 1).w (insR r.x r.y r.w r.h 1).h
theorem border_any (r : Rc) (w : World) (hx : I64 r.x) (hy : I64 r.y) (hi : I64 (insR r.x r.y r.w r.h 1).x) (hj : I64 (insR r.x r.y r.w r.h 1).y) :
    Calls Tryz.prog 98 #[.agg #[.int .i64 r.x, .int .i64 r.y, .int .i64 r.w, .int .i64 r.h]] w fun e w' =>
      ∃ v, e = .returned v ∧ w'.ownsRow w.heap.size 55 4 v (bordL r).length (flat (bordL r)) ∧ Below w.heap.size w w' := by
  have hq : insR r.x r.y r.w r.h 1 = ⟨(insR r.x r.y r.w r.h 1).x, (insR r.x r.y r.w r.h 1).y, (insR r.x r.y r.w r.h 1).w, (insR r.x r.y r.w r.h 1).h⟩ := rfl
  obtain ⟨x, y, n, m⟩ := r
  simp only at hx hy hi hj ⊢
  have H1 := inset_any x y n m 1
  have H2 := less_any x y n m (insR x y n m 1).x (insR x y n m 1).y (insR x y n m 1).w (insR x y n m 1).h
  have hl : bordL ⟨x, y, n, m⟩ = lesL x y n m (insR x y n m 1).x (insR x y n m 1).y (insR x y n m 1).w (insR x y n m 1).h := rfl
  rw [hl]
  clear hl hq
  generalize lesL x y n m (insR x y n m 1).x (insR x y n m 1).y (insR x y n m 1).w (insR x y n m 1).h = l at *
  generalize lesE x y n m (insR x y n m 1).x (insR x y n m 1).y (insR x y n m 1).w (insR x y n m 1).h = le at *
  generalize (insR x y n m 1).x = i0 at *
  generalize (insR x y n m 1).y = i1 at *
  generalize (insR x y n m 1).w = i2 at *
  generalize (insR x y n m 1).h = i3 at *
  generalize insE x y n m 1 = ie at *
  replace H1 := fun w => H1 w hx hy
  replace H2 := fun w => H2 w hx hy hi hj
  have G1 : Hid (∀ w, Calls Tryz.prog 129 #[.agg #[.int .i64 x, .int .i64 y, .int .i64 n, .int .i64 m], .int .i64 1] w fun e w' => e = .returned (.tuple #[.agg #[.int .i64 i0, .int .i64 i1, .int .i64 i2, .int .i64 i3], .int .i64 ie]) ∧ Below w.heap.size w w') := H1
  have G2 : Hid (∀ w, Calls Tryz.prog 130 #[.agg #[.int .i64 x, .int .i64 y, .int .i64 n, .int .i64 m], .agg #[.int .i64 i0, .int .i64 i1, .int .i64 i2, .int .i64 i3]] w fun e w' => ∃ v, e = .returned (.tuple #[v, .int .i64 le]) ∧ w'.ownsRow w.heap.size 55 4 v l.length (flat l) ∧ Below w.heap.size w w') := H2
  clear H1 H2 hx hy hi hj
  go_enter Tryz.func98, Tryz.ntmps98
  have A := At4.new w x y n m 55
  have L := (Below.refl w.heap.size w).alloc (Nat.le_refl _) (.cells #[.int .i64 x, .int .i64 y, .int .i64 n, .int .i64 m] 55)
  obtain ⟨d0, d1, d2, d3⟩ := id A
  go_wp2_with fail
  clear d0 d1 d2 d3
  refine (G1.out _).mono ?_
  rintro e w1 ⟨rfl, hb⟩
  replace A := A.below hb
  replace L := L.trans (hb.mono L.size)
  clear hb
  have B := At4.new w1 i0 i1 i2 i3 55
  replace A := A.alloc (.cells #[.int .i64 i0, .int .i64 i1, .int .i64 i2, .int .i64 i3] 55)
  replace L := L.alloc L.size (.cells #[.int .i64 i0, .int .i64 i1, .int .i64 i2, .int .i64 i3] 55)
  obtain ⟨d0, d1, d2, d3⟩ := id A
  obtain ⟨e0, e1, e2, e3⟩ := id B
  go_wp2_with fail
  clear d0 d1 d2 d3 e0 e1 e2 e3
  refine (G2.out _).mono ?_
  rintro e w2 ⟨v, rfl, hv, hb⟩
  replace hv := hv.mono (base' := w.heap.size) L.size
  replace L := L.trans (hb.mono L.size)
  have HV : Hid (w2.ownsRow w.heap.size 55 4 v l.length (flat l) ∧ Below w.heap.size w w2) := ⟨hv, L⟩
  clear hb hv L A B
  go_wp2
  go_ret
  exact ⟨_, rfl, HV.out.1, HV.out.2⟩

/-- The runes of a frame, in memory. -/
def BoxM (w : World) : Prop := ∀ i j : Nat, i < 4 → j < 4 → w.cell? ⟨0, i * 4 + j, none⟩ = some (.int .i32 (boxT.getD (i * 4 + j) 0))
theorem edg_nat (k n : Int) : ∃ i : Nat, i < 4 ∧ edgN k n = i := by
  obtain ⟨h1, h2⟩ := edgN_bd k n
  exact ⟨(edgN k n).toNat, by omega, by omega⟩
theorem BoxM.bl {w : World} (h : BoxM w) : 0 < w.heap.size := by
  have h0 := h 0 0 (by omega) (by omega)
  rcases Nat.lt_or_ge 0 w.heap.size with h1 | h1
  · exact h1
  · rw [World.cell?, Array.getElem?_eq_none h1] at h0
    cases h0
set_option maxHeartbeats 1000000 in
theorem boxRune_any (r : Rc) (px py : Int) (w : World) (hB : BoxM w) (h1 : -100000 ≤ r.x ∧ r.x ≤ 100000) (h2 : -100000 ≤ r.y ∧ r.y ≤ 100000) (h3 : -100000 ≤ r.w ∧ r.w ≤ 100000) (h4 : -100000 ≤ r.h ∧ r.h ≤ 100000) (h5 : -100000 ≤ px ∧ px ≤ 100000) (h6 : -100000 ≤ py ∧ py ≤ 100000) :
    Calls Tryz.prog 99 #[.agg #[.int .i64 r.x, .int .i64 r.y, .int .i64 r.w, .int .i64 r.h], .agg #[.int .i64 px, .int .i64 py]] w fun e w' =>
      e = .returned (.int .i32 (boxT.getD ((edgN (py - r.y) r.h).toNat * 4 + (edgN (px - r.x) r.w).toNat) 0)) ∧ Below w.heap.size w w' := by
  obtain ⟨x, y, n, m⟩ := r
  simp only at h1 h2 h3 h4 ⊢
  have G1 := fun w => edgesC_any (py - y) m w h4
  have G2 := fun w => edgesC_any (px - x) n w h3
  obtain ⟨i, hi, ei⟩ := edg_nat (py - y) m
  obtain ⟨j, hj, ej⟩ := edg_nat (px - x) n
  rw [ei] at G1 ⊢
  rw [ej] at G2 ⊢
  clear ei ej
  have w1 : IntKind.i64.wrap (py - y) = py - y := by rw [IntKind.wrap_i64]; omega
  have w2 : IntKind.i64.wrap (px - x) = px - x := by rw [IntKind.wrap_i64]; omega
  have K1 : Hid (∀ w, Calls Tryz.prog 131 #[.int .i64 (py - y), .int .i64 m] w fun e w' => e = .returned (.int .i64 i) ∧ w' = w) := G1
  have K2 : Hid (∀ w, Calls Tryz.prog 131 #[.int .i64 (px - x), .int .i64 n] w fun e w' => e = .returned (.int .i64 j) ∧ w' = w) := G2
  have hb0 := hB.bl
  have hc := hB i j hi hj
  have ht : Hid (boxT.getD (((i : Nat) : Int).toNat * 4 + ((j : Nat) : Int).toNat) 0 = boxT.getD (i * 4 + j) 0) := rfl
  rw [ht.out]
  generalize boxT.getD (i * 4 + j) 0 = rv at *
  clear G1 G2 h1 h2 h3 h4 h5 h6 hB ht
  go_enter Tryz.func99, Tryz.ntmps99
  go_wp2_with fail
  have A := (At4.new w x y n m 55).alloc (.cells #[.int .i64 px, .int .i64 py] 41)
  have B := At2.new' (w.alloc (.cells #[.int .i64 x, .int .i64 y, .int .i64 n, .int .i64 m] 55)) (w.heap.size + 1) px py 41 (by simp)
  have L := ((Below.refl w.heap.size w).alloc (Nat.le_refl _) (.cells #[.int .i64 x, .int .i64 y, .int .i64 n, .int .i64 m] 55)).alloc (by simp) (.cells #[.int .i64 px, .int .i64 py] 41)
  replace hc := (L.cell (p := ⟨0, i * 4 + j, none⟩) hb0).trans hc
  generalize (w.alloc (.cells #[.int .i64 x, .int .i64 y, .int .i64 n, .int .i64 m] 55)).alloc (.cells #[.int .i64 px, .int .i64 py] 41) = W at *
  obtain ⟨d0, d1, d2, d3⟩ := id A
  obtain ⟨e0, e1⟩ := id B
  have HL : Hid (Below w.heap.size w W) := L
  clear A B L
  go_quiet (first
    | (go_at_call_of 131 (Value.int .i64 (py - y)); exact Calls.quiet_of_same (K1.out _))
    | (go_at_call_of 131 (Value.int .i64 (px - x)); exact Calls.quiet_of_same (K2.out _)))
  go_wp2
  go_ret
  have h := HL.out
  exact ⟨rfl, ⟨h.os, h.tape, h.output, h.size, h.block⟩⟩

end Go.Proofs.YtleoaanjcccooaaGreatDoor

/-
  The sides of a frame in plain words: each place of the border lies in just one of them.
-/
namespace Go.Proofs.YtleoaanjcccooaaGreatDoor
open Go.RowKit

/-- A place lies in a rectangle. -/
def inQ (q : Rc) (px py : Int) : Prop := q.x ≤ px ∧ px < q.x + q.w ∧ q.y ≤ py ∧ py < q.y + q.h
theorem emp_no {x y n m : Int} (h : mayB x y n m = true) (h1 : 0 < n) (h2 : 0 < m) : emptyB x y n m = false := by
  unfold emptyB
  rw [h]
  have e1 : (n == 0) = false := by simpa using (by omega : ¬ n = 0)
  have e2 : (m == 0) = false := by simpa using (by omega : ¬ m = 0)
  rw [e1, e2]
  rfl
theorem ins_one {x y n m : Int} (h : mayB x y n m = true) (h1 : 0 < n) (h2 : 0 < m) : insR x y n m 1 = if n ≤ 2 ∨ m ≤ 2 then zr else ⟨x + 1, y + 1, n - 2, m - 2⟩ := by
  have he := emp_no h h1 h2
  unfold insR
  rw [h, he, if_pos (by decide)]
  split
  · next hc =>
    rw [btw_no (by omega)]
    rfl
  · next hc =>
    rw [btw_yes (by omega) (by omega)]
    have hm : mayB (x + 1) (y + 1) (x + n - 1 - (x + 1)) (y + m - 1 - (y + 1)) = true := by
      rw [may_iff] at h ⊢
      omega
    unfold szR
    rw [if_pos hm]
    congr 1 <;> omega
theorem bord_form {r : Rc} (h : zMa r = true) (h1 : 0 < r.w) (h2 : 0 < r.h) : bordL r = if r.w ≤ 2 ∨ r.h ≤ 2 then [r] else [⟨r.x, r.y, r.w, 1⟩, ⟨r.x, r.y + 1, 1, r.h - 2⟩, ⟨r.x + r.w - 1, r.y + 1, 1, r.h - 2⟩, ⟨r.x, r.y + r.h - 1, r.w, 1⟩] := by
  obtain ⟨x, y, n, m⟩ := r
  have h : mayB x y n m = true := h
  replace h1 : 0 < n := h1
  replace h2 : 0 < m := h2
  show lesL x y n m (insR x y n m 1).x (insR x y n m 1).y (insR x y n m 1).w (insR x y n m 1).h = if n ≤ 2 ∨ m ≤ 2 then [⟨x, y, n, m⟩] else [⟨x, y, n, 1⟩, ⟨x, y + 1, 1, m - 2⟩, ⟨x + n - 1, y + 1, 1, m - 2⟩, ⟨x, y + m - 1, n, 1⟩]
  rw [ins_one h h1 h2]
  have he := emp_no h h1 h2
  split
  · next hc =>
    show lesL x y n m 0 0 0 0 = _
    unfold lesL
    rw [h, he, if_pos (by decide)]
    have hz : meetR x y n m 0 0 0 0 = zr := by
      unfold meetR
      rw [he, if_pos (by decide)]
    rw [hz, if_pos (by decide)]
  · next hc =>
    show lesL x y n m (x + 1) (y + 1) (n - 2) (m - 2) = _
    have hm : mayB (x + 1) (y + 1) (n - 2) (m - 2) = true := by
      rw [may_iff] at h ⊢
      omega
    have hf := emp_no hm (by omega) (by omega)
    have hz : meetR x y n m (x + 1) (y + 1) (n - 2) (m - 2) = ⟨x + 1, y + 1, n - 2, m - 2⟩ := by
      unfold meetR
      rw [he, hf, if_neg (by decide), btw_yes (by omega) (by omega)]
      congr 1 <;> omega
    unfold lesL
    rw [h, hm, he, if_pos (by decide), hz]
    have hq : eqB ⟨x + 1, y + 1, n - 2, m - 2⟩ 0 0 0 0 = false := by
      unfold eqB
      have e1 : (n - 2 == 0) = false := by simpa using (by omega : ¬ n - 2 = 0)
      simp only [e1, Bool.false_and, Bool.and_false]
    rw [hq, if_neg (by decide)]
    unfold pcR
    simp only
    rw [btw_yes (by omega) (by omega), btw_yes (by omega) (by omega), btw_yes (by omega) (by omega), btw_yes (by omega) (by omega)]
    have hk : ∀ a b c d : Int, 0 < c → keepB ⟨a, b, c, d⟩ = true := by
      intro a b c d hc
      unfold keepB eqB
      have e1 : (c == 0) = false := by simpa using (by omega : ¬ c = 0)
      simp only [e1, Bool.false_and, Bool.and_false, Bool.not_false]
    rw [List.filter_cons, if_pos (hk _ _ _ _ (by omega)), List.filter_cons, if_pos (hk _ _ _ _ (by omega)), List.filter_cons, if_pos (hk _ _ _ _ (by omega)), List.filter_cons, if_pos (hk _ _ _ _ (by omega)), List.filter_nil]
    congr 1
    · congr 1 <;> omega
    · congr 1
      · congr 1 <;> omega
      · congr 1
        · congr 1 <;> omega
        · congr 1
          congr 1 <;> omega
/-- The sides lie in the rectangle, they are not empty, and they may be. -/
theorem bord_sub {r q : Rc} (h : zMa r = true) (h1 : 0 < r.w) (h2 : 0 < r.h) (hq : q ∈ bordL r) : zMa q = true ∧ 0 < q.w ∧ 0 < q.h ∧ r.x ≤ q.x ∧ q.x + q.w ≤ r.x + r.w ∧ r.y ≤ q.y ∧ q.y + q.h ≤ r.y + r.h := by
  rw [bord_form h h1 h2] at hq
  unfold zMa at h ⊢
  rw [may_iff] at h ⊢
  split at hq
  · have hq := List.mem_singleton.1 hq
    subst hq
    exact ⟨h, h1, h2, by omega, by omega, by omega, by omega⟩
  · simp only [List.mem_cons, List.not_mem_nil, or_false] at hq
    rcases hq with rfl | rfl | rfl | rfl <;> simp only <;> omega
/-- A place in the rectangle lies in one of the sides just where it lies at an edge. -/
theorem bord_edge {r : Rc} (h : zMa r = true) {px py : Int} (hp : inQ r px py) : (∃ q ∈ bordL r, inQ q px py) ↔ edgB r px py = true := by
  obtain ⟨p1, p2, p3, p4⟩ := id hp
  rw [bord_form h (by omega) (by omega)]
  have he : edgB r px py = true ↔ (px = r.x ∨ py = r.y ∨ px = r.x + r.w - 1 ∨ py = r.y + r.h - 1) := by
    unfold edgB
    simp
  rw [he]
  split
  · simp only [List.mem_singleton, exists_eq_left]
    exact ⟨fun _ => by omega, fun _ => hp⟩
  · simp only [List.mem_cons, List.not_mem_nil, or_false, exists_eq_or_imp, exists_eq_left, inQ]
    omega
/-- No place lies in two of the sides. -/
theorem bord_once {r : Rc} (h : zMa r = true) (h1 : 0 < r.w) (h2 : 0 < r.h) : (bordL r).Pairwise fun q q' => ∀ px py, inQ q px py → ¬ inQ q' px py := by
  rw [bord_form h h1 h2]
  split
  · exact List.pairwise_singleton _ _
  · simp only [List.pairwise_cons, List.mem_cons, List.not_mem_nil, or_false, inQ]
    refine ⟨?_, ?_, ?_, ?_, .nil⟩
    · rintro q (rfl | rfl | rfl) px py <;> simp only <;> omega
    · rintro q (rfl | rfl) px py <;> simp only <;> omega
    · rintro q rfl px py <;> simp only <;> omega
    · intro q hq
      exact hq.elim

end Go.Proofs.YtleoaanjcccooaaGreatDoor
