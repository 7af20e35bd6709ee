/-
  The walk of the statement GeomPlaces: it answers true; of what was there nothing turns.
-/
import Derived.Test.YtpeppbfkbijdiaaPl
import Derived.Test.YtpeppbfkbijdiaaSm
namespace Go.Proofs.Ytpeppbfkbijdiaa
open Go.RowKit

theorem les_four (ax ay aw ah bx by' bw bh : Int) : (lesL ax ay aw ah bx by' bw bh).length ≤ 4 := by
  unfold lesL
  split
  · split
    · simp
    · exact List.length_filter_le keepB (pcs _ _ _ _ _ _ _ _)
  · simp
theorem four_cells (w : World) (v0 v1 v2 v3 u0 u1 u2 u3 : Value) (t : TypeId) : ∀ w3, w3 = (w.alloc (.cells #[v0, v1, v2, v3] t)).alloc (.cells #[u0, u1, u2, u3] t) →
    (w3.cell? ⟨w.heap.size, 0, none⟩ = some v0 ∧ w3.cell? ⟨w.heap.size, 1, none⟩ = some v1 ∧ w3.cell? ⟨w.heap.size, 2, none⟩ = some v2 ∧ w3.cell? ⟨w.heap.size, 3, none⟩ = some v3) ∧
    (w3.cell? ⟨w.heap.size + 1, 0, none⟩ = some u0 ∧ w3.cell? ⟨w.heap.size + 1, 1, none⟩ = some u1 ∧ w3.cell? ⟨w.heap.size + 1, 2, none⟩ = some u2 ∧ w3.cell? ⟨w.heap.size + 1, 3, none⟩ = some u3) ∧ w3.heap.size = w.heap.size + 2 ∧ Below w.heap.size w w3 := by
  rintro w3 rfl
  refine ⟨⟨?_, ?_, ?_, ?_⟩, ⟨?_, ?_, ?_, ?_⟩, by simp, ((Below.refl _ w).alloc (Nat.le_refl _) _).alloc (by simp) _⟩
  · exact over_alloc (by simp) _
  · exact over_alloc (by simp) _
  · exact over_alloc (by simp) _
  · exact over_alloc (by simp) _
  · have h := World.size_alloc w (.cells #[v0, v1, v2, v3] t)
    rw [← h]; simp
  · have h := World.size_alloc w (.cells #[v0, v1, v2, v3] t)
    rw [← h]; simp
  · have h := World.size_alloc w (.cells #[v0, v1, v2, v3] t)
    rw [← h]; simp
  · have h := World.size_alloc w (.cells #[v0, v1, v2, v3] t)
    rw [← h]; simp

set_option maxRecDepth 10000 in
set_option maxHeartbeats 8000000 in
theorem places_walk (p0 p1 p2 p3 q0 q1 q2 q3 : Int) (w : World)
    (a1 : -128 ≤ p0) (a2 : p0 ≤ 127) (a3 : -128 ≤ p1) (a4 : p1 ≤ 127) (a5 : -128 ≤ p2) (a6 : p2 ≤ 127) (a7 : -128 ≤ p3) (a8 : p3 ≤ 127)
    (b1 : -128 ≤ q0) (b2 : q0 ≤ 127) (b3 : -128 ≤ q1) (b4 : q1 ≤ 127) (b5 : -128 ≤ q2) (b6 : q2 ≤ 127) (b7 : -128 ≤ q3) (b8 : q3 ≤ 127) :
    Calls Try.prog 7 #[.agg #[.int .i8 p0, .int .i8 p1, .int .i8 p2, .int .i8 p3], .agg #[.int .i8 q0, .int .i8 q1, .int .i8 q2, .int .i8 q3]] w fun e w' => e = .returned (.bool true) ∧ Below w.heap.size w w' := by
  have hF1 : Hid (∀ w, Calls Try.prog 38 #[.agg #[.int .i8 p0, .int .i8 p1, .int .i8 p2, .int .i8 p3]] w fun e w' => e = .returned (.agg #[.int .i64 (p0.tmod 16), .int .i64 (p1.tmod 16), .int .i64 (p2.tmod 16 % 16), .int .i64 (p3.tmod 16 % 16)]) ∧ Below w.heap.size w w') := fun w => four_any _ _ _ _ w a1 a2 a3 a4 a5 a6 a7 a8
  have hF2 : Hid (∀ w, Calls Try.prog 38 #[.agg #[.int .i8 q0, .int .i8 q1, .int .i8 q2, .int .i8 q3]] w fun e w' => e = .returned (.agg #[.int .i64 (q0.tmod 16), .int .i64 (q1.tmod 16), .int .i64 (q2.tmod 16 % 16), .int .i64 (q3.tmod 16 % 16)]) ∧ Below w.heap.size w w') := fun w => four_any _ _ _ _ w b1 b2 b3 b4 b5 b6 b7 b8
  have sa : small (p0.tmod 16) (p1.tmod 16) (p2.tmod 16 % 16) (p3.tmod 16 % 16) := by
    have := tmod_bd p0; have := tmod_bd p1; have := tmod_pos p2; have := tmod_pos p3
    unfold small; omega
  have sb : small (q0.tmod 16) (q1.tmod 16) (q2.tmod 16 % 16) (q3.tmod 16 % 16) := by
    have := tmod_bd q0; have := tmod_bd q1; have := tmod_pos q2; have := tmod_pos q3
    unfold small; omega
  clear a1 a2 a3 a4 a5 a6 a7 a8 b1 b2 b3 b4 b5 b6 b7 b8
  generalize p0.tmod 16 = ax at *
  generalize p1.tmod 16 = ay at *
  generalize p2.tmod 16 % 16 = aw at *
  generalize p3.tmod 16 % 16 = ah at *
  generalize q0.tmod 16 = bx at *
  generalize q1.tmod 16 = by' at *
  generalize q2.tmod 16 % 16 = bw at *
  generalize q3.tmod 16 % 16 = bh at *
  have HSM : Hid (small ax ay aw ah ∧ small bx by' bw bh) := ⟨sa, sb⟩
  clear sa sb
  go_enter Try.func7, Try.ntmps7
  go_upto_region 1 with fail
  go_cut [5, 6] (fun s5 s6 wx => ∃ b5 b6, s5 = .pointer (some ⟨b5, 0, none⟩) ∧ s6 = .pointer (some ⟨b6, 0, none⟩) ∧ At4 wx b5 ax ay aw ah ∧ At4 wx b6 bx by' bw bh ∧ Below w.heap.size w wx)
  case first =>
    have HL := four_cells w (.int .i8 p0) (.int .i8 p1) (.int .i8 p2) (.int .i8 p3) (.int .i8 q0) (.int .i8 q1) (.int .i8 q2) (.int .i8 q3) 50 _ rfl
    generalize ((w.alloc (.cells #[.int .i8 p0, .int .i8 p1, .int .i8 p2, .int .i8 p3] 50)).alloc (.cells #[.int .i8 q0, .int .i8 q1, .int .i8 q2, .int .i8 q3] 50)) = w3 at *
    have HL' : Hid _ := HL
    clear HL
    refine wp_region_lit 4 2 2 (fun _ => .cells #[.int .i64 0, .int .i64 0, .int .i64 0, .int .i64 0] 29) [5, 6] (by kernel_rfl) (by kernel_rfl) rfl ?_ rfl ?_ ?_
    · intro k hk
      have hc : k = 0 ∨ k = 1 := by omega
      rcases hc with rfl | rfl <;> rfl
    · intro i h1 h2
      have hc : i = 4 ∨ i = 5 := by omega
      rcases hc with rfl | rfl
      · exact ⟨_, rfl, rfl, fun _ _ => rfl⟩
      · exact ⟨_, rfl, rfl, fun _ _ => rfl⟩
    apply Exists.intro
    refine ⟨fun bs ne => ?_, ?_⟩
    · obtain ⟨⟨c0, c1, c2, c3⟩, ⟨k0, k1, k2, k3⟩, hsz, _⟩ := HL'.out
      have d0 := fun t : Gb w3 bs => (t.below.cell (p := ⟨w.heap.size, 0, none⟩) (by show w.heap.size < _; omega)).trans c0
      have d1 := fun t : Gb w3 bs => (t.below.cell (p := ⟨w.heap.size, 1, none⟩) (by show w.heap.size < _; omega)).trans c1
      have d2 := fun t : Gb w3 bs => (t.below.cell (p := ⟨w.heap.size, 2, none⟩) (by show w.heap.size < _; omega)).trans c2
      have d3 := fun t : Gb w3 bs => (t.below.cell (p := ⟨w.heap.size, 3, none⟩) (by show w.heap.size < _; omega)).trans c3
      have e0 := fun t : Gb w3 bs => (t.below.cell (p := ⟨w.heap.size + 1, 0, none⟩) (by show w.heap.size + 1 < _; omega)).trans k0
      have e1 := fun t : Gb w3 bs => (t.below.cell (p := ⟨w.heap.size + 1, 1, none⟩) (by show w.heap.size + 1 < _; omega)).trans k1
      have e2 := fun t : Gb w3 bs => (t.below.cell (p := ⟨w.heap.size + 1, 2, none⟩) (by show w.heap.size + 1 < _; omega)).trans k2
      have e3 := fun t : Gb w3 bs => (t.below.cell (p := ⟨w.heap.size + 1, 3, none⟩) (by show w.heap.size + 1 < _; omega)).trans k3
      clear c0 c1 c2 c3 k0 k1 k2 k3 hsz
      simp only [List.take_succ_cons, List.take_zero]
      repeat (go_big_quiet_step (first
        | (go_at_call_of 38 (Value.agg #[.int .i8 p0, .int .i8 p1, .int .i8 p2, .int .i8 p3]); exact gb_call (hF1.out _))
        | (go_at_call_of 38 (Value.agg #[.int .i8 q0, .int .i8 q1, .int .i8 q2, .int .i8 q3]); exact gb_call (hF2.out _))))
      exact wpQuiet_nil rfl
    · intro bl wr hb hlo hinj
      obtain ⟨k1, k2⟩ := hlo 4 (by omega) (by omega)
      obtain ⟨k3, k4⟩ := hlo 5 (by omega) (by omega)
      have k5 := hinj 4 5 (by omega) (by omega) (by omega) (by omega) (by omega)
      obtain ⟨c1, f1, l1⟩ := heap_cells k2
      obtain ⟨c2, f2, l2⟩ := heap_cells k4
      simp only [layL, ptr]
      generalize bl 4 = g5 at *
      generalize bl 5 = g6 at *
      clear hlo hinj k2 k4
      refine wpAny_one 6 (by kernel_rfl) rfl ?_
      intro K hK
      go_simp
      refine hK _ _ ?_
      clear hK K
      refine wpAny_one 7 (by kernel_rfl) rfl ?_
      intro K hK
      go_simp
      refine hK _ _ ?_
      clear hK K
      refine wpAny_done (by kernel_rfl) ?_ _
      go_wp2_with fail
      go_meet
      obtain ⟨_, _, hsz, HD⟩ := HL'.out
      have hd := HD.size
      have z5 : At4 wr g5 0 0 0 0 := ⟨by rw [c1]; rfl, by rw [c1]; rfl, by rw [c1]; rfl, by rw [c1]; rfl⟩
      have z6 : At4 wr g6 0 0 0 0 := ⟨by rw [c2]; rfl, by rw [c2]; rfl, by rw [c2]; rfl, by rw [c2]; rfl⟩
      exact ⟨g5, g6, rfl, rfl, ((((z5.put _ _ _ _).set _ (Ne.symm k5)).set _ (Ne.symm k5)).set _ (Ne.symm k5)).set _ (Ne.symm k5), ((((z6.set _ k5).set _ k5).set _ k5).set _ k5).put _ _ _ _,
        set4_below (set4_below (HD.trans (hb.mono hd)) (by omega) _ _ _ _) (by omega) _ _ _ _⟩
  case rest =>
  obtain ⟨g5, g6, rfl, rfl, A, B, L⟩ := hcut
  obtain ⟨wx, rfl⟩ : ∃ wx : World, wx = wc := ⟨_, rfl⟩
  obtain ⟨sa, sb⟩ := HSM.out
  have ma := small_may sa
  have mb := small_may sb
  have ia : I64 ax ∧ I64 ay := by unfold small at sa; exact ⟨⟨by omega, by omega⟩, ⟨by omega, by omega⟩⟩
  have ib : I64 bx ∧ I64 by' := by unfold small at sb; exact ⟨⟨by omega, by omega⟩, ⟨by omega, by omega⟩⟩
  have hmt : Hid (∀ w, Calls Try.prog 33 #[.agg #[.int .i64 ax, .int .i64 ay, .int .i64 aw, .int .i64 ah], .agg #[.int .i64 bx, .int .i64 by', .int .i64 bw, .int .i64 bh]] w fun e w' => e = .returned (.agg #[.int .i64 (meetR ax ay aw ah bx by' bw bh).x, .int .i64 (meetR ax ay aw ah bx by' bw bh).y, .int .i64 (meetR ax ay aw ah bx by' bw bh).w, .int .i64 (meetR ax ay aw ah bx by' bw bh).h]) ∧ Below w.heap.size w w') := fun w => meet_any _ _ _ _ _ _ _ _ _ ia.1 ia.2 ib.1 ib.2
  have hmu : Hid (∀ w, Calls Try.prog 33 #[.agg #[.int .i64 bx, .int .i64 by', .int .i64 bw, .int .i64 bh], .agg #[.int .i64 ax, .int .i64 ay, .int .i64 aw, .int .i64 ah]] w fun e w' => e = .returned (.agg #[.int .i64 (meetR ax ay aw ah bx by' bw bh).x, .int .i64 (meetR ax ay aw ah bx by' bw bh).y, .int .i64 (meetR ax ay aw ah bx by' bw bh).w, .int .i64 (meetR ax ay aw ah bx by' bw bh).h]) ∧ Below w.heap.size w w') := fun w => by
    have := meet_any bx by' bw bh ax ay aw ah w ib.1 ib.2 ia.1 ia.2
    rwa [meet_turn] at this
  have hjn : Hid (∀ w, Calls Try.prog 16 #[.agg #[.int .i64 ax, .int .i64 ay, .int .i64 aw, .int .i64 ah], .agg #[.int .i64 bx, .int .i64 by', .int .i64 bw, .int .i64 bh]] w fun e w' => e = .returned (.agg #[.int .i64 (joinR ax ay aw ah bx by' bw bh).x, .int .i64 (joinR ax ay aw ah bx by' bw bh).y, .int .i64 (joinR ax ay aw ah bx by' bw bh).w, .int .i64 (joinR ax ay aw ah bx by' bw bh).h]) ∧ Below w.heap.size w w') := fun w => join_any _ _ _ _ _ _ _ _ _ ia.1 ia.2 ib.1 ib.2
  have hE : lesE ax ay aw ah bx by' bw bh = 0 := by simp [lesE, ma, mb]
  have hls : Hid (∀ w, Calls Try.prog 28 #[.agg #[.int .i64 ax, .int .i64 ay, .int .i64 aw, .int .i64 ah], .agg #[.int .i64 bx, .int .i64 by', .int .i64 bw, .int .i64 bh]] w fun e w' =>
      ∃ v, e = .returned (.tuple #[v, .int .i64 0]) ∧ w'.ownsRow w.heap.size 29 4 v (lesL ax ay aw ah bx by' bw bh).length (flat (lesL ax ay aw ah bx by' bw bh)) ∧ Below w.heap.size w w') := fun w => by
    have := less_any ax ay aw ah bx by' bw bh w ia.1 ia.2 ib.1 ib.2
    rwa [hE] at this
  have hov : Hid (∀ w, Calls Try.prog 15 #[.agg #[.int .i64 ax, .int .i64 ay, .int .i64 aw, .int .i64 ah], .agg #[.int .i64 bx, .int .i64 by', .int .i64 bw, .int .i64 bh]] w fun e w' => e = .returned (.bool (overB ax ay aw ah bx by' bw bh)) ∧ Below w.heap.size w w') := fun w => over_any _ _ _ _ _ _ _ _ _ ia.1 ia.2 ib.1 ib.2
  have hou : Hid (∀ w, Calls Try.prog 15 #[.agg #[.int .i64 bx, .int .i64 by', .int .i64 bw, .int .i64 bh], .agg #[.int .i64 ax, .int .i64 ay, .int .i64 aw, .int .i64 ah]] w fun e w' => e = .returned (.bool (overB bx by' bw bh ax ay aw ah)) ∧ Below w.heap.size w w') := fun w => over_any _ _ _ _ _ _ _ _ _ ib.1 ib.2 ia.1 ia.2
  have hin : Hid (∀ w, Calls Try.prog 14 #[.agg #[.int .i64 ax, .int .i64 ay, .int .i64 aw, .int .i64 ah], .agg #[.int .i64 bx, .int .i64 by', .int .i64 bw, .int .i64 bh]] w fun e w' => e = .returned (.bool (inB ax ay aw ah bx by' bw bh)) ∧ Below w.heap.size w w') := fun w => in_any _ _ _ _ _ _ _ _ _ ia.1 ia.2 ib.1 ib.2
  have hhs : Hid (∀ px py w, Calls Try.prog 13 #[.agg #[.int .i64 ax, .int .i64 ay, .int .i64 aw, .int .i64 ah], .agg #[.int .i64 px, .int .i64 py]] w fun e w' => e = .returned (.bool (plB ax ay aw ah px py)) ∧ Below w.heap.size w w') := fun px py w => by
    have := has_any ax ay aw ah px py w ia.1 ia.2
    rwa [has_pl px py ma] at this
  have hla : Hid (∀ px py w, Calls Try.prog 39 #[.agg #[.int .i64 ax, .int .i64 ay, .int .i64 aw, .int .i64 ah], .int .i64 px, .int .i64 py] w fun e w' => e = .returned (.bool (plB ax ay aw ah px py)) ∧ Below w.heap.size w w') := fun px py w => by
    unfold small at sa
    exact lhas_any _ _ _ _ _ _ _ (by omega) (by omega) (by omega) (by omega) (by omega) (by omega) (by omega) (by omega)
  have hlb : Hid (∀ px py w, Calls Try.prog 39 #[.agg #[.int .i64 bx, .int .i64 by', .int .i64 bw, .int .i64 bh], .int .i64 px, .int .i64 py] w fun e w' => e = .returned (.bool (plB bx by' bw bh px py)) ∧ Below w.heap.size w w') := fun px py w => by
    unfold small at sb
    exact lhas_any _ _ _ _ _ _ _ (by omega) (by omega) (by omega) (by omega) (by omega) (by omega) (by omega) (by omega)
  have hlm : Hid (∀ px py w, Calls Try.prog 39 #[.agg #[.int .i64 (meetR ax ay aw ah bx by' bw bh).x, .int .i64 (meetR ax ay aw ah bx by' bw bh).y, .int .i64 (meetR ax ay aw ah bx by' bw bh).w, .int .i64 (meetR ax ay aw ah bx by' bw bh).h], .int .i64 px, .int .i64 py] w fun e w' => e = .returned (.bool (plB ax ay aw ah px py && plB bx by' bw bh px py)) ∧ Below w.heap.size w w') := fun px py w => by
    have b := meet_lim ma mb
    have := lhas_any (meetR ax ay aw ah bx by' bw bh).x (meetR ax ay aw ah bx by' bw bh).y (meetR ax ay aw ah bx by' bw bh).w (meetR ax ay aw ah bx by' bw bh).h px py w (by omega) (by omega) (by omega) (by omega) (by omega) (by omega) (by omega) (by omega)
    rwa [pl_meet px py ma mb] at this
  have hlj : Hid (∀ px py w, (plB ax ay aw ah px py || plB bx by' bw bh px py) = true → Calls Try.prog 39 #[.agg #[.int .i64 (joinR ax ay aw ah bx by' bw bh).x, .int .i64 (joinR ax ay aw ah bx by' bw bh).y, .int .i64 (joinR ax ay aw ah bx by' bw bh).w, .int .i64 (joinR ax ay aw ah bx by' bw bh).h], .int .i64 px, .int .i64 py] w fun e w' => e = .returned (.bool true) ∧ Below w.heap.size w w') := fun px py w hp => by
    have b := may_bd (join_ok ma mb).2.2
    have := lhas_any (joinR ax ay aw ah bx by' bw bh).x (joinR ax ay aw ah bx by' bw bh).y (joinR ax ay aw ah bx by' bw bh).w (joinR ax ay aw ah bx by' bw bh).h px py w (by omega) (by omega) (by omega) (by omega) (by omega) (by omega) (by omega) (by omega)
    rwa [pl_join px py ma mb hp] at this
  have hlr : Hid (∀ r ∈ lesL ax ay aw ah bx by' bw bh, ∀ px py w, Calls Try.prog 39 #[.agg #[.int .i64 r.x, .int .i64 r.y, .int .i64 r.w, .int .i64 r.h], .int .i64 px, .int .i64 py] w fun e w' => e = .returned (.bool (plB r.x r.y r.w r.h px py)) ∧ Below w.heap.size w w') := fun r hr px py w => by
    obtain ⟨p1, _, _⟩ := (less_ok ma mb).1 r hr
    have b := bounds_of p1
    exact lhas_any _ _ _ _ _ _ _ (by omega) (by omega) (by omega) (by omega) (by omega) (by omega) (by omega) (by omega)
  have hct : Hid (∀ px py, cnt px py (lesL ax ay aw ah bx by' bw bh) = if (plB ax ay aw ah px py && !plB bx by' bw bh px py) = true then 1 else 0) := fun px py => cnt_less px py ma mb
  have hen : Hid (∀ (any all over : Bool) (l r u d : Int), Seen (plB ax ay aw ah) (plB bx by' bw bh) 34 (-18) any all over l r u d →
    overB ax ay aw ah bx by' bw bh = over ∧ overB bx by' bw bh ax ay aw ah = over ∧ inB ax ay aw ah bx by' bw bh = all ∧
    (any = true → joinR ax ay aw ah bx by' bw bh = ⟨l, u, r - l + 1, d - u + 1⟩ ∧ -18 ≤ l ∧ l ≤ 34 ∧ -18 ≤ r ∧ r ≤ 34 ∧ -18 ≤ u ∧ u ≤ 34 ∧ -18 ≤ d ∧ d ≤ 34) ∧ (any = false → joinR ax ay aw ah bx by' bw bh = zr)) := fun _ _ _ _ _ _ _ h => seen_end sa sb h
  have hlen := les_four ax ay aw ah bx by' bw bh
  clear hE sa sb ma mb ia ib HSM hF1 hF2
  generalize meetR ax ay aw ah bx by' bw bh = rm at *
  generalize joinR ax ay aw ah bx by' bw bh = rj at *
  generalize lesL ax ay aw ah bx by' bw bh = rs at *
  generalize inB ax ay aw ah bx by' bw bh = ib at *
  generalize overB ax ay aw ah bx by' bw bh = ob at *
  generalize overB bx by' bw bh ax ay aw ah = oc at *
  generalize hPA : plB ax ay aw ah = PA at *
  generalize hPB : plB bx by' bw bh = PB at *
  clear hPA hPB
  obtain ⟨a0, a1, a2, a3⟩ := id A
  obtain ⟨b0, b1, b2, b3⟩ := id B
  go_wp2_with fail
  clear a0 a1 a2 a3 b0 b1 b2 b3
  refine (hmt.out _).mono ?_
  rintro e w1 ⟨rfl, hb⟩
  replace A := A.below hb
  replace B := B.below hb
  replace L := L.trans (hb.mono L.size)
  clear hb
  have la := A.lt
  have lb := B.lt
  obtain ⟨a0, a1, a2, a3⟩ := id A
  obtain ⟨b0, b1, b2, b3⟩ := id B
  go_wp2_with fail
  clear a0 a1 a2 a3 b0 b1 b2 b3
  refine (hjn.out _).mono ?_
  rintro e w2 ⟨rfl, hb⟩
  replace A := (A.alloc _).below hb
  replace B := (B.alloc _).below hb
  have M := (At4.new w1 rm.x rm.y rm.w rm.h 29).below hb
  replace L := (L.alloc L.size _).trans (hb.mono (by have := L.size; simp; omega))
  clear hb la lb
  have la := A.lt
  have lb := B.lt
  have lm := M.lt
  obtain ⟨a0, a1, a2, a3⟩ := id A
  obtain ⟨b0, b1, b2, b3⟩ := id B
  go_wp2_with fail
  clear a0 a1 a2 a3 b0 b1 b2 b3
  refine (hls.out _).mono ?_
  rintro e w3 ⟨v, rfl, hown, hb⟩
  replace A := (A.alloc _).below hb
  replace B := (B.alloc _).below hb
  replace M := (M.alloc _).below hb
  have J := (At4.new w2 rj.x rj.y rj.w rj.h 29).below hb
  replace L := (L.alloc L.size _).trans (hb.mono (by have := L.size; simp; omega))
  clear hb la lb lm
  have D := lst_own hown
  clear hown
  go_wp2_with fail
  refine (alive_any _).mono ?_
  rintro e w4 ⟨rfl, hb⟩
  replace A := A.below hb
  replace B := B.below hb
  replace M := M.below hb
  replace J := J.below hb
  replace D := D.below hb
  replace L := L.trans (hb.mono L.size)
  clear hb
  obtain ⟨oa, cap, rfl, hcap, hcells⟩ := D
  generalize w1.heap.size = g7 at *
  generalize w2.heap.size = g8 at *
  have HB : Hid (At4 w4 g5 ax ay aw ah ∧ At4 w4 g6 bx by' bw bh ∧ At4 w4 g7 rm.x rm.y rm.w rm.h ∧ At4 w4 g8 rj.x rj.y rj.w rj.h ∧ Below w.heap.size w w4 ∧ (0 < rs.length → ∃ g, oa = some ⟨g, 0, none⟩ ∧ g < w4.heap.size ∧ ∀ j, j < rs.length * 4 → w4.cell? ⟨g, j, none⟩ = (flat rs)[j]?)) := ⟨A, B, M, J, L, hcells⟩
  clear A B M J L hcells
  have hl4 : ((4 : Int) < (rs.length : Int)) = False := by simp; omega
  go_wp2_with fail
  go_loopw [11, 12, 13, 14, 15, 16, 17, 18] (fun s11 s12 s13 s14 s15 s16 s17 s18 wr => ∃ (ba bl bo : Bool) (cl cr cu cd Y : Int), s11 = .bool ba ∧ s12 = .bool bl ∧ s13 = .bool bo ∧ s14 = .int .i64 cl ∧ s15 = .int .i64 cr ∧ s16 = .int .i64 cu ∧ s17 = .int .i64 cd ∧ s18 = .int .i64 Y ∧ -18 ≤ Y ∧ Y ≤ 34 ∧ Seen PA PB Y (-18) ba bl bo cl cr cu cd ∧ Below w4.heap.size w4 wr) (fun _ _ _ _ _ _ _ i _ => (34 - intOf i).toNat)
  case atStart => exact ⟨false, true, false, 99, -99, 99, -99, -18, rfl, rfl, rfl, rfl, rfl, rfl, rfl, rfl, by omega, by omega, seen_start _ _, Below.refl _ _⟩
  case round =>
    obtain ⟨ba, bl, bo, cl, cr, cu, cd, Y, rfl, rfl, rfl, rfl, rfl, rfl, rfl, rfl, y1, y2, hS, hw⟩ := hrel
    by_cases hlt : Y < 34
    case pos =>
      obtain ⟨wo, rfl⟩ : ∃ wo : World, wo = wr := ⟨_, rfl⟩
      have HY : Hid (Seen PA PB Y (-18) ba bl bo cl cr cu cd ∧ Below w4.heap.size w4 wo) := ⟨hS, hw⟩
      clear hS hw
      go_wp2_with fail
      go_loopw [11, 12, 13, 14, 15, 16, 17, 19] (fun s11 s12 s13 s14 s15 s16 s17 s19 wr => ∃ (ba bl bo : Bool) (cl cr cu cd X : Int), s11 = .bool ba ∧ s12 = .bool bl ∧ s13 = .bool bo ∧ s14 = .int .i64 cl ∧ s15 = .int .i64 cr ∧ s16 = .int .i64 cu ∧ s17 = .int .i64 cd ∧ s19 = .int .i64 X ∧ -18 ≤ X ∧ X ≤ 34 ∧ Seen PA PB Y X ba bl bo cl cr cu cd ∧ Below w4.heap.size w4 wr) (fun _ _ _ _ _ _ _ i _ => (34 - intOf i).toNat)
      case atStart => exact ⟨_, _, _, _, _, _, _, -18, rfl, rfl, rfl, rfl, rfl, rfl, rfl, rfl, by omega, by omega, HY.out.1, HY.out.2⟩
      case round =>
        clear HY
        obtain ⟨ba, bl, bo, cl, cr, cu, cd, X, rfl, rfl, rfl, rfl, rfl, rfl, rfl, rfl, x1, x2, hS, hw⟩ := hrel
        have HS : Hid (Seen PA PB Y X ba bl bo cl cr cu cd) := hS
        clear hS
        by_cases hx : X < 34
        case pos =>
          obtain ⟨A, B, M, J, L, hcells⟩ := HB.out
          have A' := A.below hw
          have B' := B.below hw
          have a0 := fun t : Gw wr => (gw4 A' t).1
          have a1 := fun t : Gw wr => (gw4 A' t).2.1
          have a2 := fun t : Gw wr => (gw4 A' t).2.2.1
          have a3 := fun t : Gw wr => (gw4 A' t).2.2.2
          have b0 := fun t : Gw wr => (gw4 B' t).1
          have b1 := fun t : Gw wr => (gw4 B' t).2.1
          have b2 := fun t : Gw wr => (gw4 B' t).2.2.1
          have b3 := fun t : Gw wr => (gw4 B' t).2.2.2
          have ne := gw_ne hw
          have hA1 : Hid (∀ w, Calls Try.prog 39 #[.agg #[.int .i64 ax, .int .i64 ay, .int .i64 aw, .int .i64 ah], .int .i64 X, .int .i64 Y] w fun e w' => e = .returned (.bool (PA X Y)) ∧ Below w.heap.size w w') := hla.out X Y
          have hB1 : Hid (∀ w, Calls Try.prog 39 #[.agg #[.int .i64 bx, .int .i64 by', .int .i64 bw, .int .i64 bh], .int .i64 X, .int .i64 Y] w fun e w' => e = .returned (.bool (PB X Y)) ∧ Below w.heap.size w w') := hlb.out X Y
          clear A B M J L hcells A' B'
          go_wp2_with fail
          refine wp_region_gw (by kernel_rfl) (by kernel_rfl) ?_
          repeat (go_big_quiet_step (first
            | (go_at_call_of 39 (Value.agg #[.int .i64 ax, .int .i64 ay, .int .i64 aw, .int .i64 ah]); exact gw_call (hA1.out _))
            | (go_at_call_of 39 (Value.agg #[.int .i64 bx, .int .i64 by', .int .i64 bw, .int .i64 bh]); exact gw_call (hB1.out _))))
          refine wpQuiet_nil ?_
          rintro _ ⟨t, rfl⟩
          clear a0 a1 a2 a3 b0 b1 b2 b3 ne hA1 hB1
          obtain ⟨w5, hw5, hwt⟩ : ∃ w5 : World, t.wd = w5 ∧ Below w4.heap.size w4 w5 := ⟨_, rfl, hw.trans (t.below.mono hw.size)⟩
          rw [hw5]
          clear hw5 t hw
          go_wp2_with fail
          go_loopw [22, 23] (fun n i wr => ∃ k : Nat, k ≤ rs.length ∧ i = .int .i64 k ∧ n = .int .i64 (cnt X Y (rs.take k)) ∧ Below w4.heap.size w4 wr) (fun _ i _ => rs.length - (intOf i).toNat)
          case atStart => exact ⟨0, Nat.zero_le _, rfl, by simp [cnt], hwt⟩
          case round =>
          obtain ⟨k, hk, rfl, rfl, hw3⟩ := hrel
          by_cases hkl : k < rs.length
          case pos =>
           as_aux_lemma =>
            obtain ⟨A, B, M, J, L, hcells⟩ := HB.out
            obtain ⟨g, rfl, g2, hc⟩ := hcells (by omega)
            obtain ⟨f0, f1, f2, f3⟩ := flat_at rs k hkl
            have c0 := ((hw3.cell (p := ⟨g, k * 4, none⟩) g2).trans (hc _ (by omega))).trans f0
            have c1 := ((hw3.cell (p := ⟨g, k * 4 + 1, none⟩) g2).trans (hc _ (by omega))).trans f1
            have c2 := ((hw3.cell (p := ⟨g, k * 4 + 2, none⟩) g2).trans (hc _ (by omega))).trans f2
            have c3 := ((hw3.cell (p := ⟨g, k * 4 + 3, none⟩) g2).trans (hc _ (by omega))).trans f3
            have hR : Hid (∀ w, Calls Try.prog 39 #[.agg #[.int .i64 rs[k].x, .int .i64 rs[k].y, .int .i64 rs[k].w, .int .i64 rs[k].h], .int .i64 X, .int .i64 Y] w fun e w' => e = .returned (.bool (plB rs[k].x rs[k].y rs[k].w rs[k].h X Y)) ∧ Below w.heap.size w w') := hlr.out rs[k] (List.getElem_mem hkl) X Y
            have t4 := cnt_take X Y rs k hkl
            have tb := cnt_bd X Y (rs.take k)
            have tl : (rs.take k).length ≤ 4 := by rw [List.length_take]; omega
            generalize plB rs[k].x rs[k].y rs[k].w rs[k].h X Y = pb at *
            generalize rs[k] = r at *
            clear A B M J L hcells hc f0 f1 f2 f3
            have HT : Hid (cnt X Y (rs.take (k + 1)) = cnt X Y (rs.take k) + if pb = true then 1 else 0) := t4
            clear t4
            go_wp2_with fail
            clear c0 c1 c2 c3
            refine (hR.out _).mono ?_
            rintro e w6 ⟨rfl, hb⟩
            replace hw3 := hw3.trans (hb.mono hw3.size)
            clear hb hR
            cases pb
            · go_wp2
              go_roundw
              case rel => exact ⟨k + 1, by omega, by go_num, by rw [HT.out]; simp, hw3⟩
              case measure => simp [intOf]; omega
            · go_wp2
              go_roundw
              case rel => exact ⟨k + 1, by omega, by go_num, by rw [HT.out]; simp, hw3⟩
              case measure => simp [intOf]; omega
          case neg =>
          have hkk : k = rs.length := by omega
          subst hkk
          rw [List.take_length]
          obtain ⟨A, B, M, J, L, hcells⟩ := HB.out
          replace A := A.below hw3
          replace M := M.below hw3
          replace J := J.below hw3
          clear B L hcells
          have hn := hct.out X Y
          have hM0 := hlm.out X Y
          have hH0 := hhs.out X Y
          have hJ0 := hlj.out X Y
          cases hA : PA X Y <;> cases hB : PB X Y
          case false.false =>
            as_aux_lemma =>
              rw [hA, hB] at hn hM0 hJ0
              rw [hA] at hH0
              clear hJ0
              simp at hn hM0
              have hM : Hid _ := hM0
              have hH : Hid _ := hH0
              clear hM0 hH0
              rw [hn]
              have S1 := seen_step (A := PA) (B := PB) x1 hx y1 hlt HS.out
              rw [hA, hB] at S1
              simp at S1
              have HS1 : Hid _ := S1
              clear S1
              obtain ⟨m0, m1, m2, m3⟩ := id M
              have lm := M.lt
              go_wp2_with fail
              clear m0 m1 m2 m3 lm
              refine (hM.out _).mono ?_
              rintro e w6 ⟨rfl, hb⟩
              replace A := A.below hb
              replace J := J.below hb
              replace hw3 := hw3.trans (hb.mono hw3.size)
              clear hb M
              obtain ⟨a0, a1, a2, a3⟩ := id A
              have la := A.lt
              go_wp2_with fail
              clear a0 a1 a2 a3 la
              refine (hH.out _).mono ?_
              rintro e w8 ⟨rfl, hb⟩
              replace hw3 := hw3.trans (hb.mono hw3.size)
              clear hb A J
              cases bo <;> cases bl
              all_goals
                as_aux_lemma =>
                  go_wp2
                  go_roundw
                  case rel => exact ⟨_, _, _, _, _, _, _, X + 1, rfl, rfl, rfl, rfl, rfl, rfl, rfl, by go_num, by omega, by omega, HS1.out, hw3⟩
                  case measure => simp [intOf]; omega
          case false.true =>
            as_aux_lemma =>
              rw [hA, hB] at hn hM0 hJ0
              rw [hA] at hH0
              simp at hn hM0 hJ0
              have hJ : Hid _ := hJ0
              clear hJ0
              have hM : Hid _ := hM0
              have hH : Hid _ := hH0
              clear hM0 hH0
              rw [hn]
              have S1 := seen_step (A := PA) (B := PB) x1 hx y1 hlt HS.out
              rw [hA, hB] at S1
              simp at S1
              have HS1 : Hid _ := S1
              clear S1
              obtain ⟨m0, m1, m2, m3⟩ := id M
              have lm := M.lt
              go_wp2_with fail
              clear m0 m1 m2 m3 lm
              refine (hM.out _).mono ?_
              rintro e w6 ⟨rfl, hb⟩
              replace A := A.below hb
              replace J := J.below hb
              replace hw3 := hw3.trans (hb.mono hw3.size)
              clear hb M
              obtain ⟨j0, j1, j2, j3⟩ := id J
              have lj := J.lt
              go_wp2_with fail
              clear j0 j1 j2 j3 lj
              refine (hJ.out _).mono ?_
              rintro e w7 ⟨rfl, hb⟩
              replace A := A.below hb
              replace hw3 := hw3.trans (hb.mono hw3.size)
              clear hb
              obtain ⟨a0, a1, a2, a3⟩ := id A
              have la := A.lt
              go_wp2_with fail
              clear a0 a1 a2 a3 la
              refine (hH.out _).mono ?_
              rintro e w8 ⟨rfl, hb⟩
              replace hw3 := hw3.trans (hb.mono hw3.size)
              clear hb A J
              cases bo <;> cases bl
              all_goals
                as_aux_lemma =>
                  go_wp2
                  go_roundw
                  case rel => exact ⟨_, _, _, _, _, _, _, X + 1, rfl, rfl, rfl, rfl, rfl, rfl, rfl, by go_num, by omega, by omega, by rw [ite_min, ite_max, ite_min, ite_max]; exact HS1.out, hw3⟩
                  case measure => simp [intOf]; omega
          case true.false =>
            as_aux_lemma =>
              rw [hA, hB] at hn hM0 hJ0
              rw [hA] at hH0
              simp at hn hM0 hJ0
              have hJ : Hid _ := hJ0
              clear hJ0
              have hM : Hid _ := hM0
              have hH : Hid _ := hH0
              clear hM0 hH0
              rw [hn]
              have S1 := seen_step (A := PA) (B := PB) x1 hx y1 hlt HS.out
              rw [hA, hB] at S1
              simp at S1
              have HS1 : Hid _ := S1
              clear S1
              obtain ⟨m0, m1, m2, m3⟩ := id M
              have lm := M.lt
              go_wp2_with fail
              clear m0 m1 m2 m3 lm
              refine (hM.out _).mono ?_
              rintro e w6 ⟨rfl, hb⟩
              replace A := A.below hb
              replace J := J.below hb
              replace hw3 := hw3.trans (hb.mono hw3.size)
              clear hb M
              obtain ⟨j0, j1, j2, j3⟩ := id J
              have lj := J.lt
              go_wp2_with fail
              clear j0 j1 j2 j3 lj
              refine (hJ.out _).mono ?_
              rintro e w7 ⟨rfl, hb⟩
              replace A := A.below hb
              replace hw3 := hw3.trans (hb.mono hw3.size)
              clear hb
              obtain ⟨a0, a1, a2, a3⟩ := id A
              have la := A.lt
              go_wp2_with fail
              clear a0 a1 a2 a3 la
              refine (hH.out _).mono ?_
              rintro e w8 ⟨rfl, hb⟩
              replace hw3 := hw3.trans (hb.mono hw3.size)
              clear hb A J
              cases bo <;> cases bl
              all_goals
                as_aux_lemma =>
                  go_wp2
                  go_roundw
                  case rel => exact ⟨_, _, _, _, _, _, _, X + 1, rfl, rfl, rfl, rfl, rfl, rfl, rfl, by go_num, by omega, by omega, by rw [ite_min, ite_max, ite_min, ite_max]; exact HS1.out, hw3⟩
                  case measure => simp [intOf]; omega
          case true.true =>
            as_aux_lemma =>
              rw [hA, hB] at hn hM0 hJ0
              rw [hA] at hH0
              simp at hn hM0 hJ0
              have hJ : Hid _ := hJ0
              clear hJ0
              have hM : Hid _ := hM0
              have hH : Hid _ := hH0
              clear hM0 hH0
              rw [hn]
              have S1 := seen_step (A := PA) (B := PB) x1 hx y1 hlt HS.out
              rw [hA, hB] at S1
              simp at S1
              have HS1 : Hid _ := S1
              clear S1
              obtain ⟨m0, m1, m2, m3⟩ := id M
              have lm := M.lt
              go_wp2_with fail
              clear m0 m1 m2 m3 lm
              refine (hM.out _).mono ?_
              rintro e w6 ⟨rfl, hb⟩
              replace A := A.below hb
              replace J := J.below hb
              replace hw3 := hw3.trans (hb.mono hw3.size)
              clear hb M
              obtain ⟨j0, j1, j2, j3⟩ := id J
              have lj := J.lt
              go_wp2_with fail
              clear j0 j1 j2 j3 lj
              refine (hJ.out _).mono ?_
              rintro e w7 ⟨rfl, hb⟩
              replace A := A.below hb
              replace hw3 := hw3.trans (hb.mono hw3.size)
              clear hb
              obtain ⟨a0, a1, a2, a3⟩ := id A
              have la := A.lt
              go_wp2_with fail
              clear a0 a1 a2 a3 la
              refine (hH.out _).mono ?_
              rintro e w8 ⟨rfl, hb⟩
              replace hw3 := hw3.trans (hb.mono hw3.size)
              clear hb A J
              cases bo <;> cases bl
              all_goals
                as_aux_lemma =>
                  go_wp2
                  go_roundw
                  case rel => exact ⟨_, _, _, _, _, _, _, X + 1, rfl, rfl, rfl, rfl, rfl, rfl, rfl, by go_num, by omega, by omega, by rw [ite_min, ite_max, ite_min, ite_max]; exact HS1.out, hw3⟩
                  case measure => simp [intOf]; omega
        case neg =>
          have hxx : X = 34 := by omega
          subst hxx
          go_wp2
          go_roundw
          case rel => exact ⟨_, _, _, _, _, _, _, Y + 1, rfl, rfl, rfl, rfl, rfl, rfl, rfl, by go_num, by omega, by omega, seen_row HS.out, hw⟩
          case measure => simp [intOf]; omega
    case neg =>
      have hyy : Y = 34 := by omega
      subst hyy
      obtain ⟨o1, o2, i1, jt, jf⟩ := hen.out _ _ _ _ _ _ _ hS
      subst o1
      subst o2
      subst i1
      obtain ⟨A, B, M, J, L, hcells⟩ := HB.out
      replace A := A.below hw
      replace B := B.below hw
      replace M := M.below hw
      replace J := J.below hw
      replace L := L.trans (hw.mono L.size)
      clear HB hcells hw hS hen hlr hlj hlm hla hlb hhs hct hls hjn hmt
      cases ba
      · as_aux_lemma =>
        have ej := jf rfl
        subst ej
        clear jt jf
        replace J : At4 wr g8 0 0 0 0 := J
        have a0 := fun t : Gw wr => (gw4 A t).1
        have a1 := fun t : Gw wr => (gw4 A t).2.1
        have a2 := fun t : Gw wr => (gw4 A t).2.2.1
        have a3 := fun t : Gw wr => (gw4 A t).2.2.2
        have b0 := fun t : Gw wr => (gw4 B t).1
        have b1 := fun t : Gw wr => (gw4 B t).2.1
        have b2 := fun t : Gw wr => (gw4 B t).2.2.1
        have b3 := fun t : Gw wr => (gw4 B t).2.2.2
        have m0 := fun t : Gw wr => (gw4 M t).1
        have m1 := fun t : Gw wr => (gw4 M t).2.1
        have m2 := fun t : Gw wr => (gw4 M t).2.2.1
        have m3 := fun t : Gw wr => (gw4 M t).2.2.2
        have j0 := fun t : Gw wr => (gw4 J t).1
        have j1 := fun t : Gw wr => (gw4 J t).2.1
        have j2 := fun t : Gw wr => (gw4 J t).2.2.1
        have j3 := fun t : Gw wr => (gw4 J t).2.2.2
        have ne := gw_ne L
        have hq := neq_rect
        have HL : Hid (At4 wr g5 ax ay aw ah ∧ At4 wr g6 bx by' bw bh ∧ At4 wr g7 rm.x rm.y rm.w rm.h ∧ Below w.heap.size w wr) := ⟨A, B, M, L⟩
        clear A B M J L
        go_wp2_with fail
        refine wp_region_gw (by kernel_rfl) (by kernel_rfl) ?_
        repeat (go_big_quiet_step (first
          | (go_at_call 10; exact gw_call (r_any _ _ _ _ _))))
        refine wpQuiet_nil ?_
        rintro _ ⟨t, rfl⟩
        clear a0 a1 a2 a3 b0 b1 b2 b3 m0 m1 m2 m3 j0 j1 j2 j3 ne hq
        obtain ⟨A, B, M, L⟩ := HL.out
        replace A := A.below t.below
        replace B := B.below t.below
        replace M := M.below t.below
        replace L := L.trans (t.below.mono L.size)
        clear HL
        generalize t.wd = w9 at *
        have a0 := fun t : Gw w9 => (gw4 A t).1
        have a1 := fun t : Gw w9 => (gw4 A t).2.1
        have a2 := fun t : Gw w9 => (gw4 A t).2.2.1
        have a3 := fun t : Gw w9 => (gw4 A t).2.2.2
        have b0 := fun t : Gw w9 => (gw4 B t).1
        have b1 := fun t : Gw w9 => (gw4 B t).2.1
        have b2 := fun t : Gw w9 => (gw4 B t).2.2.1
        have b3 := fun t : Gw w9 => (gw4 B t).2.2.2
        have m0 := fun t : Gw w9 => (gw4 M t).1
        have m1 := fun t : Gw w9 => (gw4 M t).2.1
        have m2 := fun t : Gw w9 => (gw4 M t).2.2.1
        have m3 := fun t : Gw w9 => (gw4 M t).2.2.2
        have ne := gw_ne L
        have hq := eql_rect
        have HL : Hid (Below w.heap.size w w9) := L
        clear A B M L
        go_wp2_with fail
        refine wp_region_gw (by kernel_rfl) (by kernel_rfl) ?_
        repeat (go_big_quiet_step (first
          | (go_at_call_of 15 (Value.agg #[.int .i64 ax, .int .i64 ay, .int .i64 aw, .int .i64 ah]); exact gw_call (hov.out _))
          | (go_at_call_of 15 (Value.agg #[.int .i64 bx, .int .i64 by', .int .i64 bw, .int .i64 bh]); exact gw_call (hou.out _))
          | (go_at_call 14; exact gw_call (hin.out _))
          | (go_at_call 33; exact gw_call (hmu.out _))))
        refine wpQuiet_nil ?_
        rintro _ ⟨t, rfl⟩
        go_wp2
        go_ret
        exact ⟨rfl, HL.out.trans (t.below.mono HL.out.size)⟩
      · as_aux_lemma =>
        obtain ⟨ej, l1, l2, l3, l4, l5, l6, l7, l8⟩ := jt rfl
        subst ej
        clear jt jf
        replace J : At4 wr g8 cl cu (cr - cl + 1) (cd - cu + 1) := J
        have a0 := fun t : Gw wr => (gw4 A t).1
        have a1 := fun t : Gw wr => (gw4 A t).2.1
        have a2 := fun t : Gw wr => (gw4 A t).2.2.1
        have a3 := fun t : Gw wr => (gw4 A t).2.2.2
        have b0 := fun t : Gw wr => (gw4 B t).1
        have b1 := fun t : Gw wr => (gw4 B t).2.1
        have b2 := fun t : Gw wr => (gw4 B t).2.2.1
        have b3 := fun t : Gw wr => (gw4 B t).2.2.2
        have m0 := fun t : Gw wr => (gw4 M t).1
        have m1 := fun t : Gw wr => (gw4 M t).2.1
        have m2 := fun t : Gw wr => (gw4 M t).2.2.1
        have m3 := fun t : Gw wr => (gw4 M t).2.2.2
        have j0 := fun t : Gw wr => (gw4 J t).1
        have j1 := fun t : Gw wr => (gw4 J t).2.1
        have j2 := fun t : Gw wr => (gw4 J t).2.2.1
        have j3 := fun t : Gw wr => (gw4 J t).2.2.2
        have ne := gw_ne L
        have hq := neq_rect
        have HL : Hid (At4 wr g5 ax ay aw ah ∧ At4 wr g6 bx by' bw bh ∧ At4 wr g7 rm.x rm.y rm.w rm.h ∧ Below w.heap.size w wr) := ⟨A, B, M, L⟩
        clear A B M J L
        go_wp2_with fail
        refine wp_region_gw (by kernel_rfl) (by kernel_rfl) ?_
        repeat (go_big_quiet_step (first
          | (go_at_call 10; exact gw_call (r_any _ _ _ _ _))))
        refine wpQuiet_nil ?_
        rintro _ ⟨t, rfl⟩
        clear a0 a1 a2 a3 b0 b1 b2 b3 m0 m1 m2 m3 j0 j1 j2 j3 ne hq
        obtain ⟨A, B, M, L⟩ := HL.out
        replace A := A.below t.below
        replace B := B.below t.below
        replace M := M.below t.below
        replace L := L.trans (t.below.mono L.size)
        clear HL
        generalize t.wd = w9 at *
        have a0 := fun t : Gw w9 => (gw4 A t).1
        have a1 := fun t : Gw w9 => (gw4 A t).2.1
        have a2 := fun t : Gw w9 => (gw4 A t).2.2.1
        have a3 := fun t : Gw w9 => (gw4 A t).2.2.2
        have b0 := fun t : Gw w9 => (gw4 B t).1
        have b1 := fun t : Gw w9 => (gw4 B t).2.1
        have b2 := fun t : Gw w9 => (gw4 B t).2.2.1
        have b3 := fun t : Gw w9 => (gw4 B t).2.2.2
        have m0 := fun t : Gw w9 => (gw4 M t).1
        have m1 := fun t : Gw w9 => (gw4 M t).2.1
        have m2 := fun t : Gw w9 => (gw4 M t).2.2.1
        have m3 := fun t : Gw w9 => (gw4 M t).2.2.2
        have ne := gw_ne L
        have hq := eql_rect
        have HL : Hid (Below w.heap.size w w9) := L
        clear A B M L
        go_wp2_with fail
        refine wp_region_gw (by kernel_rfl) (by kernel_rfl) ?_
        repeat (go_big_quiet_step (first
          | (go_at_call_of 15 (Value.agg #[.int .i64 ax, .int .i64 ay, .int .i64 aw, .int .i64 ah]); exact gw_call (hov.out _))
          | (go_at_call_of 15 (Value.agg #[.int .i64 bx, .int .i64 by', .int .i64 bw, .int .i64 bh]); exact gw_call (hou.out _))
          | (go_at_call 14; exact gw_call (hin.out _))
          | (go_at_call 33; exact gw_call (hmu.out _))))
        refine wpQuiet_nil ?_
        rintro _ ⟨t, rfl⟩
        go_wp2
        go_ret
        exact ⟨rfl, HL.out.trans (t.below.mono HL.out.size)⟩

end Go.Proofs.Ytpeppbfkbijdiaa
