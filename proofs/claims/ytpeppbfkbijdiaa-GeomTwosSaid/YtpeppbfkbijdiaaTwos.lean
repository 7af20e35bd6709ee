/-
  The walk of the statement GeomTwos: it answers true; of what was there nothing turns.
-/
import Derived.Test.YtpeppbfkbijdiaaSm
import Derived.Test.YtpeppbfkbijdiaaRL
namespace Go.Proofs.Ytpeppbfkbijdiaa
open Go.RowKit

theorem same_true (rs : List Rc) (v1 v2 : Value) (w : World) (h1 : Lst w v1 rs) (h2 : Lst w v2 rs) (hl : rs.length < 1000000) :
    Calls Try.prog 30 #[v1, v2] w fun e w' => e = .returned (.bool true) ∧ Below w.heap.size w w' :=
  (same_any rs rs v1 v2 w h1 h2 hl).mono fun e w' ⟨b, he, hb, hw⟩ => ⟨by rw [he, hb.2 rfl], hw⟩
/-- Cells that may be written. -/
def Room (w : World) (g n : Nat) : Prop := ∀ j, j < n → (∃ u, w.cell? ⟨g, j, none⟩ = some u) ∧ w.frozen? ⟨g, j, none⟩ = false
theorem Room.below {w w' : World} {g n : Nat} (h : Room w g n) (hb : Below w.heap.size w w') : Room w' g n := fun j hj => by
  obtain ⟨⟨u, hu⟩, hf⟩ := h j hj
  have lt := lt_of_cell hu
  exact ⟨⟨u, (hb.cell (p := ⟨g, j, none⟩) lt).trans hu⟩, (hb.frozen (p := ⟨g, j, none⟩) lt).trans hf⟩
theorem Room.set {w : World} {g n : Nat} (h : Room w g n) (p : Addr) (v : Value) : Room (w.setCell p v) g n := fun j hj => by
  obtain ⟨⟨u, hu⟩, hf⟩ := h j hj
  refine ⟨?_, by rw [World.frozen?_setCell]; exact hf⟩
  by_cases e : p = ⟨g, j, none⟩
  · subst e
    exact ⟨v, by simp [go_sem, hu]⟩
  · exact ⟨u, (World.cell?_setCell_other w p ⟨g, j, none⟩ v (fun e' => e e')).trans hu⟩
theorem Lst.set {w : World} {v : Value} {rs : List Rc} {p : Addr} (h : Lst w v rs) (hp : ∀ g cap n, v = .slice (some ⟨g, 0, none⟩) n cap → p.block ≠ g) (u : Value) : Lst (w.setCell p u) v rs := by
  obtain ⟨oa, cap, e, hc, hg⟩ := h
  refine ⟨oa, cap, e, hc, fun hq => ?_⟩
  obtain ⟨g, e1, g1, g2⟩ := hg hq
  subst e1
  have hn := hp g cap _ e
  exact ⟨g, rfl, by simpa [World.setCell] using g1, fun j hj => (World.cell?_setCell_other w p ⟨g, j, none⟩ u (fun e' => hn (by rw [e']))).trans (g2 j hj)⟩
/-- What is known of a list that a call made. -/
theorem own_far {w : World} {base : Nat} {e : TypeId} {v : Value} {n : Nat} {xs : List Value} (h : w.ownsRow base e 4 v n xs) : ∀ g cap k, v = .slice (some ⟨g, 0, none⟩) k cap → base ≤ g := by
  intro g cap k hv
  rcases h.2 with ⟨rfl, _⟩ | ⟨g', cap', cur, rfl, hb, _⟩
  · simp at hv
  · simp at hv
    obtain ⟨rfl, _⟩ := hv
    exact hb
theorem own_room {w : World} {base : Nat} {e : TypeId} {v : Value} {n : Nat} {xs : List Value} (h : w.ownsRow base e 4 v n xs) : ∃ oa cap, v = .slice oa n cap ∧ n ≤ cap ∧ (0 < n → ∃ g, oa = some ⟨g, 0, none⟩ ∧ base ≤ g ∧ g < w.heap.size ∧ Room w g (n * 4)) := by
  rcases h.2 with ⟨rfl, rfl⟩ | ⟨g, cap, cur, rfl, hb, hg, hc, h2, h3, h4⟩
  · exact ⟨none, 0, rfl, Nat.le_refl _, fun h => absurd h (by omega)⟩
  · refine ⟨_, cap, rfl, hc, fun _ => ⟨g, rfl, hb, (Array.getElem?_eq_some_iff.1 hg).1, fun j hj => ?_⟩⟩
    refine ⟨⟨cur[j]'(by rw [h3]; omega), ?_⟩, ?_⟩
    · simp [World.cell?, hg]
    · simp [World.frozen?, hg]

set_option maxRecDepth 10000 in
set_option maxHeartbeats 4000000 in
theorem twos_walk (ax ay aw ah bx by' bw bh : Int) (w : World) (hax : I64 ax) (hay : I64 ay) (hbx : I64 bx) (hby : I64 by') :
    Calls Try.prog 5 #[.agg #[.int .i64 ax, .int .i64 ay, .int .i64 aw, .int .i64 ah], .agg #[.int .i64 bx, .int .i64 by', .int .i64 bw, .int .i64 bh]] w fun e w' => e = .returned (.bool true) ∧ Below w.heap.size w w' := by
  have hj1 : Hid (∀ w, Calls Try.prog 16 #[.agg #[.int .i64 ax, .int .i64 ay, .int .i64 aw, .int .i64 ah], .agg #[.int .i64 bx, .int .i64 by', .int .i64 bw, .int .i64 bh]] w fun e w' => e = .returned (.agg #[.int .i64 (joinR ax ay aw ah bx by' bw bh).x, .int .i64 (joinR ax ay aw ah bx by' bw bh).y, .int .i64 (joinR ax ay aw ah bx by' bw bh).w, .int .i64 (joinR ax ay aw ah bx by' bw bh).h]) ∧ Below w.heap.size w w') := fun w => join_any _ _ _ _ _ _ _ _ _ hax hay hbx hby
  have hj2 : Hid (∀ w, Calls Try.prog 27 #[.agg #[.int .i64 ax, .int .i64 ay, .int .i64 aw, .int .i64 ah], .agg #[.int .i64 bx, .int .i64 by', .int .i64 bw, .int .i64 bh]] w fun e w' => e = .returned (.agg #[.int .i64 (joinR ax ay aw ah bx by' bw bh).x, .int .i64 (joinR ax ay aw ah bx by' bw bh).y, .int .i64 (joinR ax ay aw ah bx by' bw bh).w, .int .i64 (joinR ax ay aw ah bx by' bw bh).h]) ∧ Below w.heap.size w w') := fun w => rjoin_any _ _ _ _ _ _ _ _ _
  have hm1 : Hid (∀ w, Calls Try.prog 33 #[.agg #[.int .i64 ax, .int .i64 ay, .int .i64 aw, .int .i64 ah], .agg #[.int .i64 bx, .int .i64 by', .int .i64 bw, .int .i64 bh]] w fun e w' => e = .returned (.agg #[.int .i64 (meetR ax ay aw ah bx by' bw bh).x, .int .i64 (meetR ax ay aw ah bx by' bw bh).y, .int .i64 (meetR ax ay aw ah bx by' bw bh).w, .int .i64 (meetR ax ay aw ah bx by' bw bh).h]) ∧ Below w.heap.size w w') := fun w => meet_any _ _ _ _ _ _ _ _ _ hax hay hbx hby
  have hm2 : Hid (∀ w, Calls Try.prog 34 #[.agg #[.int .i64 ax, .int .i64 ay, .int .i64 aw, .int .i64 ah], .agg #[.int .i64 bx, .int .i64 by', .int .i64 bw, .int .i64 bh]] w fun e w' => e = .returned (.agg #[.int .i64 (meetR ax ay aw ah bx by' bw bh).x, .int .i64 (meetR ax ay aw ah bx by' bw bh).y, .int .i64 (meetR ax ay aw ah bx by' bw bh).w, .int .i64 (meetR ax ay aw ah bx by' bw bh).h]) ∧ Below w.heap.size w w') := fun w => rmeet_any _ _ _ _ _ _ _ _ _
  have hi1 : Hid (∀ w, Calls Try.prog 14 #[.agg #[.int .i64 ax, .int .i64 ay, .int .i64 aw, .int .i64 ah], .agg #[.int .i64 bx, .int .i64 by', .int .i64 bw, .int .i64 bh]] w fun e w' => e = .returned (.bool (inB ax ay aw ah bx by' bw bh)) ∧ Below w.heap.size w w') := fun w => in_any _ _ _ _ _ _ _ _ _ hax hay hbx hby
  have hi2 : Hid (∀ w, Calls Try.prog 31 #[.agg #[.int .i64 ax, .int .i64 ay, .int .i64 aw, .int .i64 ah], .agg #[.int .i64 bx, .int .i64 by', .int .i64 bw, .int .i64 bh]] w fun e w' => e = .returned (.bool (inB ax ay aw ah bx by' bw bh)) ∧ Below w.heap.size w w') := fun w => rin_any _ _ _ _ _ _ _ _ _
  have ho1 : Hid (∀ w, Calls Try.prog 15 #[.agg #[.int .i64 ax, .int .i64 ay, .int .i64 aw, .int .i64 ah], .agg #[.int .i64 bx, .int .i64 by', .int .i64 bw, .int .i64 bh]] w fun e w' => e = .returned (.bool (overB ax ay aw ah bx by' bw bh)) ∧ Below w.heap.size w w') := fun w => over_any _ _ _ _ _ _ _ _ _ hax hay hbx hby
  have ho2 : Hid (∀ w, Calls Try.prog 32 #[.agg #[.int .i64 ax, .int .i64 ay, .int .i64 aw, .int .i64 ah], .agg #[.int .i64 bx, .int .i64 by', .int .i64 bw, .int .i64 bh]] w fun e w' => e = .returned (.bool (overB ax ay aw ah bx by' bw bh)) ∧ Below w.heap.size w w') := fun w => rover_any _ _ _ _ _ _ _ _ _
  have hs1 : Hid (∀ w, Calls Try.prog 28 #[.agg #[.int .i64 ax, .int .i64 ay, .int .i64 aw, .int .i64 ah], .agg #[.int .i64 bx, .int .i64 by', .int .i64 bw, .int .i64 bh]] w fun e w' =>
      ∃ v, e = .returned (.tuple #[v, .int .i64 (lesE ax ay aw ah bx by' bw bh)]) ∧ w'.ownsRow w.heap.size 29 4 v (lesL ax ay aw ah bx by' bw bh).length (flat (lesL ax ay aw ah bx by' bw bh)) ∧ Below w.heap.size w w') := fun w => less_any _ _ _ _ _ _ _ _ _ hax hay hbx hby
  have hs2 : Hid (∀ w, Calls Try.prog 29 #[.agg #[.int .i64 ax, .int .i64 ay, .int .i64 aw, .int .i64 ah], .agg #[.int .i64 bx, .int .i64 by', .int .i64 bw, .int .i64 bh]] w fun e w' =>
      ∃ v, e = .returned (.tuple #[v, .int .i64 (lesE ax ay aw ah bx by' bw bh)]) ∧ w'.ownsRow w.heap.size 29 4 v (lesL ax ay aw ah bx by' bw bh).length (flat (lesL ax ay aw ah bx by' bw bh)) ∧ Below w.heap.size w w') := fun w => rless_any _ _ _ _ _ _ _ _ _
  have hlen : (lesL ax ay aw ah bx by' bw bh).length ≤ 4 := by
    unfold lesL
    split
    · split
      · simp
      · exact List.length_filter_le keepB (pcs _ _ _ _ _ _ _ _)
    · simp
  clear hax hay hbx hby
  generalize joinR ax ay aw ah bx by' bw bh = rj at *
  generalize meetR ax ay aw ah bx by' bw bh = rm at *
  generalize inB ax ay aw ah bx by' bw bh = ib at *
  generalize overB ax ay aw ah bx by' bw bh = ob at *
  generalize lesL ax ay aw ah bx by' bw bh = rs at *
  generalize lesE ax ay aw ah bx by' bw bh = er at *
  go_enter Try.func5, Try.ntmps5
  go_upto_region 1 with fail
  go_cut [5, 6] (fun s5 s6 wx => ∃ b5 b6, s5 = .pointer (some ⟨b5, 0, none⟩) ∧ s6 = .pointer (some ⟨b6, 0, none⟩) ∧ At4 wx b5 rj.x rj.y rj.w rj.h ∧ At4 wx b6 rj.x rj.y rj.w rj.h ∧ At4 wx w.heap.size ax ay aw ah ∧ At4 wx (w.heap.size + 1) bx by' bw bh ∧ Below w.heap.size w wx)
  case first =>
    obtain ⟨A, B, L⟩ := boxes_rr w ax ay aw ah bx by' bw bh 29 29
    have HL : Hid (At4 ((w.alloc (.cells #[.int .i64 ax, .int .i64 ay, .int .i64 aw, .int .i64 ah] 29)).alloc (.cells #[.int .i64 bx, .int .i64 by', .int .i64 bw, .int .i64 bh] 29)) w.heap.size ax ay aw ah ∧
      At4 ((w.alloc (.cells #[.int .i64 ax, .int .i64 ay, .int .i64 aw, .int .i64 ah] 29)).alloc (.cells #[.int .i64 bx, .int .i64 by', .int .i64 bw, .int .i64 bh] 29)) (w.heap.size + 1) bx by' bw bh ∧
      Below w.heap.size w ((w.alloc (.cells #[.int .i64 ax, .int .i64 ay, .int .i64 aw, .int .i64 ah] 29)).alloc (.cells #[.int .i64 bx, .int .i64 by', .int .i64 bw, .int .i64 bh] 29))) := ⟨A, B, L⟩
    clear A B L
    generalize ((w.alloc (.cells #[.int .i64 ax, .int .i64 ay, .int .i64 aw, .int .i64 ah] 29)).alloc (.cells #[.int .i64 bx, .int .i64 by', .int .i64 bw, .int .i64 bh] 29)) = w3 at *
    clear hm1 hm2 hi1 hi2 ho1 ho2 hs1 hs2 hlen
    refine wp_region_lit 6 2 2 (fun _ => .cells #[.int .i64 0, .int .i64 0, .int .i64 0, .int .i64 0] 29) [5, 6] (by kernel_rfl) (by kernel_rfl) rfl ?_ rfl ?_ ?_
    · intro k hk
      have hc : k = 0 ∨ k = 1 := by omega
      rcases hc with rfl | rfl <;> rfl
    · intro i h1 h2
      have hc : i = 6 ∨ i = 7 := by omega
      rcases hc with rfl | rfl
      · exact ⟨_, rfl, rfl, fun _ _ => rfl⟩
      · exact ⟨_, rfl, rfl, fun _ _ => rfl⟩
    apply Exists.intro
    refine ⟨fun bs ne => ?_, ?_⟩
    · obtain ⟨HA, HB, _⟩ := HL.out
      have d0 := fun t : Gb w3 bs => (HA.below t.below).1
      have d1 := fun t : Gb w3 bs => (HA.below t.below).2.1
      have d2 := fun t : Gb w3 bs => (HA.below t.below).2.2.1
      have d3 := fun t : Gb w3 bs => (HA.below t.below).2.2.2
      have e0 := fun t : Gb w3 bs => (HB.below t.below).1
      have e1 := fun t : Gb w3 bs => (HB.below t.below).2.1
      have e2 := fun t : Gb w3 bs => (HB.below t.below).2.2.1
      have e3 := fun t : Gb w3 bs => (HB.below t.below).2.2.2
      clear HA HB
      simp only [List.take_succ_cons, List.take_zero]
      repeat (go_big_quiet_step (first
        | (go_at_call 16; exact gb_call (hj1.out _))
        | (go_at_call 27; exact gb_call (hj2.out _))))
      exact wpQuiet_nil rfl
    · intro bl wr hb hlo hinj
      obtain ⟨k1, k2⟩ := hlo 6 (by omega) (by omega)
      obtain ⟨k3, k4⟩ := hlo 7 (by omega) (by omega)
      have k5 := hinj 6 7 (by omega) (by omega) (by omega) (by omega) (by omega)
      obtain ⟨c1, f1, l1⟩ := heap_cells k2
      obtain ⟨c2, f2, l2⟩ := heap_cells k4
      simp only [layL, ptr]
      generalize bl 6 = g5 at *
      generalize bl 7 = g6 at *
      clear hlo hinj k2 k4
      refine wpAny_one 8 (by kernel_rfl) rfl ?_
      intro K hK
      go_simp
      refine hK _ _ ?_
      clear hK K
      refine wpAny_one 9 (by kernel_rfl) rfl ?_
      intro K hK
      go_simp
      refine hK _ _ ?_
      clear hK K
      refine wpAny_done (by kernel_rfl) ?_ _
      go_wp2_with fail
      go_meet
      obtain ⟨HA, HB, HD⟩ := HL.out
      have ha := HA.lt
      have hb1 := HB.lt
      have hd := HD.size
      have z5 : At4 wr g5 0 0 0 0 := ⟨by rw [c1]; rfl, by rw [c1]; rfl, by rw [c1]; rfl, by rw [c1]; rfl⟩
      have z6 : At4 wr g6 0 0 0 0 := ⟨by rw [c2]; rfl, by rw [c2]; rfl, by rw [c2]; rfl, by rw [c2]; rfl⟩
      exact ⟨g5, g6, rfl, rfl, ((((z5.put _ _ _ _).set _ (Ne.symm k5)).set _ (Ne.symm k5)).set _ (Ne.symm k5)).set _ (Ne.symm k5), ((((z6.set _ k5).set _ k5).set _ k5).set _ k5).put _ _ _ _,
        ((((((((HA.below hb).set _ (by show g5 ≠ _; omega)).set _ (by show g5 ≠ _; omega)).set _ (by show g5 ≠ _; omega)).set _ (by show g5 ≠ _; omega)).set _ (by show g6 ≠ _; omega)).set _ (by show g6 ≠ _; omega)).set _ (by show g6 ≠ _; omega)).set _ (by show g6 ≠ _; omega),
        ((((((((HB.below hb).set _ (by show g5 ≠ _; omega)).set _ (by show g5 ≠ _; omega)).set _ (by show g5 ≠ _; omega)).set _ (by show g5 ≠ _; omega)).set _ (by show g6 ≠ _; omega)).set _ (by show g6 ≠ _; omega)).set _ (by show g6 ≠ _; omega)).set _ (by show g6 ≠ _; omega),
        set4_below (set4_below (HD.trans (hb.mono hd)) (by omega) _ _ _ _) (by omega) _ _ _ _⟩
  case rest =>
  obtain ⟨g5, g6, rfl, rfl, E5, E6, A, B, L⟩ := hcut
  obtain ⟨wx, rfl⟩ : ∃ wx : World, wx = wc := ⟨_, rfl⟩
  obtain ⟨a0, a1, a2, a3⟩ := id A
  obtain ⟨b0, b1, b2, b3⟩ := id B
  go_wp2_with fail
  clear a0 a1 a2 a3 b0 b1 b2 b3
  refine (hs1.out _).mono ?_
  rintro e w1 ⟨v1, rfl, o1, hb⟩
  have s1 := hb.size
  replace E5 := E5.below hb
  replace E6 := E6.below hb
  have la := A.lt
  have lb := B.lt
  replace A := A.below hb
  replace B := B.below hb
  replace L := L.trans (hb.mono L.size)
  clear hb
  obtain ⟨a0, a1, a2, a3⟩ := id A
  obtain ⟨b0, b1, b2, b3⟩ := id B
  go_wp2_with fail
  clear a0 a1 a2 a3 b0 b1 b2 b3
  refine (hs1.out _).mono ?_
  rintro e w2 ⟨v2, rfl, o2, hb⟩
  have s2 := hb.size
  replace E5 := E5.below hb
  replace E6 := E6.below hb
  replace A := A.below hb
  replace B := B.below hb
  have hg1 : ∃ oa cap, v1 = .slice oa rs.length cap ∧ rs.length ≤ cap ∧ (0 < rs.length → ∃ g, oa = some ⟨g, 0, none⟩ ∧ wx.heap.size ≤ g ∧ g < w1.heap.size ∧ Room w1 g (rs.length * 4)) := own_room o1
  replace o1 := own_below o1 hb
  replace L := L.trans (hb.mono L.size)
  have kb := hb
  clear hb
  obtain ⟨a0, a1, a2, a3⟩ := id A
  obtain ⟨b0, b1, b2, b3⟩ := id B
  go_wp2_with fail
  clear a0 a1 a2 a3 b0 b1 b2 b3
  refine (hs2.out _).mono ?_
  rintro e w3 ⟨v3, rfl, o3, hb⟩
  have s3 := hb.size
  replace E5 := E5.below hb
  replace E6 := E6.below hb
  replace A := A.below hb
  replace B := B.below hb
  replace o1 := own_below o1 hb
  replace o2 := own_below o2 hb
  replace L := L.trans (hb.mono L.size)
  replace kb := kb.trans (hb.mono kb.size)
  clear hb hs1 hs2
  have hc1 : Hid (∀ w', Below w3.heap.size w3 w' → Calls Try.prog 30 #[v1, v3] w' fun e w'' => e = .returned (.bool true) ∧ Below w'.heap.size w' w'') := fun w' hb => same_true rs v1 v3 w' ((lst_own o1).below hb) ((lst_own o3).below hb) (by omega)
  obtain ⟨e0, e1, e2, e3⟩ := id E5
  obtain ⟨f0, f1, f2, f3⟩ := id E6
  have hq := neq_rect
  have ho2' := own_far o2
  have ho3' := own_far o3
  have HK : Hid (At4 w3 w.heap.size ax ay aw ah ∧ At4 w3 (w.heap.size + 1) bx by' bw bh ∧ Below w.heap.size w w3 ∧ Lst w3 v2 rs ∧ Lst w3 v3 rs ∧ Below w1.heap.size w1 w3) := ⟨A, B, L, lst_own o2, lst_own o3, kb⟩
  clear A B L o1 o2 o3 E5 E6 kb
  have HF : Hid ((∀ g cap n, v2 = .slice (some ⟨g, 0, none⟩) n cap → w1.heap.size ≤ g) ∧ (∀ g cap n, v3 = .slice (some ⟨g, 0, none⟩) n cap → w2.heap.size ≤ g)) := ⟨ho2', ho3'⟩
  clear ho2' ho3'
  go_wp2_with fail
  refine (hc1.out _ (Below.refl _ _)).mono ?_
  rintro e w4 ⟨rfl, hb⟩
  clear e0 e1 e2 e3 f0 f1 f2 f3 hq hc1
  obtain ⟨A, B, L, M2, M3, kb⟩ := HK.out
  replace A := A.below hb
  replace B := B.below hb
  replace L := L.trans (hb.mono L.size)
  replace M2 := M2.below hb
  replace M3 := M3.below hb
  replace kb := kb.trans (hb.mono kb.size)
  have s4 := hb.size
  clear hb HK
  obtain ⟨oa, cap, rfl, hcap, hg1⟩ := hg1
  have HG : Hid (0 < rs.length → ∃ g, oa = some ⟨g, 0, none⟩ ∧ wx.heap.size ≤ g ∧ g < w1.heap.size ∧ Room w1 g (rs.length * 4)) := hg1
  have HK : Hid (At4 w4 w.heap.size ax ay aw ah ∧ At4 w4 (w.heap.size + 1) bx by' bw bh ∧ Below w.heap.size w w4 ∧ Lst w4 v2 rs ∧ Lst w4 v3 rs ∧ Below w1.heap.size w1 w4) := ⟨A, B, L, M2, M3, kb⟩
  have hwx : w.heap.size + 1 < wx.heap.size := lb
  clear A B L M2 M3 kb hg1
  go_wp2_with fail
  go_loopw [13] (fun i wr => ∃ k : Nat, k ≤ rs.length ∧ i = .int .i64 k ∧ At4 wr w.heap.size ax ay aw ah ∧ At4 wr (w.heap.size + 1) bx by' bw bh ∧ Below w.heap.size w wr ∧ Lst wr v2 rs ∧ Lst wr v3 rs ∧ (0 < rs.length → ∃ g, oa = some ⟨g, 0, none⟩ ∧ wx.heap.size ≤ g ∧ g < w1.heap.size ∧ Room wr g (rs.length * 4))) (fun i _ => rs.length - (intOf i).toNat)
  case atStart =>
    obtain ⟨A, B, L, M2, M3, kb⟩ := HK.out
    refine ⟨0, Nat.zero_le _, rfl, A, B, L, M2, M3, fun hp => ?_⟩
    obtain ⟨g, e, q1, q2, q3⟩ := HG.out hp
    exact ⟨g, e, q1, q2, q3.below kb⟩
  case round =>
    obtain ⟨k, hk, rfl, A, B, L, M2, M3, hrm⟩ := hrel
    by_cases hlt : k < rs.length
    · obtain ⟨g, rfl, q1, q2, q3⟩ := hrm (by omega)
      obtain ⟨⟨u0, r0⟩, t0⟩ := q3 (k * 4) (by omega)
      obtain ⟨⟨u1, r1⟩, t1⟩ := q3 (k * 4 + 1) (by omega)
      obtain ⟨⟨u2, r2⟩, t2⟩ := q3 (k * 4 + 2) (by omega)
      obtain ⟨⟨u3, r3⟩, t3⟩ := q3 (k * 4 + 3) (by omega)
      have HR : Hid (At4 wr w.heap.size ax ay aw ah ∧ At4 wr (w.heap.size + 1) bx by' bw bh ∧ Below w.heap.size w wr ∧ Lst wr v2 rs ∧ Lst wr v3 rs ∧ Room wr g (rs.length * 4)) := ⟨A, B, L, M2, M3, q3⟩
      clear A B L M2 M3 hrm q3
      go_wp2
      go_roundw
      case rel =>
        obtain ⟨A, B, L, M2, M3, q3⟩ := HR.out
        obtain ⟨z2, z3⟩ := HF.out
        have n2 : ∀ g' cap n, v2 = .slice (some ⟨g', 0, none⟩) n cap → g ≠ g' := fun g' cap n hv => by have := z2 g' cap n hv; omega
        have n3 : ∀ g' cap n, v3 = .slice (some ⟨g', 0, none⟩) n cap → g ≠ g' := fun g' cap n hv => by have := z3 g' cap n hv; omega
        exact ⟨k + 1, by omega, by go_num,
          (((A.set _ (by show g ≠ _; omega)).set _ (by show g ≠ _; omega)).set _ (by show g ≠ _; omega)).set _ (by show g ≠ _; omega),
          (((B.set _ (by show g ≠ _; omega)).set _ (by show g ≠ _; omega)).set _ (by show g ≠ _; omega)).set _ (by show g ≠ _; omega),
          (((L.setCell (by show _ ≤ g; omega) _).setCell (by show _ ≤ g; omega) _).setCell (by show _ ≤ g; omega) _).setCell (by show _ ≤ g; omega) _,
          (((M2.set n2 _).set n2 _).set n2 _).set n2 _, (((M3.set n3 _).set n3 _).set n3 _).set n3 _,
          fun _ => ⟨g, rfl, q1, q2, (((q3.set _ _).set _ _).set _ _).set _ _⟩⟩
      case measure => simp [intOf]; omega
    · clear hrm
      have hc2 : Hid (∀ w', Below wr.heap.size wr w' → Calls Try.prog 30 #[v2, v3] w' fun e w'' => e = .returned (.bool true) ∧ Below w'.heap.size w' w'') := fun w' hb => same_true rs v2 v3 w' (M2.below hb) (M3.below hb) (by omega)
      have ne := gw_ne L
      have a0 := fun t => (gw4 A t).1
      have a1 := fun t => (gw4 A t).2.1
      have a2 := fun t => (gw4 A t).2.2.1
      have a3 := fun t => (gw4 A t).2.2.2
      have b0 := fun t => (gw4 B t).1
      have b1 := fun t => (gw4 B t).2.1
      have b2 := fun t => (gw4 B t).2.2.1
      have b3 := fun t => (gw4 B t).2.2.2
      have HL : Hid (Below w.heap.size w wr) := L
      have hq := eql_rect
      clear A B L M2 M3 HK HG HF
      go_wp2_with fail
      refine wp_region_gw (by kernel_rfl) (by kernel_rfl) ?_
      repeat (go_big_quiet_step (first
        | (go_at_call 30; exact gw_call (hc2.out _ (Gw.below _)))
        | (go_at_call 14; exact gw_call (hi1.out _))
        | (go_at_call 31; exact gw_call (hi2.out _))
        | (go_at_call 15; exact gw_call (ho1.out _))
        | (go_at_call 32; exact gw_call (ho2.out _))
        | (go_at_call 33; exact gw_call (hm1.out _))
        | (go_at_call 34; exact gw_call (hm2.out _))))
      refine wpQuiet_nil ?_
      rintro _ ⟨t, rfl⟩
      go_wp2
      go_ret
      exact ⟨rfl, HL.out.trans (t.below.mono HL.out.size)⟩

end Go.Proofs.Ytpeppbfkbijdiaa
