/-
  The walk of the statement StylePeels: the look of all rules is the strongest one's, if it holds, with the look of the others beneath.
-/
import Derived.Test.YtobmpjmpffnoiaaDoorSB1
import Derived.Test.YtobmpjmpffnoiaaDoorSWo
import Derived.Test.YtobmpjmpffnoiaaDoorSHo
namespace Go.Proofs.YtobmpjmpffnoiaaDoor
open Go.RowKit Go.Shelf

theorem okR_at {rs : List Rl} (h : chkR rs = 0) {n : Nat} (hn : n < rs.length) : okR rs[n] = true := by
  unfold chkR at h
  by_cases h1 : 256 < rs.length
  · rw [if_pos h1] at h; simp at h
  · rw [if_neg h1] at h
    by_cases h2 : rs.all okR = true
    · exact List.all_eq_true.1 h2 _ (List.getElem_mem hn)
    · rw [if_neg h2] at h; simp at h

set_option maxRecDepth 20000 in
set_option maxHeartbeats 8000000 in
theorem peels_walk (rs : List Rl) (v : Value) (kind : Nat) (t : ByteArray) (st : Nat) (w : World) (hT : Tab w) (hv : Rules w v rs) (hs : ∀ r ∈ rs, r.cls.size ≤ 9223372036854775807 ∧ r.wf) (hl : rs.length ≤ 9223372036854775807) (_hk : kind < 256) (ht : t.size ≤ 9223372036854775807) (_hst : st < 256) :
    Calls Tryd.prog 6 #[v, .int .u8 (kind : Nat), .string t, .int .u8 (st : Nat)] w fun e w' => e = .returned (.bool true) ∧ Below w.heap.size w w' := by
  have HV : Hid (Rules w v rs ∧ Tab w) := ⟨hv, hT⟩
  have HS : Hid (∀ r ∈ rs, r.cls.size ≤ 9223372036854775807 ∧ r.wf) := hs
  obtain ⟨oa, cap, rfl, hc, hg⟩ := id hv
  have HG : Hid (0 < rs.length → ∃ g o, oa = some ⟨g, o, none⟩ ∧ g < w.heap.size ∧ ∀ i (h : i < rs.length), RlAt w g (o + i * 14) rs[i]) := hg
  clear hv hs hg
  go_enter Tryd.func6, Tryd.ntmps6
  go_wp2_with fail
  refine (alive_any _ hT).mono ?_
  rintro e w1 ⟨rfl, L⟩
  by_cases h100 : 60 < rs.length ∨ 5000 < t.size
  · by_cases h1 : 60 < rs.length
    · have h1' : (60 : Int) < rs.length := by omega
      go_wp2
      go_ret
      exact ⟨rfl, L⟩
    · have h1' : ¬ (60 : Int) < rs.length := by omega
      have h2' : (5000 : Int) < t.size := by omega
      go_wp2
      go_ret
      exact ⟨rfl, L⟩
  have h1 : ¬ 60 < rs.length := by omega
  have h1' : ¬ (60 : Int) < rs.length := by omega
  have h2 : ¬ 5000 < t.size := by omega
  have h2' : ¬ (5000 : Int) < t.size := by omega
  have HL : Hid (Below w.heap.size w w1) := L
  clear L hT h100
  go_wp2_with fail
  by_cases hb : chkR rs = 0
  · refine (order_any rs _ w1 (HV.out.2.below HL.out) (HV.out.1.below HL.out) HS.out (by omega) hb).mono ?_
    rintro e w2 ⟨B, f, rfl, hB, hRow, hM, hb2⟩
    have H2 : Hid (Row w2 B 0 rs.length f ∧ Mrg (str rs) id f 0 rs.length ∧ Below w.heap.size w w2) := ⟨hRow, hM, HL.out.trans (hb2.mono HL.out.size)⟩
    clear hRow hM hb2 hB HL
    go_wp2_with fail
    refine (look_ok rs _ kind t st w2 (HV.out.2.below H2.out.2.2) (HV.out.1.below H2.out.2.2) HS.out (by omega) (by omega) hb).mono ?_
    rintro e w3 ⟨l, hH, rfl, hb3⟩
    have H3 : Hid (Held rs kind t st l ∧ Row w3 B 0 rs.length f ∧ Below w.heap.size w w3) := ⟨hH, H2.out.1.below hb3, H2.out.2.2.trans (hb3.mono H2.out.2.2.size)⟩
    have HM : Hid (Mrg (str rs) id f 0 rs.length) := H2.out.2.1
    clear hH hb3 H2
    by_cases h0 : rs.length = 0
    · have hr : rs = [] := List.eq_nil_of_length_eq_zero h0
      subst hr
      have hl0 : l = [] := by
        have := H3.out.1.2.2
        exact List.eq_nil_of_length_eq_zero (by simpa using this)
      subst hl0
      go_wp2
      go_ret
      exact ⟨rfl, H3.out.2.2.alloc H3.out.2.2.size _⟩
    · obtain ⟨y, HY⟩ : ∃ y, Hid (y = ly (lks rs (bwd l l.length))) := ⟨_, rfl⟩
      rw [← HY.out]
      have hp : 0 < rs.length := by omega
      obtain ⟨m, zm, hm⟩ : ∃ m : Nat, (rs.length : Int) - 1 = (m : Int) ∧ m < rs.length := ⟨rs.length - 1, by omega, by omega⟩
      have c1 := H3.out.2.1.at' m hm
      rw [Nat.zero_add] at c1
      have lB : B < w3.heap.size := H3.out.2.1.lt
      have hat : f m < rs.length := order_lt HM.out hm
      have i1 : ((f m : Nat) : Int) < (rs.length : Int) := by omega
      have i2 : ¬ (rs.length : Int) ≤ ((f m : Nat) : Int) := by omega
      have i3 : ¬ rs.length ≤ f m := by omega
      have i4 : ¬ ((f m : Nat) : Int) < 0 := by omega
      have HX : Hid (∀ x, x < rs.length → x ≠ f m → Wk (str rs) x (f m)) := by
        have := (order_last HM.out hp).2
        rwa [show rs.length - 1 = m by omega] at this
      have hsz : ((rs.length : Int) == 0) = false := beq_eq_false_iff_ne.2 (by omega)
      generalize f m = a at *
      go_wp2_with fail
      have KY := Blk.new w3 (#[.int .u8 (y.has : Nat), .int .u8 y.r, .int .u8 y.g, .int .u8 y.b, .int .u8 y.a, .int .u8 y.r2, .int .u8 y.g2, .int .u8 y.b2, .int .u8 y.a2, .bool y.bd, .int .i64 y.pad]) 33
      have L4 : Below w.heap.size w (w3.alloc (.cells (#[.int .u8 (y.has : Nat), .int .u8 y.r, .int .u8 y.g, .int .u8 y.b, .int .u8 y.a, .int .u8 y.r2, .int .u8 y.g2, .int .u8 y.b2, .int .u8 y.a2, .bool y.bd, .int .i64 y.pad]) 33)) := H3.out.2.2.alloc H3.out.2.2.size _
      generalize w3.alloc (.cells (#[.int .u8 (y.has : Nat), .int .u8 y.r, .int .u8 y.g, .int .u8 y.b, .int .u8 y.a, .int .u8 y.r2, .int .u8 y.g2, .int .u8 y.b2, .int .u8 y.a2, .bool y.bd, .int .i64 y.pad]) 33) = w4 at *
      refine (without_any rs _ a w4 (HV.out.1.below L4) hat (by omega)).mono ?_
      rintro e w5 ⟨u, rfl, hR, hb5⟩
      have L5 := L4.trans (hb5.mono L4.size)
      have H5 : Hid (Blk w5 w3.heap.size (#[.int .u8 (y.has : Nat), .int .u8 y.r, .int .u8 y.g, .int .u8 y.b, .int .u8 y.a, .int .u8 y.r2, .int .u8 y.g2, .int .u8 y.b2, .int .u8 y.a2, .bool y.bd, .int .i64 y.pad]) 33 ∧ Rules w5 u (wo1 rs a) ∧ Below w.heap.size w w5) := ⟨KY.below hb5, hR, L5⟩
      have HH : Hid (Held rs kind t st l) := H3.out.1
      clear KY L4 L5 hR hb5 H3 c1 lB
      go_wp2_with fail
      refine (look_ok (wo1 rs a) u kind t st w5 (HV.out.2.below H5.out.2.2) H5.out.2.1 (fun r hr => HS.out r (wo1_in hr)) (by omega) (by rw [wo1_len hat]; omega) (chk_wo hat hb)).mono ?_
      rintro e w6 ⟨l', hH', rfl, hb6⟩
      obtain ⟨z, HZ⟩ : ∃ z, Hid (z = ly (lks (wo1 rs a) (bwd l' l'.length))) := ⟨_, rfl⟩
      rw [← HZ.out]
      have HP : Hid (y = if hld rs[a] kind t st then ly [rs[a].look, z] else z) := by
        rw [HY.out, HZ.out]; exact peel_plain HH.out hat HX.out hH'
      have zh : z.has < 256 := by rw [HZ.out]; exact Nat.lt_trans (ly_has _) (by decide)
      have H6 : Hid (Blk w6 w3.heap.size (#[.int .u8 (y.has : Nat), .int .u8 y.r, .int .u8 y.g, .int .u8 y.b, .int .u8 y.a, .int .u8 y.r2, .int .u8 y.g2, .int .u8 y.b2, .int .u8 y.a2, .bool y.bd, .int .i64 y.pad]) 33 ∧ Below w.heap.size w w6) := ⟨H5.out.1.below hb6, H5.out.2.2.trans (hb6.mono H5.out.2.2.size)⟩
      have hXh : rs[a].look.has < 256 := (HS.out _ (List.getElem_mem hat)).2.2.2
      have X0 : Hid (∀ W, Tab W → Calls Tryd.prog 27 #[(Value.agg #[.int .u8 (rs[a].kind : Nat), .string rs[a].cls, .int .u8 (rs[a].state : Nat), .int .u8 (rs[a].look.has : Nat), .int .u8 rs[a].look.r, .int .u8 rs[a].look.g, .int .u8 rs[a].look.b, .int .u8 rs[a].look.a, .int .u8 rs[a].look.r2, .int .u8 rs[a].look.g2, .int .u8 rs[a].look.b2, .int .u8 rs[a].look.a2, .bool rs[a].look.bd, .int .i64 rs[a].look.pad]), .int .u8 (kind : Nat), .string t, .int .u8 (st : Nat)] W fun e w' => e = .returned (.bool (hld rs[a] kind t st)) ∧ Below W.heap.size W w') := fun W hT =>
        lholds_any _ kind t st W hT (okR_at hb hat) (HS.out _ (List.getElem_mem hat)) (by omega)
      have hatX : Hid (∀ W, Below w.heap.size w W → ∃ g o, oa = some ⟨g, o, none⟩ ∧ g < w.heap.size ∧ RlAt W g (o + a * 14) rs[a]) := fun W hW => by
        obtain ⟨g, o, h1, h2, h3⟩ := HG.out (by omega)
        exact ⟨g, o, h1, h2, (h3 a hat).kept fun j => hW.cell (p := ⟨g, j, none⟩) h2⟩
      clear hH' hb6 H5 HH HX HZ
      generalize rs[a] = X at *
      obtain ⟨g, o, hoa, hg, x0, x1, x2, x3, x4, x5, x6, x7, x8, x9, x10, x11, x12, x13⟩ := hatX.out w6 H6.out.2
      have g6 : g < w6.heap.size := Nat.lt_of_lt_of_le hg H6.out.2.size
      subst hoa
      go_wp2_with fail
      have KZ := Blk.new w6 (#[.int .u8 (z.has : Nat), .int .u8 z.r, .int .u8 z.g, .int .u8 z.b, .int .u8 z.a, .int .u8 z.r2, .int .u8 z.g2, .int .u8 z.b2, .int .u8 z.a2, .bool z.bd, .int .i64 z.pad]) 33
      have KY := H6.out.1.alloc (.cells (#[.int .u8 (z.has : Nat), .int .u8 z.r, .int .u8 z.g, .int .u8 z.b, .int .u8 z.a, .int .u8 z.r2, .int .u8 z.g2, .int .u8 z.b2, .int .u8 z.a2, .bool z.bd, .int .i64 z.pad]) 33)
      have L7 : Below w.heap.size w (w6.alloc (.cells (#[.int .u8 (z.has : Nat), .int .u8 z.r, .int .u8 z.g, .int .u8 z.b, .int .u8 z.a, .int .u8 z.r2, .int .u8 z.g2, .int .u8 z.b2, .int .u8 z.a2, .bool z.bd, .int .i64 z.pad]) 33)) := H6.out.2.alloc H6.out.2.size _
      generalize w6.alloc (.cells (#[.int .u8 (z.has : Nat), .int .u8 z.r, .int .u8 z.g, .int .u8 z.b, .int .u8 z.a, .int .u8 z.r2, .int .u8 z.g2, .int .u8 z.b2, .int .u8 z.a2, .bool z.bd, .int .i64 z.pad]) 33) = w7 at *
      refine (X0.out w7 (HV.out.2.below L7)).mono ?_
      rintro e W ⟨rfl, hb8⟩
      have LW := L7.trans (hb8.mono L7.size)
      have KZ' := KZ.below hb8
      have KY' := KY.below hb8
      obtain ⟨g', o', hoa', _, hat8⟩ := hatX.out W LW
      obtain ⟨rfl, rfl⟩ : g = g' ∧ o = o' := by
        injection hoa' with h
        injection h with h1 h2
        exact ⟨h1, h2⟩
      clear x0 x1 x2 x3 x4 x5 x6 x7 x8 x9 x10 x11 x12 x13 KZ KY L7 hb8 hatX X0 H6 hoa' HG HS
      have gW : g < W.heap.size := Nat.lt_of_lt_of_le hg LW.size
      have HW : Hid (Below w.heap.size w W) := LW
      cases hh : hld X kind t st
      · rw [hh] at HP
        have e : y = z := by simpa using HP.out
        subst e
        have E := fun w => eql_look y y w
        simp only [eqL_refl] at E
        obtain ⟨c0, c1, c2, c3, c4, c5, c6, c7, c8, c9, c10⟩ := KY'.at11
        obtain ⟨d0, d1, d2, d3, d4, d5, d6, d7, d8, d9, d10⟩ := KZ'.at11
        clear KY' KZ' hat8 HP
        go_wp2
        go_ret
        exact ⟨rfl, HW.out⟩
      · rw [hh] at HP
        have e : y = ly [X.look, z] := by simpa using HP.out
        have C1 : ∀ w, Calls Tryd.prog 24 #[(Value.agg #[.int .u8 (X.look.has : Nat), .int .u8 X.look.r, .int .u8 X.look.g, .int .u8 X.look.b, .int .u8 X.look.a, .int .u8 X.look.r2, .int .u8 X.look.g2, .int .u8 X.look.b2, .int .u8 X.look.a2, .bool X.look.bd, .int .i64 X.look.pad]), (Value.agg #[.int .u8 (z.has : Nat), .int .u8 z.r, .int .u8 z.g, .int .u8 z.b, .int .u8 z.a, .int .u8 z.r2, .int .u8 z.g2, .int .u8 z.b2, .int .u8 z.a2, .bool z.bd, .int .i64 z.pad])] w fun e w' => e = .returned (Value.agg #[.int .u8 (y.has : Nat), .int .u8 y.r, .int .u8 y.g, .int .u8 y.b, .int .u8 y.a, .int .u8 y.r2, .int .u8 y.g2, .int .u8 y.b2, .int .u8 y.a2, .bool y.bd, .int .i64 y.pad]) ∧ Below w.heap.size w w' := fun w => by
          rw [e]; exact under_any X.look z w hXh zh
        have E := fun w => eql_look y y w
        simp only [eqL_refl] at E
        clear e HP
        have ne := gw_ne LW
        have qy := fun t : Gw W => (KY'.below t.below).at11
        have qz := fun t : Gw W => (KZ'.below t.below).at11
        have qx := fun t : Gw W => hat8.kept (w' := t.wd) fun j => t.below.cell (p := ⟨g, j, none⟩) gW
        have x0 := fun t : Gw W => (qx t).1
        have x1 := fun t : Gw W => (qx t).2.1
        have x2 := fun t : Gw W => (qx t).2.2.1
        have x3 := fun t : Gw W => (qx t).2.2.2.1
        have x4 := fun t : Gw W => (qx t).2.2.2.2.1
        have x5 := fun t : Gw W => (qx t).2.2.2.2.2.1
        have x6 := fun t : Gw W => (qx t).2.2.2.2.2.2.1
        have x7 := fun t : Gw W => (qx t).2.2.2.2.2.2.2.1
        have x8 := fun t : Gw W => (qx t).2.2.2.2.2.2.2.2.1
        have x9 := fun t : Gw W => (qx t).2.2.2.2.2.2.2.2.2.1
        have x10 := fun t : Gw W => (qx t).2.2.2.2.2.2.2.2.2.2.1
        have x11 := fun t : Gw W => (qx t).2.2.2.2.2.2.2.2.2.2.2.1
        have x12 := fun t : Gw W => (qx t).2.2.2.2.2.2.2.2.2.2.2.2.1
        have x13 := fun t : Gw W => (qx t).2.2.2.2.2.2.2.2.2.2.2.2.2
        have y0 := fun t : Gw W => (qy t).1
        have y1 := fun t : Gw W => (qy t).2.1
        have y2 := fun t : Gw W => (qy t).2.2.1
        have y3 := fun t : Gw W => (qy t).2.2.2.1
        have y4 := fun t : Gw W => (qy t).2.2.2.2.1
        have y5 := fun t : Gw W => (qy t).2.2.2.2.2.1
        have y6 := fun t : Gw W => (qy t).2.2.2.2.2.2.1
        have y7 := fun t : Gw W => (qy t).2.2.2.2.2.2.2.1
        have y8 := fun t : Gw W => (qy t).2.2.2.2.2.2.2.2.1
        have y9 := fun t : Gw W => (qy t).2.2.2.2.2.2.2.2.2.1
        have y10 := fun t : Gw W => (qy t).2.2.2.2.2.2.2.2.2.2
        have z0 := fun t : Gw W => (qz t).1
        have z1 := fun t : Gw W => (qz t).2.1
        have z2 := fun t : Gw W => (qz t).2.2.1
        have z3 := fun t : Gw W => (qz t).2.2.2.1
        have z4 := fun t : Gw W => (qz t).2.2.2.2.1
        have z5 := fun t : Gw W => (qz t).2.2.2.2.2.1
        have z6 := fun t : Gw W => (qz t).2.2.2.2.2.2.1
        have z7 := fun t : Gw W => (qz t).2.2.2.2.2.2.2.1
        have z8 := fun t : Gw W => (qz t).2.2.2.2.2.2.2.2.1
        have z9 := fun t : Gw W => (qz t).2.2.2.2.2.2.2.2.2.1
        have z10 := fun t : Gw W => (qz t).2.2.2.2.2.2.2.2.2.2
        clear qx qy qz KY' KZ' hat8 LW
        go_wp2_with fail
        refine wp_region_gw (by kernel_rfl) (by kernel_rfl) ?_
        repeat (go_big_quiet_step (first
          | (go_at_call 24; exact gw_call (C1 _))))
        refine wpQuiet_nil ?_
        rintro _ ⟨t, rfl⟩
        go_wp2
        go_ret
        exact ⟨rfl, HW.out.trans (t.below.mono HW.out.size)⟩
  · refine (order_bad rs _ w1 (HV.out.2.below HL.out) (HV.out.1.below HL.out) HS.out hb).mono ?_
    rintro e w2 ⟨rfl, hb2⟩
    have H2 : Hid (Below w.heap.size w w2) := HL.out.trans (hb2.mono HL.out.size)
    clear hb2 HL
    go_wp2_with fail
    refine (look_bad rs _ kind t st w2 (HV.out.2.below H2.out) (HV.out.1.below H2.out) HS.out hb).mono ?_
    rintro e w3 ⟨rfl, hb3⟩
    have H3 : Hid (Below w.heap.size w w3) := H2.out.trans (hb3.mono H2.out.size)
    have hb' : (chkR rs == 0) = false := beq_eq_false_iff_ne.2 hb
    clear hb3 H2 hb
    generalize chkR rs = e0 at *
    simp only [Lk.zero]
    go_wp2
    go_ret
    exact ⟨rfl, H3.out.alloc H3.out.size _⟩

end Go.Proofs.YtobmpjmpffnoiaaDoor
