/-
  Contracts of the document's answer for layer 2: Check, Has, Moved.
-/
import Derived.Test.YtagkbpceiedikaaH9
namespace Go.Proofs.Ytagkbpceiedikaa
open Go.RowKit Go.Shelf

theorem sameB_symm (a b : List Rc) : sameB a b = sameB b a := by
  rw [Bool.eq_iff_iff, sameB_iff, sameB_iff]
  exact eq_comm
theorem dcheck_any (a : List Rc) (va : Value) (w : World) (ha : LsR w va a) :
    Calls Try.prog 36 #[va] w fun e w' => e = .returned (.int .i64 (chkE a)) ∧ Below w.heap.size w w' := by
  have H1 : Hid (Calls Try.prog 62 #[va] w fun e w' => e = .returned (.int .i64 (lisE a)) ∧ Below w.heap.size w w') := asked_any a va w ha
  unfold chkE
  by_cases h0 : lisE a = 0
  · have hz := lisE_zero h0
    have H2 : Hid (∀ W, Below w.heap.size w W → Calls Try.prog 63 #[va, .slice none 0 0, .int .i64 1] W fun e w' => Ans w (ansL 0 (formF false a [])) (ansE 0 (formF false a [])) e w') := fun W h => by
      have q := made_any a [] va (.slice none 0 0) 1 W (ha.below h) (lsr_nil W) hz.2 Mays_nil (by omega) (by simp)
      rw [wk_one, List.append_nil] at q
      exact q.mono fun e w' h2 => h2.up h
    have H3 : Hid (∀ W u L, Below w.heap.size w W → LsR W u L → L.length ≤ 3000 → Calls Try.prog 51 #[u, va] W fun e w' => e = .returned (.bool (sameB L a)) ∧ Below W.heap.size W w') := fun W u L h h2 h3 => sameL_any L a u va W h2 (ha.below h) (by omega)
    rw [h0] at H1 ⊢
    rw [if_pos rfl]
    have cs : (ansE 0 (formF false a []) = 4 ∧ (if sameB a (formF false a []) = true then (0 : Int) else 2) = 2) ∨ (ansE 0 (formF false a []) = 0 ∧ sameB (ansL 0 (formF false a [])) a = true ∧ (if sameB a (formF false a []) = true then (0 : Int) else 2) = 0) ∨ (ansE 0 (formF false a []) = 0 ∧ sameB (ansL 0 (formF false a [])) a = false ∧ (if sameB a (formF false a []) = true then (0 : Int) else 2) = 2) := by
      unfold ansE ansL
      rw [if_pos rfl]
      by_cases hb : 1024 < (formF false a []).length
      · left
        refine ⟨by rw [if_pos hb], if_neg ?_⟩
        intro h
        have := (sameB_iff _ _).1 h
        rw [← this] at hb
        omega
      · right
        rw [if_neg hb, if_pos ⟨rfl, by omega⟩, sameB_symm]
        cases hs : sameB a (formF false a [])
        · right; exact ⟨rfl, rfl, by simp⟩
        · left; exact ⟨rfl, rfl, by simp⟩
    have HLn : Hid ((ansL 0 (formF false a [])).length ≤ 3000) := ansL_short _ _
    have HCS : Hid ((ansE 0 (formF false a []) = 4 ∧ (if sameB a (formF false a []) = true then (0 : Int) else 2) = 2) ∨ (ansE 0 (formF false a []) = 0 ∧ sameB (ansL 0 (formF false a [])) a = true ∧ (if sameB a (formF false a []) = true then (0 : Int) else 2) = 0) ∨ (ansE 0 (formF false a []) = 0 ∧ sameB (ansL 0 (formF false a [])) a = false ∧ (if sameB a (formF false a []) = true then (0 : Int) else 2) = 2)) := cs
    clear ha h0 hz cs
    generalize (if sameB a (formF false a []) = true then (0 : Int) else 2) = R at *
    generalize ansL 0 (formF false a []) = L at *
    generalize ansE 0 (formF false a []) = E at *
    have key : ∀ sb, sameB L a = sb → Hid (∀ W u, Below w.heap.size w W → LsR W u L → Calls Try.prog 51 #[u, va] W fun e w' => e = .returned (.bool sb) ∧ Below W.heap.size W w') := fun sb h W u h1 h2 => by
      have q := H3.out W u L h1 h2 HLn.out
      rwa [h] at q
    rcases HCS.out with ⟨rfl, rfl⟩ | ⟨rfl, hs, rfl⟩ | ⟨rfl, hs, rfl⟩
    · have H4 := key _ rfl
      generalize sameB L a = sb at *
      clear key H3 HCS
      go_enter Try.func36, Try.ntmps36
      go_wp2_with fail
      refine H1.out.mono ?_
      rintro e w1 ⟨rfl, hb1⟩
      have HB : Hid (Below w.heap.size w w1) := hb1
      clear hb1
      go_wp2_with fail
      refine (H2.out _ HB.out).mono ?_
      rintro e w2 ⟨u, rfl, hu, hb2⟩
      have HU : Hid (LsR w2 u L ∧ Below w.heap.size w w2) := ⟨lsr_own hu, hb2⟩
      clear hb2 hu
      go_wp2_with fail
      refine (H4.out _ _ HU.out.2 HU.out.1).mono ?_
      rintro e w3 ⟨rfl, hb3⟩
      have HV : Hid (Below w.heap.size w w3) := bel_tr HU.out.2 hb3
      clear hb3
      go_wp2
      go_ret
      exact ⟨rfl, HV.out⟩
    · have H4 := key _ hs
      clear key H3 HCS hs
      go_enter Try.func36, Try.ntmps36
      go_wp2_with fail
      refine H1.out.mono ?_
      rintro e w1 ⟨rfl, hb1⟩
      have HB : Hid (Below w.heap.size w w1) := hb1
      clear hb1
      go_wp2_with fail
      refine (H2.out _ HB.out).mono ?_
      rintro e w2 ⟨u, rfl, hu, hb2⟩
      have HU : Hid (LsR w2 u L ∧ Below w.heap.size w w2) := ⟨lsr_own hu, hb2⟩
      clear hb2 hu
      go_wp2_with fail
      refine (H4.out _ _ HU.out.2 HU.out.1).mono ?_
      rintro e w3 ⟨rfl, hb3⟩
      have HV : Hid (Below w.heap.size w w3) := bel_tr HU.out.2 hb3
      clear hb3
      go_wp2
      go_ret
      exact ⟨rfl, HV.out⟩
    · have H4 := key _ hs
      clear key H3 HCS hs
      go_enter Try.func36, Try.ntmps36
      go_wp2_with fail
      refine H1.out.mono ?_
      rintro e w1 ⟨rfl, hb1⟩
      have HB : Hid (Below w.heap.size w w1) := hb1
      clear hb1
      go_wp2_with fail
      refine (H2.out _ HB.out).mono ?_
      rintro e w2 ⟨u, rfl, hu, hb2⟩
      have HU : Hid (LsR w2 u L ∧ Below w.heap.size w w2) := ⟨lsr_own hu, hb2⟩
      clear hb2 hu
      go_wp2_with fail
      refine (H4.out _ _ HU.out.2 HU.out.1).mono ?_
      rintro e w3 ⟨rfl, hb3⟩
      have HV : Hid (Below w.heap.size w w3) := bel_tr HU.out.2 hb3
      clear hb3
      go_wp2
      go_ret
      exact ⟨rfl, HV.out⟩
  · rw [if_neg h0]
    generalize lisE a = ea at *
    have h1 : (ea != 0) = true := by simp [h0]
    clear ha h0
    go_enter Try.func36, Try.ntmps36
    go_wp2_with fail
    refine H1.out.mono ?_
    rintro e w1 ⟨rfl, hb1⟩
    have HB : Hid (Below w.heap.size w w1) := hb1
    clear hb1
    go_wp2
    go_ret
    exact ⟨rfl, HB.out⟩

theorem hsD_hasC {l : List Rc} (h : Mays l) (x y : Int) : hsD l x y = hasC l x y := by
  rw [Bool.eq_iff_iff, hsD_iff h]
  unfold hasC cov
  rw [List.any_eq_true]
  constructor
  · rintro ⟨r, hr, h0, h1, h2, h3, h4⟩
    refine ⟨r, hr, ?_⟩
    unfold hasB
    unfold keepE at h0
    simp only [Bool.and_eq_true, decide_eq_true_eq]
    exact ⟨h0, h1, h2, h3, h4⟩
  · rintro ⟨r, hr, h⟩
    unfold hasB at h
    simp only [Bool.and_eq_true, decide_eq_true_eq] at h
    exact ⟨r, hr, by unfold keepE; exact h.1, h.2.1, h.2.2.1, h.2.2.2.1, h.2.2.2.2⟩
theorem dhasA_any (l : List Rc) (v : Value) (px py : Int) (w : World) (hv : LsR w v l) :
    Calls Try.prog 34 #[v, .agg #[.int .i64 px, .int .i64 py]] w fun e w' => e = .returned (.tuple #[.bool (decide (lisE l = 0) && hasC l px py), .int .i64 (lisE l)]) ∧ Below w.heap.size w w' := by
  have hb0 : Below w.heap.size w (w.alloc (.cells #[.int .i64 px, .int .i64 py] 31)) := (Below.refl _ w).alloc (Nat.le_refl _) _
  have H1 : Hid (∀ W, Below w.heap.size w W → Calls Try.prog 62 #[v] W fun e w' => e = .returned (.int .i64 (lisE l)) ∧ Below W.heap.size W w') := fun W h => asked_any l v W (hv.below h)
  have HB0 : Hid (Below w.heap.size w (w.alloc (.cells #[.int .i64 px, .int .i64 py] 31)) ∧ Bk (w.alloc (.cells #[.int .i64 px, .int .i64 py] 31)) w.heap.size #[.int .i64 px, .int .i64 py] 31) := ⟨hb0, Bk.new _ _ _⟩
  by_cases h0 : lisE l = 0
  · have hz := lisE_zero h0
    have H2 : Hid (∀ W, Below w.heap.size w W → Calls Try.prog 65 #[v, .int .i64 px, .int .i64 py] W fun e w' => e = .returned (.bool (hasC l px py)) ∧ Below W.heap.size W w') := fun W h => by
      have q := dhas_any l v px py W (hv.below h) hz.2 (by omega)
      rwa [hsD_hasC hz.2] at q
    rw [h0] at H1 ⊢
    rw [decide_eq_true rfl, Bool.true_and]
    generalize hasC l px py = hh at *
    clear hv h0 hb0 hz
    go_enter Try.func34, Try.ntmps34
    go_wp2_with fail
    refine (H1.out _ HB0.out.1).mono ?_
    rintro e w1 ⟨rfl, hb1⟩
    have HB1 : Hid (Below w.heap.size w w1) := bel_tr HB0.out.1 hb1
    obtain ⟨y0, y1⟩ := (HB0.out.2.below hb1).at2
    clear hb1
    go_wp2_with fail
    refine (H2.out _ HB1.out).mono ?_
    rintro e w2 ⟨rfl, hb2⟩
    have HB2 : Hid (Below w.heap.size w w2) := bel_tr HB1.out hb2
    clear hb2 y0 y1
    go_wp2
    go_ret2
    exact ⟨rfl, HB2.out⟩
  · rw [decide_eq_false h0, Bool.false_and]
    generalize lisE l = ea at *
    have h1 : (ea != 0) = true := by simp [h0]
    clear hv h0 hb0
    go_enter Try.func34, Try.ntmps34
    go_wp2_with fail
    refine (H1.out _ HB0.out.1).mono ?_
    rintro e w1 ⟨rfl, hb1⟩
    have HB1 : Hid (Below w.heap.size w w1) := bel_tr HB0.out.1 hb1
    clear hb1
    go_wp2
    go_ret2
    exact ⟨rfl, HB1.out⟩

set_option maxRecDepth 10000 in
set_option maxHeartbeats 4000000 in
theorem dmoved_any (a : List Rc) (va : Value) (p q : Int) (w : World) (ha : LsR w va a) :
    Calls Try.prog 32 #[va, .agg #[.int .i64 p, .int .i64 q]] w fun e w' => Ans w (movA a p q).1 (movA a p q).2 e w' := by
  have hb0 : Below w.heap.size w (w.alloc (.cells #[.int .i64 p, .int .i64 q] 31)) := (Below.refl _ w).alloc (Nat.le_refl _) _
  have HB0 : Hid (Below w.heap.size w (w.alloc (.cells #[.int .i64 p, .int .i64 q] 31)) ∧ Bk (w.alloc (.cells #[.int .i64 p, .int .i64 q] 31)) w.heap.size #[.int .i64 p, .int .i64 q] 31) := ⟨hb0, Bk.new _ _ _⟩
  have H1 : Hid (∀ W, Below w.heap.size w W → Calls Try.prog 62 #[va] W fun e w' => e = .returned (.int .i64 (lisE a)) ∧ Below W.heap.size W w') := fun W h => asked_any a va W (ha.below h)
  have HO : Hid (lisE a = 0 → ∀ W, Below w.heap.size w W → Calls Try.prog 63 #[va, .slice none 0 0, .int .i64 1] W fun e w' => Ans W (ansL 0 (formF false a [])) (ansE 0 (formF false a [])) e w') := fun h0 W h => by
    have q := made_any a [] va (.slice none 0 0) 1 W (ha.below h) (lsr_nil W) (lisE_zero h0).2 Mays_nil (by have := (lisE_zero h0).1; omega) (by simp)
    rwa [wk_one, List.append_nil] at q
  clear hb0
  unfold movA
  by_cases h0 : lisE a = 0
  · rw [if_pos h0]
    rw [h0] at H1
    have HO2 : Hid (∀ W, Below w.heap.size w W → Calls Try.prog 63 #[va, .slice none 0 0, .int .i64 1] W fun e w' => Ans W (ansL 0 (formF false a [])) (ansE 0 (formF false a [])) e w') := HO.out h0
    have hEc : ansE 0 (formF false a []) = 0 ∨ (ansE 0 (formF false a []) = 4 ∧ ansL 0 (formF false a []) = []) := by
      unfold ansE ansL
      rw [if_pos rfl]
      split
      · exact .inr ⟨rfl, by rw [if_neg (by omega)]⟩
      · exact .inl rfl
    clear HO
    have HK : Hid (∀ r ∈ ansL 0 (formF false a []), keepE r = true) := ansL_bd a
    have hFl := ansL_len (formF false a [])
    generalize ansE 0 (formF false a []) = E at *
    generalize ansL 0 (formF false a []) = F at *
    by_cases hst : (stpB p && stpB q) = true
    · rw [if_pos hst]
      obtain ⟨s1, s2⟩ : stpB p = true ∧ stpB q = true := by simpa using hst
      have b1 : -65536 ≤ p ∧ p ≤ 65536 := by unfold stpB at s1; simpa using s1
      have b2 : -65536 ≤ q ∧ q ≤ 65536 := by unfold stpB at s2; simpa using s2
      have t1 : ¬ (65536 : Int) < p := by omega
      have t2 : ¬ p < -65536 := by omega
      have t3 : ¬ (65536 : Int) < q := by omega
      have t4 : ¬ q < -65536 := by omega
      obtain ⟨R, HR⟩ : ∃ R : List Rc × Int, Hid (R = if (F.all fun r => mayR (mvR p q r)) = true then (F.map (mvR p q), E) else ([], 5)) := ⟨_, rfl⟩
      rw [← HR.out]
      clear ha h0 hst s1 s2
      go_enter Try.func32, Try.ntmps32
      go_wp2_with fail
      refine (H1.out _ HB0.out.1).mono ?_
      rintro e w1 ⟨rfl, hb1⟩
      have HB1 : Hid (Below w.heap.size w w1 ∧ Bk w1 w.heap.size #[.int .i64 p, .int .i64 q] 31) := ⟨HB0.out.1.trans (hb1.mono HB0.out.1.size), HB0.out.2.below hb1⟩
      clear hb1
      obtain ⟨y0, y1⟩ := HB1.out.2.at2
      go_wp2_with fail
      refine (HO2.out _ HB1.out.1).mono ?_
      rintro e w4 ⟨v, rfl, hv, hb4⟩
      obtain ⟨ov, cv, rfl, hcv, hgv⟩ := row_val hv
      have HB4 : Hid (Below w.heap.size w w4 ∧ Bk w4 w.heap.size #[.int .i64 p, .int .i64 q] 31) := ⟨HB1.out.1.trans (hb4.mono HB1.out.1.size), HB1.out.2.below hb4⟩
      have HV0 : Hid (w4.ownsRow w1.heap.size 35 4 (.slice ov F.length cv) F.length (flat F) ∧ w.heap.size < w1.heap.size) := ⟨hv, HB1.out.2.lt⟩
      have HGv : Hid (0 < F.length → ∃ g, ov = some ⟨g, 0, none⟩ ∧ w1.heap.size ≤ g) := fun h => by obtain ⟨g, e, h1, _⟩ := hgv h; exact ⟨g, e, h1⟩
      clear hb4 hv hgv y0 y1
      rcases hEc with rfl | ⟨rfl, rfl⟩
      case inr =>
        have HR0 : Hid (R = ([], 4)) := by rw [HR.out]; rfl
        go_wp2
        go_ret2
        refine ⟨.slice none 0 0, by rw [HR0.out]; rfl, ?_, HB4.out.1⟩
        rw [HR0.out]
        exact World.ownsRow_nil _ _ _ _
      go_wp2_with fail
      go_loopw [8] (fun i wr => ∃ k : Nat, i = .int .i64 k ∧ k ≤ F.length ∧ ((F.take k).all fun r => mayR (mvR p q r)) = true ∧ wr.ownsRow w1.heap.size 35 4 (.slice ov F.length cv) F.length (flat ((F.take k).map (mvR p q) ++ F.drop k)) ∧ Below w.heap.size w wr ∧ Bk wr w.heap.size #[.int .i64 p, .int .i64 q] 31) (fun i _ => F.length - (intOf i).toNat)
      case atStart => exact ⟨0, rfl, Nat.zero_le _, rfl, HV0.out.1, HB4.out.1, HB4.out.2⟩
      case round =>
        obtain ⟨k, rfl, hk, hall, hown, L, B⟩ := hrel
        by_cases hlt : k < F.length
        · obtain ⟨g, rfl, hg1⟩ := HGv.out (by omega)
          have hd : F.drop k = F[k] :: F.drop (k + 1) := List.drop_eq_getElem_cons hlt
          have hkp := (keepE_iff _).1 (HK.out _ (List.getElem_mem hlt))
          have e1 : F.take (k + 1) = F.take k ++ [F[k]] := (List.take_append_getElem hlt).symm
          rw [hd] at hown
          have hml : ((F.take k).map (mvR p q)).length = k := by rw [List.length_map, List.length_take]; omega
          have hfm := flat_mid ((F.take k).map (mvR p q)) F[k] (F.drop (k + 1))
          have hfs := flat_set2 ((F.take k).map (mvR p q)) F[k] (F.drop (k + 1)) p q
          rw [hml] at hfm hfs
          obtain ⟨f0, f1, f2, f3⟩ := hfm
          have c0 := (own_cell hown (k * 4) (by omega)).trans f0
          have c1 := (own_cell hown (k * 4 + 1) (by omega)).trans f1
          have c2 := (own_cell hown (k * 4 + 2) (by omega)).trans f2
          have c3 := (own_cell hown (k * 4 + 3) (by omega)).trans f3
          have z0 := own_frozen hown (k * 4)
          have z1 := own_frozen hown (k * 4 + 1)
          obtain ⟨y0, y1⟩ := B.at2
          have HE : Hid (F.take (k + 1) = F.take k ++ [F[k]] ∧ F.all (fun r => mayR (mvR p q r)) = F.all (fun r => mayR (mvR p q r))) := ⟨e1, rfl⟩
          have HNo : Hid (mayR (mvR p q F[k]) = false → R = ([], 5)) := fun h => by
            rw [HR.out, if_neg]
            intro hc
            have := List.all_eq_true.1 hc _ (List.getElem_mem hlt)
            rw [h] at this
            cases this
          have HCk : Hid (∀ W, Calls Try.prog 64 #[.agg #[.int .i64 (F[k].x + p), .int .i64 (F[k].y + q), .int .i64 F[k].w, .int .i64 F[k].h]] W fun e w' => e = .returned (.bool (mayR (mvR p q F[k]))) ∧ Below W.heap.size W w') := fun W => dmay_any _ _ _ _ W
          have HRow : Hid (((((wr.setCell ⟨g, k * 4, none⟩ (.int .i64 (F[k].x + p))).setCell ⟨g, k * 4 + 1, none⟩ (.int .i64 (F[k].y + q))).drew).drew).ownsRow w1.heap.size 35 4 (.slice (some ⟨g, 0, none⟩) F.length cv) F.length (flat ((F.take k).map (mvR p q) ++ mvR p q F[k] :: F.drop (k + 1))) ∧ Below w.heap.size w ((((wr.setCell ⟨g, k * 4, none⟩ (.int .i64 (F[k].x + p))).setCell ⟨g, k * 4 + 1, none⟩ (.int .i64 (F[k].y + q))).drew).drew) ∧ Bk ((((wr.setCell ⟨g, k * 4, none⟩ (.int .i64 (F[k].x + p))).setCell ⟨g, k * 4 + 1, none⟩ (.int .i64 (F[k].y + q))).drew).drew) w.heap.size #[.int .i64 p, .int .i64 q] 31) := by
            have dr : ∀ X : World, Below X.heap.size X X.drew := fun X => (Below.refl _ X).drew
            have r1 := own_set hown (k * 4) (.int .i64 (F[k].x + p))
            have r2 := own_set r1 (k * 4 + 1) (.int .i64 (F[k].y + q))
            rw [hfs] at r2
            have hgw : w.heap.size < g := Nat.lt_of_lt_of_le HV0.out.2 hg1
            have L1 := L.setCell (p := ⟨g, k * 4, none⟩) (by show w.heap.size ≤ g; omega) (.int .i64 (F[k].x + p))
            have L2 := L1.setCell (p := ⟨g, k * 4 + 1, none⟩) (by show w.heap.size ≤ g; omega) (.int .i64 (F[k].y + q))
            exact ⟨row_below (row_below r2 (dr _)) (dr _), L2.drew.drew, (((B.other ⟨g, k * 4, none⟩ (.int .i64 (F[k].x + p)) (by show g ≠ w.heap.size; omega)).other ⟨g, k * 4 + 1, none⟩ (.int .i64 (F[k].y + q)) (by show g ≠ w.heap.size; omega)).below (dr _)).below (dr _)⟩
          have hgl : g < wr.heap.size := by have := (row_lt hown g rfl).2; exact this
          have hgw : w.heap.size < g := Nat.lt_of_lt_of_le HV0.out.2 hg1
          have hwl := B.lt
          clear e1 hown L B hd f0 f1 f2 f3 hfs hml
          generalize F[k] = x at *
          go_wp2_with fail
          go_region
          go_wp2_with fail
          go_region
          obtain ⟨V, hV⟩ : ∃ V, V = (((wr.setCell ⟨g, k * 4, none⟩ (.int .i64 (x.x + p))).setCell ⟨g, k * 4 + 1, none⟩ (.int .i64 (x.y + q))).drew).drew := ⟨_, rfl⟩
          rw [← hV] at HRow ⊢
          clear hV c0 c1 c2 c3 z0 z1 y0 y1
          have hfm := flat_mid ((F.take k).map (mvR p q)) (mvR p q x) (F.drop (k + 1))
          have hml : ((F.take k).map (mvR p q)).length = k := by rw [List.length_map, List.length_take]; omega
          rw [hml] at hfm
          obtain ⟨f0, f1, f2, f3⟩ := hfm
          have c0 := (own_cell HRow.out.1 (k * 4) (by omega)).trans f0
          have c1 := (own_cell HRow.out.1 (k * 4 + 1) (by omega)).trans f1
          have c2 := (own_cell HRow.out.1 (k * 4 + 2) (by omega)).trans f2
          have c3 := (own_cell HRow.out.1 (k * 4 + 3) (by omega)).trans f3
          unfold mvR at c0 c1 c2 c3
          dsimp only at c0 c1 c2 c3
          clear f0 f1 f2 f3 hml
          cases hm : mayR (mvR p q x)
          · rw [hm] at HCk
            have HR5 : Hid (R = ([], 5)) := HNo.out hm
            go_wp2_with fail
            refine (HCk.out _).mono ?_
            rintro e w6 ⟨rfl, hb6⟩
            have HB6 : Hid (Below w.heap.size w w6) := HRow.out.2.1.trans (hb6.mono HRow.out.2.1.size)
            clear hb6
            go_wp2
            go_ret2
            refine ⟨_, by rw [HR5.out]; rfl, ?_, HB6.out⟩
            rw [HR5.out]
            exact World.ownsRow_nil _ _ _ _
          · rw [hm] at HCk
            go_wp2_with fail
            refine (HCk.out _).mono ?_
            rintro e w6 ⟨rfl, hb6⟩
            have HRel : Hid (∃ k' : Nat, Value.int .i64 ((k : Int) + 1) = .int .i64 k' ∧ k' ≤ F.length ∧ ((F.take k').all fun r => mayR (mvR p q r)) = true ∧ w6.ownsRow w1.heap.size 35 4 (.slice (some ⟨g, 0, none⟩) F.length cv) F.length (flat ((F.take k').map (mvR p q) ++ F.drop k')) ∧ Below w.heap.size w w6 ∧ Bk w6 w.heap.size #[.int .i64 p, .int .i64 q] 31) := by
              refine ⟨k + 1, by go_num, by omega, ?_, ?_, HRow.out.2.1.trans (hb6.mono HRow.out.2.1.size), HRow.out.2.2.below hb6⟩
              · rw [HE.out.1, List.all_append, hall]
                simp [hm]
              · rw [HE.out.1, List.map_append, List.append_assoc]
                exact row_below HRow.out.1 hb6
            clear hb6 c0 c1 c2 c3
            go_wp2
            exact ⟨HRel.out, by simp [intOf]; omega⟩
        · obtain rfl : k = F.length := by omega
          rw [List.take_length] at hall hown
          rw [List.drop_length, List.append_nil] at hown
          have HF : Hid (R = (F.map (mvR p q), (0 : Int)) ∧ wr.ownsRow w.heap.size 35 4 (.slice ov F.length cv) (F.map (mvR p q)).length (flat (F.map (mvR p q))) ∧ Below w.heap.size w wr) := by
            refine ⟨by rw [HR.out, if_pos hall], ?_, L⟩
            rw [List.length_map]
            exact row_weaken hown (Nat.le_of_lt HV0.out.2)
          clear hall hown L B
          go_wp2
          go_ret2
          refine ⟨_, by rw [HF.out.1]; rfl, ?_, HF.out.2.2⟩
          rw [HF.out.1]
          exact HF.out.2.1
    · rw [if_neg hst]
      have cs : (65536 : Int) < p ∨ (¬ (65536 : Int) < p ∧ p < -65536) ∨ (¬ (65536 : Int) < p ∧ ¬ p < -65536 ∧ (65536 : Int) < q) ∨ (¬ (65536 : Int) < p ∧ ¬ p < -65536 ∧ ¬ (65536 : Int) < q ∧ q < -65536) := by
        unfold stpB at hst
        simp at hst
        omega
      clear ha h0 hst HO2 hEc
      rcases cs with t1 | ⟨t1, t2⟩ | ⟨t1, t2, t3⟩ | ⟨t1, t2, t3, t4⟩
      all_goals
        go_enter Try.func32, Try.ntmps32
        go_wp2_with fail
        refine (H1.out _ HB0.out.1).mono ?_
        rintro e w1 ⟨rfl, hb1⟩
        have HB1 : Hid (Below w.heap.size w w1) := HB0.out.1.trans (hb1.mono HB0.out.1.size)
        obtain ⟨y0, y1⟩ := (HB0.out.2.below hb1).at2
        clear hb1
        go_wp2
        go_ret2
        exact ⟨_, rfl, World.ownsRow_nil _ _ _ _, HB1.out⟩
  · rw [if_neg h0]
    generalize lisE a = ea at *
    have h1 : (ea != 0) = true := by simp [h0]
    clear ha h0 HO
    go_enter Try.func32, Try.ntmps32
    go_wp2_with fail
    refine (H1.out _ HB0.out.1).mono ?_
    rintro e w1 ⟨rfl, hb1⟩
    have HB1 : Hid (Below w.heap.size w w1) := HB0.out.1.trans (hb1.mono HB0.out.1.size)
    clear hb1
    go_wp2
    go_ret2
    exact ⟨_, rfl, World.ownsRow_nil _ _ _ _, HB1.out⟩

end Go.Proofs.Ytagkbpceiedikaa
