/-
  Contracts of package region: Moved.
-/
import Derived.Test.YtagkbpceiedikaaGT
import Derived.BigRegion
namespace Go.Proofs.Ytagkbpceiedikaa
open Go.RowKit Go.Sort Go.Shelf

def stpB (n : Int) : Bool := decide (-65536 ≤ n) && decide (n ≤ 65536)
theorem step_any (n : Int) (w : World) : Calls Try.prog 49 #[.int .i64 n] w fun e w' => e = .returned (.bool (stpB n)) ∧ Below w.heap.size w w' := by
  unfold stpB
  by_cases h1 : -65536 ≤ n
  · by_cases h2 : n ≤ 65536
    all_goals
      go_enter Try.func49, Try.ntmps49
      go_wp2
      go_ret
      exact ⟨by simp [h1, h2], Below.refl _ _⟩
  · go_enter Try.func49, Try.ntmps49
    go_wp2
    go_ret
    have h3 : decide (-65536 ≤ n) = false := decide_eq_false (by omega)
    exact ⟨by rw [h3]; rfl, Below.refl _ _⟩
def mvR (p q : Int) (r : Rc) : Rc := ⟨r.x + p, r.y + q, r.w, r.h⟩
def mayR (r : Rc) : Bool := mayB r.x r.y r.w r.h
/-- What Moved answers. -/
def movA (a : List Rc) (p q : Int) : List Rc × Int :=
  if lisE a = 0 then (if (stpB p && stpB q) = true then (if ((ansL 0 (formF false a [])).all fun r => mayR (mvR p q r)) = true then ((ansL 0 (formF false a [])).map (mvR p q), ansE 0 (formF false a [])) else ([], 5)) else ([], 2)) else ([], lisE a)
theorem flat_set2 (l : List Rc) (r : Rc) (t : List Rc) (p q : Int) : ((flat (l ++ r :: t)).set (l.length * 4) (.int .i64 (r.x + p))).set (l.length * 4 + 1) (.int .i64 (r.y + q)) = flat (l ++ mvR p q r :: t) := by
  rw [flat_app, flat_app, List.set_append_right _ _ (by rw [flat_len]; exact Nat.le_refl _), List.set_append_right _ _ (by rw [flat_len]; omega), flat_len]
  congr 1
  show ((cel r ++ flat t).set (l.length * 4 - l.length * 4) _).set (l.length * 4 + 1 - l.length * 4) _ = cel (mvR p q r) ++ flat t
  rw [Nat.sub_self, Nat.add_sub_cancel_left]
  rfl
theorem ansL_bd (a : List Rc) : ∀ r ∈ ansL 0 (formF false a []), keepE r = true := by
  intro r hr
  unfold ansL at hr
  split at hr
  · exact form_keep false a [] r hr
  · cases hr
theorem ansL_len (F : List Rc) : (ansL 0 F).length ≤ 1024 := by
  unfold ansL
  split
  · next h => exact h.2
  · simp

theorem flat_mid (l : List Rc) (r : Rc) (t : List Rc) : (flat (l ++ r :: t))[l.length * 4]? = some (.int .i64 r.x) ∧ (flat (l ++ r :: t))[l.length * 4 + 1]? = some (.int .i64 r.y) ∧ (flat (l ++ r :: t))[l.length * 4 + 2]? = some (.int .i64 r.w) ∧ (flat (l ++ r :: t))[l.length * 4 + 3]? = some (.int .i64 r.h) := by
  have h := flat_at (l ++ r :: t) l.length (by simp)
  have e : (l ++ r :: t)[l.length]'(by simp) = r := by simp
  rw [e] at h
  exact h

set_option maxRecDepth 10000 in
set_option maxHeartbeats 4000000 in
theorem moved_any (a : List Rc) (va : Value) (p q : Int) (w : World) (ha : LsR w va a) (ia : I64s a) :
    Calls Try.prog 15 #[va, .agg #[.int .i64 p, .int .i64 q]] w fun e w' => Ans w (movA a p q).1 (movA a p q).2 e w' := by
  have hb0 : Below w.heap.size w (w.alloc (.cells #[.int .i64 p, .int .i64 q] 31)) := (Below.refl _ w).alloc (Nat.le_refl _) _
  have HB0 : Hid (Below w.heap.size w (w.alloc (.cells #[.int .i64 p, .int .i64 q] 31)) ∧ Bk (w.alloc (.cells #[.int .i64 p, .int .i64 q] 31)) w.heap.size #[.int .i64 p, .int .i64 q] 31) := ⟨hb0, Bk.new _ _ _⟩
  have H1 : Hid (∀ W, Below w.heap.size w W → Calls Try.prog 41 #[va] W fun e w' => e = .returned (.int .i64 (lisE a)) ∧ Below W.heap.size W w') := fun W h => listed_any a va W (ha.below h) ia
  have HO : Hid (∀ W, Below w.heap.size w W → Calls Try.prog 11 #[va] W fun e w' => Ans W (ansL (lisE a) (formF false a [])) (ansE (lisE a) (formF false a [])) e w') := fun W h => of_any a va W (ha.below h) ia
  have HS : Hid (∀ n W, Calls Try.prog 49 #[.int .i64 n] W fun e w' => e = .returned (.bool (stpB n)) ∧ Below W.heap.size W w') := fun n W => step_any n W
  clear hb0
  unfold movA
  by_cases h0 : lisE a = 0
  · rw [if_pos h0]
    rw [h0] at H1 HO
    have HK : Hid (∀ r ∈ ansL 0 (formF false a []), keepE r = true) := ansL_bd a
    have hFl := ansL_len (formF false a [])
    generalize ansE 0 (formF false a []) = E at *
    generalize ansL 0 (formF false a []) = F at *
    by_cases hst : (stpB p && stpB q) = true
    · rw [if_pos hst]
      obtain ⟨s1, s2⟩ : stpB p = true ∧ stpB q = true := by simpa using hst
      have b1 : -65536 ≤ p ∧ p ≤ 65536 := by unfold stpB at s1; simpa using s1
      have b2 : -65536 ≤ q ∧ q ≤ 65536 := by unfold stpB at s2; simpa using s2
      have HS1 := HS.out p
      have HS2 := HS.out q
      rw [s1] at HS1
      rw [s2] at HS2
      have HS3 : Hid ((∀ W, Calls Try.prog 49 #[.int .i64 p] W fun e w' => e = .returned (.bool true) ∧ Below W.heap.size W w') ∧ (∀ W, Calls Try.prog 49 #[.int .i64 q] W fun e w' => e = .returned (.bool true) ∧ Below W.heap.size W w')) := ⟨HS1, HS2⟩
      obtain ⟨R, HR⟩ : ∃ R : List Rc × Int, Hid (R = if (F.all fun r => mayR (mvR p q r)) = true then (F.map (mvR p q), E) else ([], 5)) := ⟨_, rfl⟩
      rw [← HR.out]
      clear ha ia h0 hst HS s1 s2 HS1 HS2
      go_enter Try.func15, Try.ntmps15
      go_wp2_with fail
      refine (H1.out _ HB0.out.1).mono ?_
      rintro e w1 ⟨rfl, hb1⟩
      have HB1 : Hid (Below w.heap.size w w1 ∧ Bk w1 w.heap.size #[.int .i64 p, .int .i64 q] 31) := ⟨HB0.out.1.trans (hb1.mono HB0.out.1.size), HB0.out.2.below hb1⟩
      clear hb1
      obtain ⟨y0, y1⟩ := HB1.out.2.at2
      go_wp2_with fail
      refine (HS3.out.1 _).mono ?_
      rintro e w2 ⟨rfl, hb2⟩
      have HB2 : Hid (Below w.heap.size w w2 ∧ Bk w2 w.heap.size #[.int .i64 p, .int .i64 q] 31) := ⟨HB1.out.1.trans (hb2.mono HB1.out.1.size), HB1.out.2.below hb2⟩
      clear hb2 y0 y1
      obtain ⟨y0, y1⟩ := HB2.out.2.at2
      go_wp2_with fail
      refine (HS3.out.2 _).mono ?_
      rintro e w3 ⟨rfl, hb3⟩
      have HB3 : Hid (Below w.heap.size w w3 ∧ Bk w3 w.heap.size #[.int .i64 p, .int .i64 q] 31) := ⟨HB2.out.1.trans (hb3.mono HB2.out.1.size), HB2.out.2.below hb3⟩
      clear hb3 y0 y1
      go_wp2_with fail
      refine (HO.out _ HB3.out.1).mono ?_
      rintro e w4 ⟨v, rfl, hv, hb4⟩
      obtain ⟨ov, cv, rfl, hcv, hgv⟩ := row_val hv
      have HB4 : Hid (Below w.heap.size w w4 ∧ Bk w4 w.heap.size #[.int .i64 p, .int .i64 q] 31) := ⟨HB3.out.1.trans (hb4.mono HB3.out.1.size), HB3.out.2.below hb4⟩
      have HV0 : Hid (w4.ownsRow w3.heap.size 35 4 (.slice ov F.length cv) F.length (flat F) ∧ w.heap.size < w3.heap.size) := ⟨hv, HB3.out.2.lt⟩
      have HGv : Hid (0 < F.length → ∃ g, ov = some ⟨g, 0, none⟩ ∧ w3.heap.size ≤ g) := fun h => by obtain ⟨g, e, h1, _⟩ := hgv h; exact ⟨g, e, h1⟩
      clear hb4 hv hgv
      go_wp2_with fail
      go_loopw [32] (fun i wr => ∃ k : Nat, i = .int .i64 k ∧ k ≤ F.length ∧ ((F.take k).all fun r => mayR (mvR p q r)) = true ∧ wr.ownsRow w3.heap.size 35 4 (.slice ov F.length cv) F.length (flat ((F.take k).map (mvR p q) ++ F.drop k)) ∧ Below w.heap.size w wr ∧ Bk wr w.heap.size #[.int .i64 p, .int .i64 q] 31) (fun i _ => F.length - (intOf i).toNat)
      case atStart => exact ⟨0, rfl, Nat.zero_le _, rfl, HV0.out.1, HB4.out.1, HB4.out.2⟩
      case round =>
        obtain ⟨k, rfl, hk, hall, hown, L, B⟩ := hrel
        by_cases hlt : k < F.length
        · obtain ⟨g, rfl, hg1⟩ := HGv.out (by omega)
          have hd : F.drop k = F[k] :: F.drop (k + 1) := List.drop_eq_getElem_cons hlt
          have hkp := (keepE_iff _).1 (HK.out _ (List.getElem_mem hlt))
          have e1 : F.take (k + 1) = F.take k ++ [F[k]] := (List.take_append_getElem hlt).symm
          rw [hd] at hown
          have hml : ((F.take k).map (mvR p q)).length = k := by rw [List.length_map, List.length_take]; omega
          have hfm := flat_mid ((F.take k).map (mvR p q)) F[k] (F.drop (k + 1))
          have hfs := flat_set2 ((F.take k).map (mvR p q)) F[k] (F.drop (k + 1)) p q
          rw [hml] at hfm hfs
          obtain ⟨f0, f1, f2, f3⟩ := hfm
          have c0 := (own_cell hown (k * 4) (by omega)).trans f0
          have c1 := (own_cell hown (k * 4 + 1) (by omega)).trans f1
          have c2 := (own_cell hown (k * 4 + 2) (by omega)).trans f2
          have c3 := (own_cell hown (k * 4 + 3) (by omega)).trans f3
          have z0 := own_frozen hown (k * 4)
          have z1 := own_frozen hown (k * 4 + 1)
          obtain ⟨y0, y1⟩ := B.at2
          have HE : Hid (F.take (k + 1) = F.take k ++ [F[k]] ∧ F.all (fun r => mayR (mvR p q r)) = F.all (fun r => mayR (mvR p q r))) := ⟨e1, rfl⟩
          have HNo : Hid (mayR (mvR p q F[k]) = false → R = ([], 5)) := fun h => by
            rw [HR.out, if_neg]
            intro hc
            have := List.all_eq_true.1 hc _ (List.getElem_mem hlt)
            rw [h] at this
            cases this
          have HCk : Hid (∀ W, Calls Try.prog 50 #[.agg #[.int .i64 (F[k].x + p), .int .i64 (F[k].y + q), .int .i64 F[k].w, .int .i64 F[k].h]] W fun e w' => e = .returned (.int .i64 (chk (F[k].x + p) (F[k].y + q) F[k].w F[k].h)) ∧ Below W.heap.size W w') := fun W => check_any _ _ _ _ W (by unfold I64; omega) (by unfold I64; omega)
          have hch5 : mayR (mvR p q F[k]) = false → chk (F[k].x + p) (F[k].y + q) F[k].w F[k].h = 5 := fun h => by unfold chk; rw [if_neg (by unfold mayR mvR at h; dsimp only at h; rw [h]; decide)]
          have hch0 : mayR (mvR p q F[k]) = true → chk (F[k].x + p) (F[k].y + q) F[k].w F[k].h = 0 := fun h => by unfold chk; rw [if_pos (by unfold mayR mvR at h; exact h)]
          have HRow : Hid (((((wr.setCell ⟨g, k * 4, none⟩ (.int .i64 (F[k].x + p))).setCell ⟨g, k * 4 + 1, none⟩ (.int .i64 (F[k].y + q))).drew).drew).ownsRow w3.heap.size 35 4 (.slice (some ⟨g, 0, none⟩) F.length cv) F.length (flat ((F.take k).map (mvR p q) ++ mvR p q F[k] :: F.drop (k + 1))) ∧ Below w.heap.size w ((((wr.setCell ⟨g, k * 4, none⟩ (.int .i64 (F[k].x + p))).setCell ⟨g, k * 4 + 1, none⟩ (.int .i64 (F[k].y + q))).drew).drew) ∧ Bk ((((wr.setCell ⟨g, k * 4, none⟩ (.int .i64 (F[k].x + p))).setCell ⟨g, k * 4 + 1, none⟩ (.int .i64 (F[k].y + q))).drew).drew) w.heap.size #[.int .i64 p, .int .i64 q] 31) := by
            have dr : ∀ X : World, Below X.heap.size X X.drew := fun X => (Below.refl _ X).drew
            have r1 := own_set hown (k * 4) (.int .i64 (F[k].x + p))
            have r2 := own_set r1 (k * 4 + 1) (.int .i64 (F[k].y + q))
            rw [hfs] at r2
            have hgw : w.heap.size < g := Nat.lt_of_lt_of_le HV0.out.2 hg1
            have L1 := L.setCell (p := ⟨g, k * 4, none⟩) (by show w.heap.size ≤ g; omega) (.int .i64 (F[k].x + p))
            have L2 := L1.setCell (p := ⟨g, k * 4 + 1, none⟩) (by show w.heap.size ≤ g; omega) (.int .i64 (F[k].y + q))
            exact ⟨row_below (row_below r2 (dr _)) (dr _), L2.drew.drew, (((B.other ⟨g, k * 4, none⟩ (.int .i64 (F[k].x + p)) (by show g ≠ w.heap.size; omega)).other ⟨g, k * 4 + 1, none⟩ (.int .i64 (F[k].y + q)) (by show g ≠ w.heap.size; omega)).below (dr _)).below (dr _)⟩
          have hgl : g < wr.heap.size := by have := (row_lt hown g rfl).2; exact this
          have hgw : w.heap.size < g := Nat.lt_of_lt_of_le HV0.out.2 hg1
          have hwl := B.lt
          clear e1 hown L B hd f0 f1 f2 f3 hfs hml
          generalize F[k] = x at *
          go_wp2_with fail
          go_region
          go_wp2_with fail
          go_region
          obtain ⟨V, hV⟩ : ∃ V, V = (((wr.setCell ⟨g, k * 4, none⟩ (.int .i64 (x.x + p))).setCell ⟨g, k * 4 + 1, none⟩ (.int .i64 (x.y + q))).drew).drew := ⟨_, rfl⟩
          rw [← hV] at HRow ⊢
          clear hV c0 c1 c2 c3 z0 z1 y0 y1
          have hfm := flat_mid ((F.take k).map (mvR p q)) (mvR p q x) (F.drop (k + 1))
          have hml : ((F.take k).map (mvR p q)).length = k := by rw [List.length_map, List.length_take]; omega
          rw [hml] at hfm
          obtain ⟨f0, f1, f2, f3⟩ := hfm
          have c0 := (own_cell HRow.out.1 (k * 4) (by omega)).trans f0
          have c1 := (own_cell HRow.out.1 (k * 4 + 1) (by omega)).trans f1
          have c2 := (own_cell HRow.out.1 (k * 4 + 2) (by omega)).trans f2
          have c3 := (own_cell HRow.out.1 (k * 4 + 3) (by omega)).trans f3
          unfold mvR at c0 c1 c2 c3
          dsimp only at c0 c1 c2 c3
          clear f0 f1 f2 f3 hml
          cases hm : mayR (mvR p q x)
          · have h5 := hch5 hm
            rw [h5] at HCk
            have hR5 := HNo.out hm
            have HR5 : Hid (R = ([], 5)) := hR5
            clear hch5 hch0 h5 hR5
            go_wp2_with fail
            refine (HCk.out _).mono ?_
            rintro e w6 ⟨rfl, hb6⟩
            have HB6 : Hid (Below w.heap.size w w6) := HRow.out.2.1.trans (hb6.mono HRow.out.2.1.size)
            clear hb6
            go_wp2
            go_ret2
            refine ⟨_, by rw [HR5.out]; rfl, ?_, HB6.out⟩
            rw [HR5.out]
            exact World.ownsRow_nil _ _ _ _
          · have h5 := hch0 hm
            rw [h5] at HCk
            clear hch5 hch0 h5
            go_wp2_with fail
            refine (HCk.out _).mono ?_
            rintro e w6 ⟨rfl, hb6⟩
            have HRel : Hid (∃ k' : Nat, Value.int .i64 ((k : Int) + 1) = .int .i64 k' ∧ k' ≤ F.length ∧ ((F.take k').all fun r => mayR (mvR p q r)) = true ∧ w6.ownsRow w3.heap.size 35 4 (.slice (some ⟨g, 0, none⟩) F.length cv) F.length (flat ((F.take k').map (mvR p q) ++ F.drop k')) ∧ Below w.heap.size w w6 ∧ Bk w6 w.heap.size #[.int .i64 p, .int .i64 q] 31) := by
              refine ⟨k + 1, by go_num, by omega, ?_, ?_, HRow.out.2.1.trans (hb6.mono HRow.out.2.1.size), HRow.out.2.2.below hb6⟩
              · rw [HE.out.1, List.all_append, hall]
                simp [hm]
              · rw [HE.out.1, List.map_append, List.append_assoc]
                exact row_below HRow.out.1 hb6
            clear hb6 c0 c1 c2 c3
            go_wp2
            exact ⟨HRel.out, by simp [intOf]; omega⟩
        · obtain rfl : k = F.length := by omega
          rw [List.take_length] at hall hown
          rw [List.drop_length, List.append_nil] at hown
          have HF : Hid (R = (F.map (mvR p q), E) ∧ wr.ownsRow w.heap.size 35 4 (.slice ov F.length cv) (F.map (mvR p q)).length (flat (F.map (mvR p q))) ∧ Below w.heap.size w wr) := by
            refine ⟨by rw [HR.out, if_pos hall], ?_, L⟩
            rw [List.length_map]
            exact row_weaken hown (Nat.le_of_lt HV0.out.2)
          clear hall hown L B
          go_wp2
          go_ret2
          refine ⟨_, by rw [HF.out.1]; rfl, ?_, HF.out.2.2⟩
          rw [HF.out.1]
          exact HF.out.2.1
    · rw [if_neg hst]
      have hst2 : stpB p = false ∨ (stpB p = true ∧ stpB q = false) := by
        cases h1 : stpB p <;> cases h2 : stpB q <;> simp [h1, h2] at hst ⊢
      rcases hst2 with s1 | ⟨s1, s2⟩
      · have HS1 := HS.out p
        rw [s1] at HS1
        have HS3 : Hid (∀ W, Calls Try.prog 49 #[.int .i64 p] W fun e w' => e = .returned (.bool false) ∧ Below W.heap.size W w') := HS1
        clear ha ia h0 hst HS s1 HS1
        go_enter Try.func15, Try.ntmps15
        go_wp2_with fail
        refine (H1.out _ HB0.out.1).mono ?_
        rintro e w1 ⟨rfl, hb1⟩
        have HB1 : Hid (Below w.heap.size w w1 ∧ Bk w1 w.heap.size #[.int .i64 p, .int .i64 q] 31) := ⟨HB0.out.1.trans (hb1.mono HB0.out.1.size), HB0.out.2.below hb1⟩
        clear hb1
        obtain ⟨y0, y1⟩ := HB1.out.2.at2
        go_wp2_with fail
        refine (HS3.out _).mono ?_
        rintro e w2 ⟨rfl, hb2⟩
        have HB2 : Hid (Below w.heap.size w w2) := HB1.out.1.trans (hb2.mono HB1.out.1.size)
        clear hb2 y0 y1
        go_wp2
        go_ret2
        exact ⟨_, rfl, World.ownsRow_nil _ _ _ _, HB2.out⟩
      · have HS1 := HS.out p
        have HS2 := HS.out q
        rw [s1] at HS1
        rw [s2] at HS2
        have HS3 : Hid ((∀ W, Calls Try.prog 49 #[.int .i64 p] W fun e w' => e = .returned (.bool true) ∧ Below W.heap.size W w') ∧ (∀ W, Calls Try.prog 49 #[.int .i64 q] W fun e w' => e = .returned (.bool false) ∧ Below W.heap.size W w')) := ⟨HS1, HS2⟩
        clear ha ia h0 hst HS s1 s2 HS1 HS2
        go_enter Try.func15, Try.ntmps15
        go_wp2_with fail
        refine (H1.out _ HB0.out.1).mono ?_
        rintro e w1 ⟨rfl, hb1⟩
        have HB1 : Hid (Below w.heap.size w w1 ∧ Bk w1 w.heap.size #[.int .i64 p, .int .i64 q] 31) := ⟨HB0.out.1.trans (hb1.mono HB0.out.1.size), HB0.out.2.below hb1⟩
        clear hb1
        obtain ⟨y0, y1⟩ := HB1.out.2.at2
        go_wp2_with fail
        refine (HS3.out.1 _).mono ?_
        rintro e w2 ⟨rfl, hb2⟩
        have HB2 : Hid (Below w.heap.size w w2 ∧ Bk w2 w.heap.size #[.int .i64 p, .int .i64 q] 31) := ⟨HB1.out.1.trans (hb2.mono HB1.out.1.size), HB1.out.2.below hb2⟩
        clear hb2 y0 y1
        obtain ⟨y0, y1⟩ := HB2.out.2.at2
        go_wp2_with fail
        refine (HS3.out.2 _).mono ?_
        rintro e w3 ⟨rfl, hb3⟩
        have HB3 : Hid (Below w.heap.size w w3) := HB2.out.1.trans (hb3.mono HB2.out.1.size)
        clear hb3 y0 y1
        go_wp2
        go_ret2
        exact ⟨_, rfl, World.ownsRow_nil _ _ _ _, HB3.out⟩
  · rw [if_neg h0]
    generalize lisE a = ea at *
    have h1 : (ea != 0) = true := by simp [h0]
    clear ha ia h0 HO
    go_enter Try.func15, Try.ntmps15
    go_wp2_with fail
    refine (H1.out _ HB0.out.1).mono ?_
    rintro e w1 ⟨rfl, hb1⟩
    have HB1 : Hid (Below w.heap.size w w1) := HB0.out.1.trans (hb1.mono HB0.out.1.size)
    clear hb1
    go_wp2
    go_ret2
    exact ⟨_, rfl, World.ownsRow_nil _ _ _ _, HB1.out⟩

end Go.Proofs.Ytagkbpceiedikaa
