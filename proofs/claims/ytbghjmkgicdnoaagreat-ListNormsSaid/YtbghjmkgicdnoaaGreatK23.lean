/-
  Texts of this claim, one behind the other: what each is about stands ahead of it.
-/
import Derived.Test.YtbghjmkgicdnoaaGreatK22
import Derived.Test.YtbghjmkgicdnoaaGreatK17
/-
  Contracts of the document's answer for layer 2: made.
-/
namespace Go.Proofs.YtbghjmkgicdnoaaGreat
open Go.RowKit

/-- What is known while the document makes a form. -/
structure MdI (w2 : World) (row : Int → List Sp) (ys : List Int) (k : Nat) (acc : List Bd) (v u : Value) (wr : World) : Prop where
  f : bandsF row (ys.drop k) acc = bandsF row ys []
  n : (flatB acc).length ≤ 1024
  i : InB acc
  b : ∀ (h : k < ys.length), BanR ys[k] acc
  o : wr.ownsRow w2.heap.size 44 4 v (flatB acc).length (flat (flatB acc))
  l : ∀ (h : k < ys.length), IL wr u (spI (lastS acc ys[k]))
  B : Below w2.heap.size w2 wr
theorem Bk_of_own {w : World} {base : Nat} {e : TypeId} {size n g cap : Nat} {xs : List Value} (h : w.ownsRow base e size (.slice (some ⟨g, 0, none⟩) n cap) n xs) : ∃ cs, Bk w g cs e := by
  obtain ⟨_, ⟨h, _⟩ | ⟨g', cap', cur, h, _, hc, _⟩⟩ := h
  · cases h
  · injection h with e1 _ _
    injection e1 with e1
    injection e1 with e1 _ _
    subst e1
    exact ⟨cur, hc⟩
theorem flat_set3 (l : List Rc) (r : Rc) (t : List Rc) (z : Int) : (flat (l ++ r :: t)).set (l.length * 4 + 3) (.int .i64 (r.h + z)) = flat (l ++ grw z r :: t) := by
  rw [flat_app, flat_app, List.set_append_right _ _ (by rw [flat_len]; omega), flat_len]
  congr 1
  show ((cel r ++ flat t).set (l.length * 4 + 3 - l.length * 4) _) = cel (grw z r) ++ flat t
  rw [Nat.add_sub_cancel_left]
  rfl
theorem upd_cell (L : List Rc) {m j : Nat} (z : Int) (hj : j + 1 + m = L.length) : (flat (upd L m z))[j * 4 + 3]? = some (.int .i64 (L[j]'(by omega)).h) ∧ (flat (upd L m z)).set (j * 4 + 3) (.int .i64 ((L[j]'(by omega)).h + z)) = flat (upd L (m + 1) z) := by
  obtain ⟨h1, h2⟩ := upd_step L z hj
  have hl : (L.take j).length = j := by rw [List.length_take]; omega
  rw [h1, h2]
  have q := flat_set3 (L.take j) (L[j]'(by omega)) ((L.drop (j + 1)).map (grw z)) z
  rw [hl] at q
  refine ⟨?_, q⟩
  have r := flat_at (L.take j ++ L[j]'(by omega) :: (L.drop (j + 1)).map (grw z)) j (by simp; omega)
  have e : (L.take j ++ L[j]'(by omega) :: (L.drop (j + 1)).map (grw z))[j]'(by simp; omega) = L[j]'(by omega) := by
    rw [List.getElem_append_right (by omega)]
    simp [hl]
  rw [e] at r
  exact r.2.2.2
theorem rcts_take (d : Bd) (m : Nat) (h : m < d.2.2.length) : (rcts d).take (m + 1) = (rcts d).take m ++ [⟨d.2.2[m].1, d.1, d.2.2[m].2 - d.2.2[m].1, d.2.1 - d.1⟩] := by
  have hl : m < (rcts d).length := by rw [rcts_len]; exact h
  rw [← List.take_append_getElem hl]
  congr 2
  simp [rcts]
theorem cell_bk4 {w : World} {g : Nat} {x y z q : Value} {t : TypeId} (h : w.heap[g]? = some (.cells #[x, y, z, q] t)) : ∀ (j : Nat) (u : Value), [x, y, z, q][j]? = some u → w.cell? ((⟨g, 0, none⟩ : Addr).add j) = some u := by
  intro j u hj
  obtain ⟨c, _, _⟩ := heap_cells h
  have e : (⟨g, 0, none⟩ : Addr).add j = ⟨g, j, none⟩ := by
    unfold Addr.add
    split <;> simp_all
  rw [e, c j]
  simpa using hj
theorem one4h (a b c d : Int) : ∀ u ∈ [Value.int .i64 a, .int .i64 b, .int .i64 c, .int .i64 d], u.oneCell' = true := by
  intro u hu
  simp at hu
  rcases hu with rfl | rfl | rfl | rfl <;> rfl
/-- The new rectangles laid so far. -/
def NwI (w2 : World) (acc : List Bd) (d : Bd) (m : Nat) (v u : Value) (wr : World) : Prop :=
  wr.ownsRow w2.heap.size 44 4 v (flatB acc ++ (rcts d).take m).length (flat (flatB acc ++ (rcts d).take m)) ∧ IL wr u (spI d.2.2) ∧ Below w2.heap.size w2 wr
/-- The last ones grown so far. -/
def GrI (w2 : World) (L : List Rc) (z : Int) (m : Nat) (v u : Value) (xs : List Int) (wr : World) : Prop :=
  wr.ownsRow w2.heap.size 44 4 v L.length (flat (upd L m z)) ∧ IL wr u xs ∧ Below w2.heap.size w2 wr

set_option maxRecDepth 20000 in
set_option maxHeartbeats 40000000 in
theorem made_any (a b : List Rc) (va vb : Value) (what : Int) (w : World) (ha : LsR w va a) (hb : LsR w vb b) (ma : Mays a) (mb : Mays b) (la : a.length ≤ 3000) (lb : b.length ≤ 3000) :
    Calls Tryz.prog 56 #[va, vb, .int .i64 what] w fun e w' => Ans w (ansL 0 (formF (wK what) (wA what a b) (wB what b))) (ansE 0 (formF (wK what) (wA what a b) (wB what b))) e w' := by
  have HE1 : Hid (Calls Tryz.prog 78 #[.slice none 0 0, va, .bool true, .int .i64 0] w fun e w' => ∃ u, e = .returned u ∧ w'.ownsRow w.heap.size 3 1 u (edF true 0 a []).length (flatI (edF true 0 a [])) ∧ Below w.heap.size w w') :=
    dedges_any w a [] va _ true 0 w (Below.refl _ _) ha ma (World.ownsRow_nil _ _ _ _) (by simp; omega)
  have HE2 : Hid (∀ W u, Below w.heap.size w W → W.ownsRow w.heap.size 3 1 u (edF true 0 a []).length (flatI (edF true 0 a [])) → Calls Tryz.prog 78 #[u, vb, .bool true, .int .i64 0] W fun e w' => ∃ u, e = .returned u ∧ w'.ownsRow w.heap.size 3 1 u (edTwo true 0 a b).length (flatI (edTwo true 0 a b)) ∧ Below w.heap.size w w') := fun W u h1 h2 =>
    dedges_any w b (edF true 0 a []) vb u true 0 W h1 hb mb h2 (by have := ed_len true 0 a []; simp at this; omega)
  have HS : Hid (∀ W y, Below w.heap.size w W → Calls Tryz.prog 79 #[va, vb, .int .i64 what, .int .i64 y] W fun e w' => ∃ u, e = .returned u ∧ w'.ownsRow W.heap.size 3 1 u (spI (rowW (wK what) (wA what a b) (wB what b) y)).length (flatI (spI (rowW (wK what) (wA what a b) (wB what b) y))) ∧ Below W.heap.size W w') := fun W y h => spans_any a b va vb what y W (ha.below h) (hb.below h) ma mb la lb
  have HA : Hid (∀ W xs zs v u, IL W v xs → IL W u zs → xs.length ≤ 1000000 → Calls Tryz.prog 80 #[v, u] W fun e w' => e = .returned (.bool (decide (xs = zs))) ∧ Below W.heap.size W w') := fun W xs zs v u h1 h2 h3 => alike_any xs zs v u W h1 h2 h3
  have HRB : Hid (∀ y, ∀ s ∈ rowW (wK what) (wA what a b) (wB what b) y, -16384 ≤ s.1 ∧ s.1 < s.2 ∧ s.2 ≤ 16384) := fun y => row_bd _ _ _ y
  have HRL : Hid (∀ y, (rowW (wK what) (wA what a b) (wB what b) y).length ≤ 6000) := fun y => by have := row_len what a b y; omega
  have HEB : Hid (∀ n ∈ edTwo true 0 a b, -16384 ≤ n ∧ n ≤ 16384) := edge_bd ma mb
  have hlen := edTwo_len true 0 a b
  have hinc : Hid (Inc (edTwo true 0 a b)) := edTwo_inc true 0 a b
  have HF : Hid (formF (wK what) (wA what a b) (wB what b) = flatB (bandsF (rowW (wK what) (wA what a b) (wB what b)) (edTwo true 0 a b) [])) := form_doc ma mb what
  have hyl : (edTwo true 0 a b).length ≤ 12000 := by omega
  generalize formF (wK what) (wA what a b) (wB what b) = F at *
  generalize rowW (wK what) (wA what a b) (wB what b) = row at *
  generalize edTwo true 0 a b = ys at *
  generalize edF true 0 a [] = ys1 at *
  clear ha hb ma mb hlen la lb
  obtain ⟨i0, hi, hz0, hz1, hz2⟩ := info_parts info_rect
  have HI : Hid (Tryz.prog.info? 44 = some i0 ∧ i0.zero = some (.agg #[.int .i64 0, .int .i64 0, .int .i64 0, .int .i64 0]) ∧ i0.size = 4 ∧ i0.bytes = 32) := ⟨hi, hz0, hz1, hz2⟩
  clear hi hz0 hz1 hz2
  go_enter Tryz.func56, Tryz.ntmps56
  go_wp2_with fail
  refine HE1.out.mono ?_
  rintro e w1 ⟨u1, rfl, ho1, hb1⟩
  have H1 : Hid (Below w.heap.size w w1 ∧ w1.ownsRow w.heap.size 3 1 u1 ys1.length (flatI ys1)) := ⟨hb1, ho1⟩
  clear ho1 hb1 HE1
  go_wp2_with fail
  refine (HE2.out _ _ H1.out.1 H1.out.2).mono ?_
  rintro e w2 ⟨u2, rfl, ho2, hb2⟩
  have H2 : Hid (Below w.heap.size w w2) := hb2
  obtain ⟨ox, cx, rfl, hcx, hgx⟩ := (il_own ho2).cells
  have HX : Hid (0 < ys.length → ∃ g, ox = some ⟨g, 0, none⟩ ∧ g < w2.heap.size ∧ ∀ i (h : i < ys.length), w2.cell? ⟨g, i, none⟩ = some (.int .i64 ys[i])) := hgx
  have HW2 : Hid (w.heap.size ≤ w2.heap.size) := hb2.size
  clear ho2 hb2 HE2 H1 hgx
  go_wp2_with fail
  go_loopw [9, 10, 11] (fun v u i wr => ∃ (k : Nat) (acc : List Bd), i = .int .i64 k ∧ k ≤ ys.length ∧ Hid (MdI w2 row ys k acc v u wr)) (fun _ _ i _ => ys.length - (intOf i).toNat)
  case atStart => exact ⟨0, [], rfl, Nat.zero_le _, rfl, Nat.zero_le _, fun d hd => absurd hd (by simp), fun _ => trivial, World.ownsRow_nil _ _ _ _, fun _ => il_nil _, Below.refl _ _⟩
  case round =>
    obtain ⟨k, acc, rfl, hk, HR⟩ := hrel
    by_cases hlt : k + 1 < ys.length
    · obtain ⟨g, rfl, hg, hat⟩ := HX.out (by omega)
      have ik : (k : Int) + 1 < ys.length := by omega
      have ik2 : (k : Int) < ys.length := by omega
      have x0 : wr.cell? ⟨g, k, none⟩ = some (.int .i64 (ys[k]'(by omega))) := (HR.out.B.cell (p := ⟨g, k, none⟩) hg).trans (hat k (by omega))
      have x1 : wr.cell? ⟨g, k + 1, none⟩ = some (.int .i64 ys[k + 1]) := (HR.out.B.cell (p := ⟨g, k + 1, none⟩) hg).trans (hat (k + 1) hlt)
      have HCy : Hid (∀ W, Below w2.heap.size w2 W → W.cell? ⟨g, k, none⟩ = some (.int .i64 (ys[k]'(by omega))) ∧ W.cell? ⟨g, k + 1, none⟩ = some (.int .i64 ys[k + 1]) ∧ g < W.heap.size) := fun W h => ⟨(h.cell (p := ⟨g, k, none⟩) hg).trans (hat k (by omega)), (h.cell (p := ⟨g, k + 1, none⟩) hg).trans (hat (k + 1) hlt), Nat.lt_of_lt_of_le hg h.size⟩
      have hord : ys[k]'(by omega) < ys[k + 1] := inc_at hinc.out (by omega) hlt
      have hb0 := HEB.out _ (List.getElem_mem (show k < ys.length by omega))
      have hb1 := HEB.out _ (List.getElem_mem hlt)
      have HST : Hid (bandsF row (ys.drop (k + 1)) (bandS (row (ys[k]'(by omega))) (ys[k]'(by omega)) ys[k + 1] acc) = bandsF row ys []) := by
        have h := HR.out.f
        rwa [bandsF_step row hlt] at h
      have HBN : Hid (BanR (ys[k]'(by omega)) acc) := HR.out.b (by omega)
      have HLS : Hid (IL wr u10 (spI (lastS acc (ys[k]'(by omega))))) := HR.out.l (by omega)
      have HNB : Hid (∀ acc' : List Bd, BanR ys[k + 1] acc' → ∀ (h : k + 1 < ys.length), BanR ys[k + 1] acc') := fun _ h _ => h
      have HNL : Hid (∀ (acc' : List Bd) (v : Value) (W : World), IL W v (spI (lastS acc' ys[k + 1])) → ∀ (h : k + 1 < ys.length), IL W v (spI (lastS acc' ys[k + 1]))) := fun _ _ _ h _ => h
      have hgr : g < wr.heap.size := Nat.lt_of_lt_of_le hg HR.out.B.size
      have HBw : Hid (Below w.heap.size w wr) := H2.out.trans (HR.out.B.mono HW2.out)
      have hn := HR.out.n
      have HO : Hid (wr.ownsRow w2.heap.size 44 4 u9 (flatB acc).length (flat (flatB acc)) ∧ InB acc ∧ Below w2.heap.size w2 wr) := ⟨HR.out.o, HR.out.i, HR.out.B⟩
      clear hat HR
      generalize ys[k]'(by omega) = t at *
      generalize ys[k + 1] = t' at *
      have HC := HS.out wr t HBw.out
      have hS := HRL.out t
      have HSB : Hid (∀ s ∈ row t, -16384 ≤ s.1 ∧ s.1 < s.2 ∧ s.2 ≤ 16384) := HRB.out t
      obtain ⟨S, hSe⟩ : ∃ S, S = row t := ⟨_, rfl⟩
      rw [← hSe] at HC hS HSB HST
      clear hSe
      have HC2 : Hid (Calls Tryz.prog 79 #[va, vb, .int .i64 what, .int .i64 t] wr fun e w' => ∃ u, e = .returned u ∧ w'.ownsRow wr.heap.size 3 1 u (spI S).length (flatI (spI S)) ∧ Below wr.heap.size wr w') := HC
      clear HC
      go_wp2_with fail
      refine HC2.out.mono ?_
      rintro e w3 ⟨u3, rfl, ho3, hb3⟩
      have H3 : Hid (w3.ownsRow w2.heap.size 44 4 u9 (flatB acc).length (flat (flatB acc)) ∧ Below w2.heap.size w2 w3 ∧ IL w3 u10 (spI (lastS acc t)) ∧ IL w3 u3 (spI S)) := ⟨row_below HO.out.1 hb3, HO.out.2.2.trans (hb3.mono HO.out.2.2.size), HLS.out.below hb3, il_own ho3⟩
      have y0 : w3.cell? ⟨g, k, none⟩ = some (.int .i64 t) := (hb3.cell (p := ⟨g, k, none⟩) hgr).trans x0
      have y1 : w3.cell? ⟨g, k + 1, none⟩ = some (.int .i64 t') := (hb3.cell (p := ⟨g, k + 1, none⟩) hgr).trans x1
      have hg3 : g < w3.heap.size := Nat.lt_of_lt_of_le hgr hb3.size
      clear ho3 hb3 x0 x1 HLS hgr HC2
      have HAL := HA.out w3 (spI S) (spI (lastS acc t)) u3 u10 H3.out.2.2.2 H3.out.2.2.1 (by rw [spI_len]; omega)
      have HAL2 : Hid (Calls Tryz.prog 80 #[u3, u10] w3 fun e w' => e = .returned (.bool (decide (spI S = spI (lastS acc t)))) ∧ Below w3.heap.size w3 w') := HAL
      clear HAL
      obtain ⟨on, cn, hun, hcn, hgn⟩ := H3.out.2.2.2.cells
      subst hun
      obtain ⟨N, hN⟩ : ∃ N, N = (spI S).length := ⟨_, rfl⟩
      obtain ⟨D, hD⟩ : ∃ D, D = S.length := ⟨_, rfl⟩
      have hND : N = D * 2 := by rw [hN, hD, spI_len]
      clear hgn
      rw [← hN] at hcn ⊢
      rw [← hN] at HAL2
      have HND : Hid (N = (spI S).length ∧ D = S.length) := ⟨hN, hD⟩
      have hq : (N : Int).tdiv 2 = D := by rw [hND, Int.natCast_mul]; exact Int.mul_tdiv_cancel _ (by decide)
      have hD6 : D ≤ 6000 := by rw [hD]; exact hS
      have hN2 : N ≤ 12000 := by omega
      clear hN hD hcn hND
      by_cases hsame : S = lastS acc t
      · have e1 : decide (spI S = spI (lastS acc t)) = true := decide_eq_true (by rw [← hsame])
        rw [e1] at HAL2
        obtain ⟨hfl, hdl⟩ := flatB_alike (b := t') hsame
        have HFL : Hid (flatB (bandS S t t' acc) = upd (flatB acc) D (t' - t) ∧ D ≤ (flatB acc).length) := by rw [HND.out.2]; exact ⟨hfl, hdl⟩
        have HSM : Hid (S = lastS acc t) := hsame
        clear e1 hfl hdl hsame
        go_wp2_with fail
        refine HAL2.out.mono ?_
        rintro e w4 ⟨rfl, hb4⟩
        have H4 : Hid (GrI w2 (flatB acc) (t' - t) 0 u9 u10 (spI S) w4) := by
          refine ⟨by rw [upd_zero]; exact row_below H3.out.1 hb4, ?_, H3.out.2.1.trans (hb4.mono H3.out.2.1.size)⟩
          rw [HSM.out]
          exact H3.out.2.2.1.below hb4
        clear hb4 y0 y1 hg3 HAL2
        obtain ⟨o9, c9, hv9, hc9, hg9⟩ := row_val H4.out.1
        subst hv9
        have HG9 : Hid (0 < (flatB acc).length → ∃ g, o9 = some ⟨g, 0, none⟩ ∧ w2.heap.size ≤ g) := fun h => by obtain ⟨g, e, h1, _⟩ := hg9 h; exact ⟨g, e, h1⟩
        have HHB : Hid (∀ r ∈ flatB acc, 0 ≤ r.h ∧ r.h ≤ 32768) := inB_h HO.out.2.1
        clear hg9
        obtain ⟨Q, hQ⟩ : ∃ Q, Q = (flatB acc).length := ⟨_, rfl⟩
        rw [← hQ] at hc9 HFL hn ⊢
        have HQ : Hid (Q = (flatB acc).length) := hQ
        clear hQ
        go_wp2_with fail
        go_loopw [14] (fun i wr => ∃ m : Nat, i = .int .i64 m ∧ m ≤ D ∧ Hid (GrI w2 (flatB acc) (t' - t) m (.slice o9 (flatB acc).length c9) u10 (spI S) wr)) (fun i _ => D - (intOf i).toNat)
        case atStart => exact ⟨0, rfl, Nat.zero_le _, H4⟩
        case round =>
          obtain ⟨m, rfl, hm, HM⟩ := hrel
          by_cases hmd : m < D
          · have im : (m : Int) < D := by omega
            obtain ⟨j, hj⟩ : ∃ j, j + 1 + m = Q := ⟨Q - 1 - m, by have := HFL.out.2; omega⟩
            have hj' : j + 1 + m = (flatB acc).length := by rw [← HQ.out]; exact hj
            obtain ⟨g9, rfl, hg9⟩ := HG9.out (by omega)
            have zj : (Q : Int) - 1 - m = j := by omega
            obtain ⟨uc1, uc2⟩ := upd_cell (flatB acc) (t' - t) hj'
            have hgt := HHB.out _ (List.getElem_mem (show j < (flatB acc).length by omega))
            have c9c : wr.cell? ⟨g9, j * 4 + 3, none⟩ = some (.int .i64 ((flatB acc)[j]'(by omega)).h) := by rw [own_cell HM.out.1 (j * 4 + 3) (by omega)]; exact uc1
            have c9f := own_frozen HM.out.1 (j * 4 + 3)
            obtain ⟨cs9, hk9⟩ := Bk_of_own HM.out.1
            have l9 : g9 < wr.heap.size := hk9.lt
            obtain ⟨y0, y1, lg⟩ := HCy.out _ HM.out.2.2
            have HRel : Hid (∀ W, Below wr.heap.size wr W → GrI w2 (flatB acc) (t' - t) (m + 1) (.slice (some ⟨g9, 0, none⟩) (flatB acc).length c9) u10 (spI S) (W.setCell ⟨g9, j * 4 + 3, none⟩ (.int .i64 (((flatB acc)[j]'(by omega)).h + (t' - t))))) := fun W hb => by
              have hB := HM.out.2.2.trans (hb.mono HM.out.2.2.size)
              refine ⟨?_, (HM.out.2.1.below hb).other (hk9.below hb) (by decide) _ _, hB.setCell (p := ⟨g9, j * 4 + 3, none⟩) hg9 _⟩
              have := own_set (row_below HM.out.1 hb) (j * 4 + 3) (.int .i64 (((flatB acc)[j]'(by omega)).h + (t' - t)))
              rwa [uc2] at this
            clear uc1 uc2 hk9
            generalize ((flatB acc)[j]'(by omega)).h = hh at *
            have ij : (j : Int) < Q := by omega
            clear hj hj'
            go_wp2_with fail
            refine R4.wp_region_lit 24 0 1 (fun _ _ => undef) (fun _ => .cells #[] 0) [] (by kernel_rfl) (by kernel_rfl) rfl ?_ rfl ?_
            · intro k hk
              omega
            apply Exists.intro
            refine ⟨fun bs ne => ?_, ?_, ?_⟩
            · have d0 := fun t : Gb wr bs => (t.below.cell (p := ⟨g, k, none⟩) lg).trans y0
              have d1 := fun t : Gb wr bs => (t.below.cell (p := ⟨g, k + 1, none⟩) lg).trans y1
              have d2 := fun t : Gb wr bs => (t.below.cell (p := ⟨g9, j * 4 + 3, none⟩) l9).trans c9c
              simp only [List.take_succ_cons, List.take_zero]
              repeat (go_big_quiet_step (fail))
              exact wpQuiet_nil rfl
            · intro i h1 h2
              omega
            intro bl wx hbl _ _
            simp only [R4.layL]
            have cx : wx.cell? ⟨g9, j * 4 + 3, none⟩ = some (.int .i64 hh) := (hbl.cell (p := ⟨g9, j * 4 + 3, none⟩) l9).trans c9c
            have fx := own_frozen (row_below HM.out.1 hbl) (j * 4 + 3)
            have HX2 : Hid (GrI w2 (flatB acc) (t' - t) (m + 1) (.slice (some ⟨g9, 0, none⟩) (flatB acc).length c9) u10 (spI S) (wx.setCell ⟨g9, j * 4 + 3, none⟩ (.int .i64 (hh + (t' - t))))) := HRel.out _ hbl
            clear hbl y0 y1 c9c c9f HRel HM
            refine wpAny_one 24 (by kernel_rfl) rfl ?_
            intro K hK
            go_simp
            refine hK _ _ ?_
            clear hK K
            refine wpAny_done (by kernel_rfl) ?_ _
            go_wp2
            go_roundw
            case rel => exact ⟨m + 1, by go_num, by omega, HX2⟩
            case measure => simp [intOf]; omega
          · obtain rfl : m = D := by omega
            have HRel : Hid (MdI w2 row ys (k + 1) (bandS S t t' acc) (.slice o9 Q c9) u10 wr) := by
              have e : (flatB (bandS S t t' acc)).length = Q := by rw [HFL.out.1, upd_len, HQ.out]
              refine ⟨HST.out, by rw [e]; exact hn, inB_step HO.out.2.1 hb0.1 hb1.2 hord, HNB.out _ (bandS_ban hord HBN.out).1, ?_, HNL.out _ _ _ ?_, HM.out.2.2⟩
              · rw [e, HFL.out.1, HQ.out]; exact HM.out.1
              · rw [lastS_new HBN.out hord]; exact HM.out.2.1
            have im : ¬ (m : Int) < m := by omega
            go_wp2
            go_roundw
            case rel => exact ⟨k + 1, _, by go_num, by omega, HRel⟩
            case measure => simp [intOf]; omega
      · have e1 : decide (spI S = spI (lastS acc t)) = false := decide_eq_false (fun h => hsame (spI_inj h))
        rw [e1] at HAL2
        have HFL : Hid (flatB (bandS S t t' acc) = flatB acc ++ rcts (t, t', S)) := flatB_other hsame
        have HINB : Hid (InB (bandS S t t' acc)) := inB_step HO.out.2.1 hb0.1 hb1.2 hord
        clear e1 hsame
        go_wp2_with fail
        refine HAL2.out.mono ?_
        rintro e w4 ⟨rfl, hb4⟩
        have H4 : Hid (NwI w2 acc (t, t', S) 0 u9 (.slice on N cn) w4) := by
          refine ⟨?_, ?_, H3.out.2.1.trans (hb4.mono H3.out.2.1.size)⟩
          · rw [List.take_zero, List.append_nil]
            exact row_below H3.out.1 hb4
          · have := H3.out.2.2.2.below hb4
            rwa [← HND.out.1] at this
        clear hb4 y0 y1 hg3 HAL2 HO H3
        have HBI : Hid (InB (bandS S t t' acc)) := HINB.out
        go_wp2_with fail
        go_loopw [9, 15] (fun v i wr => ∃ m q : Nat, i = .int .i64 q ∧ q ≤ N ∧ Hid (q = m * 2 ∧ m ≤ D ∧ NwI w2 acc (t, t', S) m v (.slice on N cn) wr)) (fun _ i _ => N - (intOf i).toNat)
        case atStart => exact ⟨0, 0, rfl, Nat.zero_le _, rfl, Nat.zero_le _, H4.out⟩
        case round =>
          obtain ⟨m, q, rfl, hqN, HM⟩ := hrel
          by_cases hqd : q < N
          · have iq : (q : Int) < N := by omega
            have hmd : m < S.length := by have h1 := HM.out.1; have h2 := HND.out; rw [spI_len] at h2; omega
            have iq2 : (q : Int) + 1 < N := by have h1 := HM.out.1; have h2 := HND.out; rw [spI_len] at h2; omega
            have hsb := HSB.out _ (List.getElem_mem hmd)
            have hcells : ∃ gn, on = some ⟨gn, 0, none⟩ ∧ gn < wr.heap.size ∧ wr.cell? ⟨gn, q, none⟩ = some (.int .i64 S[m].1) ∧ wr.cell? ⟨gn, q + 1, none⟩ = some (.int .i64 S[m].2) := by
              obtain ⟨on', cn', e, _, hgn⟩ := HM.out.2.2.2.1.cells
              injection e with e1 e2 e3
              subst e1
              have hl : (spI S).length = S.length * 2 := spI_len S
              obtain ⟨gn, e4, hgl, hc⟩ := hgn (by show 0 < (spI S).length; omega)
              refine ⟨gn, e4, hgl, ?_, ?_⟩
              · have h1 := HM.out.1
                have h3 := hc q (by show q < (spI S).length; omega)
                have h4 := (spI_at S m hmd).1
                rw [← h1] at h4
                obtain ⟨h5, h6⟩ := List.getElem?_eq_some_iff.1 h4
                have h7 : (spI (t, t', S).2.2)[q]'(by show q < (spI S).length; omega) = S[m].1 := h6
                rw [h3, h7]
              · have h1 := HM.out.1
                have h3 := hc (q + 1) (by show q + 1 < (spI S).length; omega)
                have h4 := (spI_at S m hmd).2
                rw [← h1] at h4
                obtain ⟨h5, h6⟩ := List.getElem?_eq_some_iff.1 h4
                have h7 : (spI (t, t', S).2.2)[q + 1]'(by show q + 1 < (spI S).length; omega) = S[m].2 := h6
                rw [h3, h7]
            obtain ⟨gn, hon, hgl, n0, n1⟩ := hcells
            subst hon
            have hrt := rcts_take (t, t', S) m hmd
            have HRT : Hid ((rcts (t, t', S)).take (m + 1) = (rcts (t, t', S)).take m ++ [⟨S[m].1, t, S[m].2 - S[m].1, t' - t⟩]) := hrt
            have hrl : Hid ((flatB acc ++ (rcts (t, t', S)).take m).length ≤ 8000) := by
              unfold Hid
              rw [List.length_append, List.length_take]
              omega
            clear hrt
            generalize S[m].1 = s1 at *
            generalize S[m].2 = s2 at *
            obtain ⟨y0, y1, lg⟩ := HCy.out _ HM.out.2.2.2.2
            obtain ⟨ov, cv, hvv, _, _⟩ := row_val HM.out.2.2.1
            subst hvv
            obtain ⟨R, hR⟩ : ∃ R, R = flatB acc ++ (rcts (t, t', S)).take m := ⟨_, rfl⟩
            have HO5 : Hid (∀ W, Below wr.heap.size wr W → W.ownsRow w2.heap.size 44 4 (.slice ov R.length cv) R.length (flat R) ∧ Below w2.heap.size w2 W ∧ IL W (.slice (some ⟨gn, 0, none⟩) N cn) (spI S)) := fun W h => by
              rw [hR]
              exact ⟨row_below HM.out.2.2.1 h, HM.out.2.2.2.2.trans (h.mono HM.out.2.2.2.2.size), HM.out.2.2.2.1.below h⟩
            have HR2 : Hid (R = flatB acc ++ (rcts (t, t', S)).take m ∧ R.length ≤ 8000 ∧ q = m * 2 ∧ m < S.length) := ⟨hR, by rw [hR]; exact hrl.out, HM.out.1, hmd⟩
            rw [← hR]
            clear hR hrl HM hmd
            go_wp2_with fail
            refine R4.wp_region_lit 32 1 2 (fun _ b => .slice (some ⟨b, 0, none⟩) 1 1) (fun _ => .cells #[.int .i64 s1, .int .i64 t, .int .i64 (s2 - s1), .int .i64 (t' - t)] 44) [110] (by kernel_rfl) (by kernel_rfl) rfl ?_ rfl ?_
            · intro k hk
              have hc : k = 0 := by omega
              subst hc; rfl
            apply Exists.intro
            refine ⟨fun bs ne => ?_, ?_, ?_⟩
            · have d0 := fun t : Gb wr bs => (t.below.cell (p := ⟨g, k, none⟩) lg).trans y0
              have d1 := fun t : Gb wr bs => (t.below.cell (p := ⟨g, k + 1, none⟩) lg).trans y1
              have d2 := fun t : Gb wr bs => (t.below.cell (p := ⟨gn, q, none⟩) hgl).trans n0
              have d3 := fun t : Gb wr bs => (t.below.cell (p := ⟨gn, q + 1, none⟩) hgl).trans n1
              simp only [List.take_succ_cons, List.take_zero]
              repeat (go_big_quiet_step (fail))
              exact wpQuiet_nil rfl
            · intro i h1 h2
              have hc : i = 32 := by omega
              subst hc
              exact ⟨_, rfl, rfl, fun _ => by kernel_rfl⟩
            intro bl wx hbl hlo _
            obtain ⟨q1, q2⟩ := hlo 32 (by omega) (by omega)
            simp only [R4.layL]
            generalize bl 32 = g0 at *
            clear hlo
            obtain ⟨o5, b5, l5⟩ := HO5.out _ hbl
            obtain ⟨hi, hz0, hz1, hz2⟩ := HI.out
            have hRl := HR2.out.2.1
            refine wpAny_one 33 (by kernel_rfl) rfl ?_
            intro K hK
            refine step_append_lies wx (by rfl) _ _ 25 (by rfl) w2.heap.size 44 i0 (.agg #[.int .i64 0, .int .i64 0, .int .i64 0, .int .i64 0]) 4 32 Tryz.underlying25 hi hz0 hz1 hz2 rfl (by decide) (.slice ov R.length cv) R.length (flat R) (by rfl) o5 ⟨g0, 0, none⟩ 1 1 [.int .i64 s1, .int .i64 t, .int .i64 (s2 - s1), .int .i64 (t' - t)] (by rfl) rfl (cell_bk4 q2) (one4h _ _ _ _) (by decide) (by unfold maxLen; omega) (by omega) b5.size wx.heap.size rfl ?_
            intro h0 cap0 X1 hown hgrow _ _
            have HRel : Hid (∃ m' q' : Nat, Value.int .i64 ((q : Int) + 2) = .int .i64 q' ∧ q' ≤ N ∧ Hid (q' = m' * 2 ∧ m' ≤ D ∧ NwI w2 acc (t, t', S) m' (.slice (some ⟨h0, 0, none⟩) (R.length + 1) cap0) (.slice (some ⟨gn, 0, none⟩) N cn) X1)) := by
              have h2 := HR2.out
              have h3 := HND.out
              rw [spI_len] at h3
              refine ⟨m + 1, q + 2, by go_num, by omega, by omega, by omega, ?_, l5.grown o5 (by decide) hgrow, app_below b5 o5 (Nat.le_refl _) hgrow⟩
              rw [HRT.out, ← List.append_assoc, ← h2.1, flat_app, List.length_append]
              exact hown
            clear hown hgrow o5 b5 l5 q1 q2 hbl hi hz0 hz1 hz2 hRl HO5 HR2 HRT y0 y1 n0 n1
            refine hK _ _ ?_
            clear hK K
            refine wpAny_one 34 (by kernel_rfl) rfl ?_
            intro K hK
            go_simp
            refine hK _ _ ?_
            clear hK K
            refine wpAny_done (by kernel_rfl) ?_ _
            go_wp2
            go_roundw
            case rel => exact HRel.out
            case measure => simp [intOf]; omega
          · obtain rfl : q = N := by omega
            have HM2 : Hid (wr.ownsRow w2.heap.size 44 4 u9 (flatB (bandS S t t' acc)).length (flat (flatB (bandS S t t' acc))) ∧ IL wr (.slice on q cn) (spI S) ∧ Below w2.heap.size w2 wr) := by
              have h3 := HND.out
              rw [spI_len] at h3
              obtain rfl : m = S.length := by have := HM.out.1; omega
              have h := HM.out.2.2
              unfold NwI at h
              rw [List.take_of_length_le (by rw [rcts_len]; exact Nat.le_refl _), ← HFL.out] at h
              exact h
            have hml := bandsF_lenD row (ys.drop (k + 1)) (bandS S t t' acc)
            rw [HST.out, ← HF.out] at hml
            have HML : Hid ((flatB (bandS S t t' acc)).length ≤ F.length) := hml
            have HBQ : Hid (BanR t' (bandS S t t' acc) ∧ lastS (bandS S t t' acc) t' = S) := ⟨(bandS_ban hord HBN.out).1, lastS_new HBN.out hord⟩
            clear HM hml HFL
            obtain ⟨G, hG⟩ : ∃ G, G = bandS S t t' acc := ⟨_, rfl⟩
            rw [← hG] at HM2 HML HBQ HST HBI
            clear hG
            obtain ⟨ov, cv, hvv, _, _⟩ := row_val HM2.out.1
            subst hvv
            obtain ⟨Q, hQ⟩ : ∃ Q, Q = (flatB G).length := ⟨_, rfl⟩
            have HQ : Hid (Q = (flatB G).length) := hQ
            rw [← hQ]
            clear hQ
            by_cases hbig : (1024 : Int) < Q
            · have HE : Hid (ansL 0 F = [] ∧ ansE 0 F = 4) := by
                have h1 := HML.out
                have h2 := HQ.out
                unfold Hid ansL ansE
                rw [if_neg (by omega), if_pos rfl, if_pos (by omega)]
                exact ⟨rfl, rfl⟩
              go_wp2
              go_ret2
              refine ⟨.slice none 0 0, ?_, ?_, H2.out.trans (HM2.out.2.2.mono HW2.out)⟩
              · rw [HE.out.2]; rfl
              · rw [HE.out.1]; exact World.ownsRow_nil _ _ _ _
            · have HRel : Hid (MdI w2 row ys (k + 1) G (.slice ov Q cv) (.slice on q cn) wr) := by
                have h2 := HQ.out
                refine ⟨HST.out, by omega, HBI.out, HNB.out _ HBQ.out.1, ?_, HNL.out _ _ _ ?_, HM2.out.2.2⟩
                · rw [HQ.out]; exact HM2.out.1
                · rw [HBQ.out.2]; exact HM2.out.2.1
              go_wp2
              go_roundw
              case rel => exact ⟨k + 1, _, by go_num, by omega, HRel⟩
              case measure => simp [intOf]; omega
    · have HG : Hid (ansL 0 F = flatB acc ∧ ansE 0 F = 0 ∧ wr.ownsRow w2.heap.size 44 4 u9 (flatB acc).length (flat (flatB acc)) ∧ Below w2.heap.size w2 wr) := by
        have h := HR.out
        have e := h.f
        rw [bandsF_done row hlt] at e
        rw [HF.out, ← e]
        unfold ansL ansE
        rw [if_pos ⟨rfl, h.n⟩, if_pos rfl, if_neg (by have := h.n; omega)]
        exact ⟨rfl, rfl, h.o, h.B⟩
      have ik : ¬ (k : Int) + 1 < ys.length := by omega
      clear HR
      go_wp2
      go_ret2
      refine ⟨u9, ?_, ?_, H2.out.trans (HG.out.2.2.2.mono HW2.out)⟩
      · rw [HG.out.2.1]; rfl
      · rw [HG.out.1]; exact row_weaken HG.out.2.2.1 HW2.out

end Go.Proofs.YtbghjmkgicdnoaaGreat

/-
  Contracts of the document's answer for layer 2: Of.
-/
namespace Go.Proofs.YtbghjmkgicdnoaaGreat
open Go.RowKit

theorem wk_one (a b : List Rc) : formF (wK 1) (wA 1 a b) (wB 1 b) = formF false (a ++ b) [] := by simp [wK, wA, wB]
theorem wk_two (a b : List Rc) : formF (wK 2) (wA 2 a b) (wB 2 b) = formF true a b := by simp [wK, wA, wB]
theorem wk_three (a b : List Rc) : formF (wK 3) (wA 3 a b) (wB 3 b) = formF false a b := by simp [wK, wA, wB]
theorem wk_row (a : List Rc) (y : Int) : rowW (wK 1) (wA 1 a []) (wB 1 []) y = rowW false a [] y := by simp [wK, wA, wB]
theorem Mays_nil : Mays [] := fun r hr => by cases hr
theorem Ans.up {w W w' : World} {L : List Rc} {E : Int} {e : Ending} (h : Ans W L E e w') (hb : Below w.heap.size w W) : Ans w L E e w' := by
  obtain ⟨v, he, ho, hB⟩ := h
  exact ⟨v, he, row_weaken ho hb.size, hb.trans (hB.mono hb.size)⟩

theorem dof_any (a : List Rc) (va : Value) (w : World) (ha : LsR w va a) :
    Calls Tryz.prog 30 #[va] w fun e w' => Ans w (ansL (lisE a) (formF false a [])) (ansE (lisE a) (formF false a [])) e w' := by
  have H1 : Hid (Calls Tryz.prog 55 #[va] w fun e w' => e = .returned (.int .i64 (lisE a)) ∧ Below w.heap.size w w') := asked_any a va w ha
  by_cases h0 : lisE a = 0
  · have hz := lisE_zero h0
    have H2 : Hid (∀ W, Below w.heap.size w W → Calls Tryz.prog 56 #[va, .slice none 0 0, .int .i64 1] W fun e w' => Ans w (ansL 0 (formF false a [])) (ansE 0 (formF false a [])) e w') := fun W h => by
      have q := made_any a [] va (.slice none 0 0) 1 W (ha.below h) (lsr_nil W) hz.2 Mays_nil (by omega) (by simp)
      rw [wk_one, List.append_nil] at q
      exact q.mono fun e w' h2 => h2.up h
    rw [h0] at H1 ⊢
    clear ha h0 hz
    generalize ansL 0 (formF false a []) = L at *
    generalize ansE 0 (formF false a []) = E at *
    go_enter Tryz.func30, Tryz.ntmps30
    go_wp2_with fail
    refine H1.out.mono ?_
    rintro e w1 ⟨rfl, hb1⟩
    have HB : Hid (Below w.heap.size w w1) := hb1
    clear hb1
    go_wp2_with fail
    refine (H2.out _ HB.out).mono ?_
    rintro e w2 ⟨u, rfl, hu, hb2⟩
    have HU : Hid (w2.ownsRow w.heap.size 44 4 u L.length (flat L) ∧ Below w.heap.size w w2) := ⟨hu, hb2⟩
    clear hb2 hu
    go_wp2
    go_ret2
    exact ⟨_, rfl, HU.out.1, HU.out.2⟩
  · rw [show ansE (lisE a) (formF false a []) = lisE a by unfold ansE; rw [if_neg h0], show ansL (lisE a) (formF false a []) = [] by unfold ansL; rw [if_neg (fun h => h0 h.1)]]
    generalize lisE a = ea at *
    have h1 : (ea != 0) = true := by simp [h0]
    clear ha h0
    go_enter Tryz.func30, Tryz.ntmps30
    go_wp2_with fail
    refine H1.out.mono ?_
    rintro e w1 ⟨rfl, hb1⟩
    have HB : Hid (Below w.heap.size w w1) := hb1
    clear hb1
    go_wp2
    go_ret2
    exact ⟨_, rfl, World.ownsRow_nil _ _ _ _, HB.out⟩

end Go.Proofs.YtbghjmkgicdnoaaGreat

/-
  A region that draws its order, by what holds between its operations: each operation is walked once, from whatever has been done before.
-/
namespace Go.Proofs.YtbghjmkgicdnoaaGreat
open Go.RowKit

def acyB (ops : Array Oper) : Bool := ((List.range ops.size).all fun i => (preds ops i).all fun p => decide (p < i)) && Region.noSelect ops
section
variable {P : Program} {ops : Array Oper} {Q : Exit → Act → World → Prop}

theorem op_step {i : Nat} {o : Oper} {a : Act} {w : World} {K : Act → World → Prop} (ho : ops[i]? = some o) (h : if Region.wanted o (yielded ops a.tmps) = true then Oper.wp P o a w K Q else K (a.put o.dst undef) w) : wpOp P ops Q i K a w := by
  unfold wpOp
  rw [ho]
  show if Region.wanted o (yielded ops a.tmps) = true then _ else _
  by_cases hw : Region.wanted o (yielded ops a.tmps) = true
  · rw [if_pos hw] at h ⊢; exact .inl h
  · rw [if_neg hw] at h ⊢; exact h
theorem wpAny_inv (I : (Nat → Bool) → Act → World → Prop) (acy : acyB ops = true)
    (step : ∀ b a w i o, I b a w → b i = false → ops[i]? = some o → (∀ p ∈ preds ops i, b p = true) → ∀ K' : Act → World → Prop, (∀ a' w', I (fun j => if j = i then true else b j) a' w' → K' a' w') → if Region.wanted o (yielded ops a.tmps) = true then Oper.wp P o a w K' Q else K' (a.put o.dst undef) w)
    (fin : ∀ b a w, I b a w → (∀ i, i < ops.size → b i = true) → Q .normal a w) :
    ∀ (fuel : Nat) (l : Array Bool) (a : Act) (w : World), l.size = ops.size → I (fun j => l.getD j false) a w → left ops.size l ≤ fuel → wpAny P .any ops Q fuel l a w := by
  have hac : ∀ i, i < ops.size → ∀ p ∈ preds ops i, p < i := by
    unfold acyB at acy
    simp only [Bool.and_eq_true, List.all_eq_true, List.mem_range, decide_eq_true_eq] at acy
    exact acy.1
  have hready : ∀ (l : Array Bool) (i : Nat), i ∈ Region.ready .any ops l → l.size = ops.size → i < ops.size ∧ l.getD i false = false ∧ ∃ o, ops[i]? = some o ∧ ∀ p ∈ preds ops i, l.getD p false = true := by
    intro l i hi hs
    obtain ⟨h1, o, ho, h2⟩ := mem_ready.1 hi
    have hlt : i < ops.size := (Array.getElem?_eq_some_iff.1 ho).1
    refine ⟨hlt, ?_, o, ho, fun p hp => ?_⟩
    · have : i < l.size := by rw [hs]; exact hlt
      simp [Array.getD_eq_getD_getElem?, this] at h1 ⊢
      exact h1
    · unfold preds at hp
      rw [ho] at hp
      simp only [List.mem_map, List.mem_filter] at hp
      obtain ⟨e, ⟨he, hb⟩, rfl⟩ := hp
      exact h2 e (by simpa using he) hb
  have hempty : ∀ (l : Array Bool), l.size = ops.size → Region.ready .any ops l = [] → ∀ i, i < ops.size → l.getD i false = true := by
    intro l hs he i
    induction i using Nat.strongRecOn with
    | ind i ih =>
      intro hi
      cases hv : l.getD i false with
      | true => rfl
      | false =>
        exfalso
        refine absurd (mem_ready (md := .any).2 ⟨?_, ?_⟩ : i ∈ Region.ready .any ops l) (by rw [he]; simp)
        · have : i < l.size := by rw [hs]; exact hi
          simp [Array.getD_eq_getD_getElem?, this] at hv ⊢
          exact hv
        · refine ⟨ops[i]'hi, by simp, fun e hem hb => ?_⟩
          have hp : e.on ∈ preds ops i := by
            unfold preds
            rw [show ops[i]? = some (ops[i]'hi) by simp]
            simp only [List.mem_map, List.mem_filter]
            exact ⟨e, ⟨by simpa using hem, hb⟩, rfl⟩
          have hlt := hac i hi _ hp
          exact ih e.on hlt (by omega)
  intro fuel
  induction fuel with
  | zero =>
    intro l a w hs hI hl
    have hall := left_zero (n := ops.size) (l := l) (by omega)
    refine ⟨?_, fin _ a w hI hall⟩
    cases hr : Region.ready .any ops l with
    | nil => rfl
    | cons i rs =>
      have hm : i ∈ Region.ready .any ops l := by rw [hr]; simp
      obtain ⟨h1, h2, _⟩ := hready l i hm hs
      rw [hall i h1] at h2
      cases h2
  | succ fuel ih =>
    intro l a w hs hI hl
    refine ⟨fun he => fin _ a w hI (hempty l hs he), fun i hi => ?_⟩
    obtain ⟨h1, h2, o, ho, h3⟩ := hready l i hi hs
    refine op_step ho (step _ a w i o hI h2 ho h3 _ fun a' w' hI' => ?_)
    have hil : i < l.size := by rw [hs]; exact h1
    refine ih _ a' w' (by simp [hs]) ?_ ?_
    · have e : (fun j => (l.setIfInBounds i true).getD j false) = fun j => if j = i then true else l.getD j false := by
        funext j
        rw [getD_set l i j hil]
        by_cases c : i = j
        · rw [if_pos c, if_pos c.symm]
        · rw [if_neg c, if_neg (fun e => c e.symm)]
      rw [e]
      exact hI'
    · have := left_set ops.size l i h1 hil h2
      omega
theorem wp_region_inv {id : Nat} {a0 : Act} {W : World} {l : List Oper} (I : (Nat → Bool) → Act → World → Prop) (hm : P.follows .mixedOrders = true) (acy : acyB l.toArray = true) (h0 : I (fun _ => false) a0 W.drew)
    (step : ∀ b a w i o, I b a w → b i = false → l.toArray[i]? = some o → (∀ p ∈ preds l.toArray i, b p = true) → ∀ K' : Act → World → Prop, (∀ a' w', I (fun j => if j = i then true else b j) a' w' → K' a' w') → if Region.wanted o (yielded l.toArray a.tmps) = true then Oper.wp P o a w K' Q else K' (a.put o.dst undef) w)
    (fin : ∀ b a w, I b a w → (∀ i, i < l.toArray.size → b i = true) → Q .normal a w) :
    (Code.region id l.toArray true).wp P Q a0 W := by
  refine wp_region_any hm ?_
  refine wpAny_inv I acy step fin _ _ a0 _ (by simp) ?_ ?_
  · have e : (fun j => (Array.replicate l.toArray.size false).getD j false) = fun _ => false := by
      funext k
      simp [Array.getD_eq_getD_getElem?, Array.getElem?_replicate]
      split <;> rfl
    rw [e]
    exact h0
  · unfold left
    exact Nat.le_trans (List.length_filter_le _ _) (by simp)
end

end Go.Proofs.YtbghjmkgicdnoaaGreat
