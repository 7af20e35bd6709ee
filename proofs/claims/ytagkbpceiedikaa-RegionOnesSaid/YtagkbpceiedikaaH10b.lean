/-
  Contracts of the document's answer for layer 2: Area, Bound.
-/
import Derived.Test.YtagkbpceiedikaaH9
namespace Go.Proofs.Ytagkbpceiedikaa
open Go.RowKit Go.Shelf
attribute [local go_sem] ite_max ite_min

/-- Widths of spans, added up. -/
def arR : List Sp → Int
  | [] => 0
  | s :: t => (s.2 - s.1) + arR t
def arB : List Bd → Int
  | [] => 0
  | d :: ds => arR d.2.2 * (d.2.1 - d.1) + arB ds
theorem arB_step {sp : List Sp} {t b : Int} {acc : List Bd} : arB (bandS sp t b acc) = arB acc + arR sp * (b - t) := by
  cases acc with
  | nil =>
    rw [bandS]
    split
    · next h => subst h; simp [arB, arR]
    · simp [arB]
  | cons d ds =>
    rw [bandS]
    split
    · next h => subst h; simp [arR]
    · split
      · next h =>
        obtain ⟨h1, h2⟩ := h
        simp only [arB]
        rw [h2, h1]
        have : arR sp * (b - d.1) = arR sp * (t - d.1) + arR sp * (b - t) := by rw [← Int.mul_add]; congr 1; omega
        omega
      · simp only [arB]; omega
theorem area_keep {r : Rc} (h : keepE r = true) : areaI r.x r.y r.w r.h = r.w * r.h := by
  unfold areaI
  unfold keepE at h
  rw [if_neg (by simpa using h)]
theorem arS_rcts {d : Bd} (h : ∀ r ∈ rcts d, keepE r = true) : arS (rcts d) = arR d.2.2 * (d.2.1 - d.1) := by
  obtain ⟨t, b, sp⟩ := d
  unfold rcts at h ⊢
  simp only at h ⊢
  induction sp with
  | nil => simp [arS, arR]
  | cons s u ih =>
    have h1 := area_keep (h ⟨s.1, t, s.2 - s.1, b - t⟩ (by simp))
    have h2 := ih (fun r hr => h r (by simp only [List.map_cons, List.mem_cons]; exact .inr hr))
    simp only [List.map_cons, arS, arR]
    simp only at h1
    rw [h1, h2, Int.add_mul]
theorem arS_flatB : ∀ {l : List Bd}, (∀ r ∈ flatB l, keepE r = true) → arS (flatB l) = arB l
  | [], _ => by simp [flatB, arS, arB]
  | d :: ds, h => by
    rw [flatB_cons] at h ⊢
    rw [arS_app, arB, arS_flatB (fun r hr => h r (by simp [hr])), arS_rcts (fun r hr => h r (by simp [hr]))]
    omega
theorem arR_app (l m : List Sp) : arR (l ++ m) = arR l + arR m := by
  induction l with
  | nil => simp [arR]
  | cons s t ih => simp only [List.cons_append, arR, ih]; omega
theorem arR_bd : ∀ {l : List Sp}, (∀ s ∈ l, -16384 ≤ s.1 ∧ s.1 < s.2 ∧ s.2 ≤ 16384) → 0 ≤ arR l ∧ arR l ≤ l.length * 32768
  | [], _ => by simp [arR]
  | s :: t, h => by
    have h1 := h s (by simp)
    have h2 := arR_bd (l := t) (fun q hq => h q (by simp [hq]))
    simp only [arR, List.length_cons]
    omega
theorem area_doc {a : List Rc} (ha : Mays a) : arS (formF false a []) = arB (bandsF (rowW false a []) (edTwo true 0 a []) []) := by
  have h := form_doc ha Mays_nil 1
  rw [wk_one, List.append_nil] at h
  have e : rowW (wK 1) (wA 1 a []) (wB 1 []) = rowW false a [] := funext fun y => wk_row a y
  rw [e] at h
  rw [h]
  refine arS_flatB fun r hr => ?_
  rw [← h] at hr
  exact form_keep _ _ _ r hr
theorem mul_bd {x y A B : Int} (h1 : 0 ≤ x) (h2 : x ≤ A) (h3 : 0 ≤ y) (h4 : y ≤ B) : 0 ≤ x * y ∧ x * y ≤ A * B :=
  ⟨Int.mul_nonneg h1 h3, Int.mul_le_mul h2 h4 h3 (Int.le_trans h1 h2)⟩
theorem edTwo_nil (y : Int) (a : List Rc) : edTwo true y a [] = edF true y a [] := rfl

set_option maxRecDepth 20000 in
set_option maxHeartbeats 40000000 in
theorem darea_any (a : List Rc) (va : Value) (w : World) (ha : LsR w va a) :
    Calls Try.prog 33 #[va] w fun e w' => e = .returned (.tuple #[.int .i64 (areA a), .int .i64 (lisE a)]) ∧ Below w.heap.size w w' := by
  have H1 : Hid (Calls Try.prog 62 #[va] w fun e w' => e = .returned (.int .i64 (lisE a)) ∧ Below w.heap.size w w') := asked_any a va w ha
  unfold areA
  by_cases h0 : lisE a = 0
  · have hz := lisE_zero h0
    have la : a.length ≤ 1024 := hz.1
    have ma : Mays a := hz.2
    rw [h0] at H1 ⊢
    rw [if_pos rfl]
    obtain ⟨ys, hys⟩ : ∃ ys, ys = edTwo true 0 a [] := ⟨_, rfl⟩
    have HE1 : Hid (∀ W, Below w.heap.size w W → Calls Try.prog 55 #[.slice none 0 0, va, .bool true, .int .i64 0] W fun e w' => ∃ u, e = .returned u ∧ IL w' u ys ∧ Below W.heap.size W w') := fun W h => by
      rw [hys]
      exact (dedges_any W a [] va _ true 0 W (Below.refl _ _) (ha.below h) ma (World.ownsRow_nil _ _ _ _) (by simp; omega)).mono fun e w' ⟨u, he, ho, hB⟩ => ⟨u, he, il_own ho, hB⟩
    have HSa : Hid (∀ W y, Below w.heap.size w W → Calls Try.prog 56 #[va, .slice none 0 0, .int .i64 1, .int .i64 y] W fun e w' => ∃ u, e = .returned u ∧ IL w' u (spI (rowW false a [] y)) ∧ Below W.heap.size W w') := fun W y h => by
      have q := spans_any a [] va (.slice none 0 0) 1 y W (ha.below h) (lsr_nil W) ma Mays_nil (by omega) (by simp)
      rw [wk_row] at q
      exact q.mono fun e w' ⟨u, he, ho, hB⟩ => ⟨u, he, il_own ho, hB⟩
    have HRB : Hid (∀ y, ∀ s ∈ rowW false a [] y, -16384 ≤ s.1 ∧ s.1 < s.2 ∧ s.2 ≤ 16384) := fun y => row_bd _ _ _ y
    have HRL : Hid (∀ y, (rowW false a [] y).length ≤ 1024) := fun y => by
      have := row_len 1 a [] y
      rw [wk_row] at this
      simp at this
      omega
    have HEB : Hid (∀ n ∈ ys, -16384 ≤ n ∧ n ≤ 16384) := by rw [hys]; exact edge_bd ma Mays_nil
    have hlen := edTwo_len true 0 a []
    have hinc : Hid (Inc ys) := by rw [hys]; exact edTwo_inc true 0 a []
    have HAR : Hid (arS (formF false a []) = arB (bandsF (rowW false a []) ys [])) := by rw [hys]; exact area_doc ma
    have hyl : ys.length ≤ 2048 := by rw [hys]; simp at hlen; omega
    clear hlen hys
    generalize arS (formF false a []) = R at *
    generalize rowW false a [] = row at *
    clear ha ma la hz h0
    go_enter Try.func33, Try.ntmps33
    go_wp2_with fail
    refine H1.out.mono ?_
    rintro e w0 ⟨rfl, hb0⟩
    have H0 : Hid (Below w.heap.size w w0) := hb0
    clear hb0
    go_wp2_with fail
    refine (HE1.out _ H0.out).mono ?_
    rintro e w2 ⟨u2, rfl, hi2, hb2⟩
    have H2 : Hid (Below w.heap.size w w2) := bel_tr H0.out hb2
    obtain ⟨ox, cx, rfl, hcx, hgx⟩ := hi2.cells
    have HX : Hid (0 < ys.length → ∃ g, ox = some ⟨g, 0, none⟩ ∧ g < w2.heap.size ∧ ∀ i (h : i < ys.length), w2.cell? ⟨g, i, none⟩ = some (.int .i64 ys[i])) := hgx
    clear hi2 hb2 HE1 H1 H0 hgx
    go_wp2_with fail
    go_loopw [6, 7] (fun n i wr => ∃ (k : Nat) (acc : List Bd) (z : Int), i = .int .i64 k ∧ n = .int .i64 z ∧ k ≤ ys.length ∧ 0 ≤ z ∧ z ≤ (k : Int) * 1100000000000 ∧ Hid (bandsF row (ys.drop k) acc = bandsF row ys [] ∧ z = arB acc ∧ Below w2.heap.size w2 wr)) (fun _ i _ => ys.length - (intOf i).toNat)
    case atStart => exact ⟨0, [], 0, rfl, rfl, Nat.zero_le _, by omega, by omega, rfl, rfl, Below.refl _ _⟩
    case round =>
      obtain ⟨k, acc, z, rfl, rfl, hk, hz0, hz1, HR⟩ := hrel
      by_cases hlt : k + 1 < ys.length
      · obtain ⟨g, rfl, hg, hat⟩ := HX.out (by omega)
        have ik : (k : Int) + 1 < ys.length := by omega
        have ik2 : (k : Int) < ys.length := by omega
        have HCy : Hid (∀ W, Below w2.heap.size w2 W → W.cell? ⟨g, k, none⟩ = some (.int .i64 (ys[k]'(by omega))) ∧ W.cell? ⟨g, k + 1, none⟩ = some (.int .i64 ys[k + 1]) ∧ g < W.heap.size ∧ Below w.heap.size w W) := fun W h => ⟨(h.cell (p := ⟨g, k, none⟩) hg).trans (hat k (by omega)), (h.cell (p := ⟨g, k + 1, none⟩) hg).trans (hat (k + 1) hlt), Nat.lt_of_lt_of_le hg h.size, H2.out.trans (h.mono H2.out.size)⟩
        have hord : ys[k]'(by omega) < ys[k + 1] := inc_at hinc.out (by omega) hlt
        have hb0 := HEB.out _ (List.getElem_mem (show k < ys.length by omega))
        have hb1 := HEB.out _ (List.getElem_mem hlt)
        have HST : Hid (bandsF row (ys.drop (k + 1)) (bandS (row (ys[k]'(by omega))) (ys[k]'(by omega)) ys[k + 1] acc) = bandsF row ys []) := by
          have h := HR.out.1
          rwa [bandsF_step row hlt] at h
        have HZ : Hid (z = arB acc ∧ Below w2.heap.size w2 wr) := HR.out.2
        clear hat HR
        generalize ys[k]'(by omega) = t at *
        generalize ys[k + 1] = t' at *
        have hS := HRL.out t
        have HSB : Hid (∀ s ∈ row t, -16384 ≤ s.1 ∧ s.1 < s.2 ∧ s.2 ≤ 16384) := HRB.out t
        have HC := HSa.out wr t (HCy.out _ HZ.out.2).2.2.2
        obtain ⟨S, hSe⟩ : ∃ S, S = row t := ⟨_, rfl⟩
        rw [← hSe] at HC hS HSB HST
        clear hSe
        have HC2 : Hid (Calls Try.prog 56 #[va, .slice none 0 0, .int .i64 1, .int .i64 t] wr fun e w' => ∃ u, e = .returned u ∧ IL w' u (spI S) ∧ Below wr.heap.size wr w') := HC
        clear HC
        obtain ⟨x0, _, _⟩ := HCy.out _ HZ.out.2
        go_wp2_with fail
        refine HC2.out.mono ?_
        rintro e w3 ⟨u3, rfl, hi3, hb3⟩
        obtain ⟨on, cn, rfl, hcn, hgn⟩ := hi3.cells
        have H3 : Hid (Below w2.heap.size w2 w3 ∧ (0 < (spI S).length → ∃ g, on = some ⟨g, 0, none⟩ ∧ g < w3.heap.size ∧ ∀ i (h : i < (spI S).length), w3.cell? ⟨g, i, none⟩ = some (.int .i64 (spI S)[i]))) := ⟨HZ.out.2.trans (hb3.mono HZ.out.2.size), hgn⟩
        clear hi3 hb3 x0 hgn HC2
        obtain ⟨N, hN⟩ : ∃ N, N = (spI S).length := ⟨_, rfl⟩
        rw [← hN] at hcn ⊢
        have HND : Hid (N = (spI S).length ∧ N = S.length * 2) := ⟨hN, by rw [hN, spI_len]⟩
        have hN2 : N ≤ 2048 := by rw [hN, spI_len]; omega
        clear hN
        have HD : Hid (0 ≤ t' - t ∧ t' - t ≤ 32768) := by unfold Hid; omega
        go_wp2_with fail
        go_loopw [6, 9] (fun n i wr => ∃ (m q : Nat) (y : Int), i = .int .i64 q ∧ n = .int .i64 y ∧ q ≤ N ∧ 0 ≤ y ∧ y ≤ (k : Int) * 1100000000000 + (m : Int) * 1073741824 ∧ m ≤ 1024 ∧ Hid (q = m * 2 ∧ y = z + arR (S.take m) * (t' - t) ∧ Below w3.heap.size w3 wr)) (fun _ i _ => N - (intOf i).toNat)
        case atStart => exact ⟨0, 0, z, rfl, rfl, Nat.zero_le _, hz0, by omega, by omega, rfl, by simp [arR], Below.refl _ _⟩
        case round =>
          obtain ⟨m, q, y, rfl, rfl, hqN, hy0, hy1, hm4, HM⟩ := hrel
          by_cases hqd : q < N
          · have iq : (q : Int) < N := by omega
            have hmd : m < S.length := by have h1 := HM.out.1; have h2 := HND.out.2; omega
            have iq2 : (q : Int) + 1 < N := by have h1 := HM.out.1; have h2 := HND.out.2; omega
            have hsb := HSB.out _ (List.getElem_mem hmd)
            have hcells : ∃ gn, on = some ⟨gn, 0, none⟩ ∧ gn < wr.heap.size ∧ wr.cell? ⟨gn, q, none⟩ = some (.int .i64 S[m].1) ∧ wr.cell? ⟨gn, q + 1, none⟩ = some (.int .i64 S[m].2) := by
              have hl : (spI S).length = S.length * 2 := spI_len S
              obtain ⟨gn, e4, hgl, hc⟩ := H3.out.2 (by omega)
              have hB := HM.out.2.2
              have h1 := HM.out.1
              refine ⟨gn, e4, Nat.lt_of_lt_of_le hgl hB.size, ?_, ?_⟩
              · have h3 := hc q (by omega)
                have h4 := (spI_at S m hmd).1
                rw [← h1] at h4
                obtain ⟨h5, h6⟩ := List.getElem?_eq_some_iff.1 h4
                exact (hB.cell (p := ⟨gn, q, none⟩) hgl).trans (by rw [h3, h6])
              · have h3 := hc (q + 1) (by omega)
                have h4 := (spI_at S m hmd).2
                rw [← h1] at h4
                obtain ⟨h5, h6⟩ := List.getElem?_eq_some_iff.1 h4
                exact (hB.cell (p := ⟨gn, q + 1, none⟩) hgl).trans (by rw [h3, h6])
            obtain ⟨gn, hon, hgl, n0, n1⟩ := hcells
            subst hon
            have hta : arR (S.take (m + 1)) = arR (S.take m) + (S[m].2 - S[m].1) := by
              rw [← List.take_append_getElem hmd, arR_app]
              simp [arR]
            have HTA : Hid (arR (S.take (m + 1)) = arR (S.take m) + (S[m].2 - S[m].1) ∧ q = m * 2 ∧ m < S.length ∧ y = z + arR (S.take m) * (t' - t) ∧ Below w3.heap.size w3 wr) := ⟨hta, HM.out.1, hmd, HM.out.2⟩
            have hpr := mul_bd (x := S[m].2 - S[m].1) (y := t' - t) (A := 32768) (B := 32768) (by omega) (by omega) HD.out.1 HD.out.2
            clear hta HM
            generalize S[m].1 = s1 at *
            generalize S[m].2 = s2 at *
            clear hmd
            obtain ⟨y0, y1, lg, _⟩ := HCy.out _ (H3.out.1.trans (HTA.out.2.2.2.2.mono H3.out.1.size))
            have HRel : Hid (∀ W, Below wr.heap.size wr W → ∃ (m' q' : Nat) (y' : Int), Value.int .i64 ((q : Int) + 2) = .int .i64 q' ∧ Value.int .i64 (y + (s2 - s1) * (t' - t)) = .int .i64 y' ∧ q' ≤ N ∧ 0 ≤ y' ∧ y' ≤ (k : Int) * 1100000000000 + (m' : Int) * 1073741824 ∧ m' ≤ 1024 ∧ Hid (q' = m' * 2 ∧ y' = z + arR (S.take m') * (t' - t) ∧ Below w3.heap.size w3 W)) := fun W hb => by
              have h2 := HTA.out
              have h3 := HND.out.2
              refine ⟨m + 1, q + 2, y + (s2 - s1) * (t' - t), by go_num, rfl, by omega, by omega, by omega, by omega, by omega, ?_, h2.2.2.2.2.trans (hb.mono h2.2.2.2.2.size)⟩
              rw [h2.1, h2.2.2.2.1, Int.add_mul]
              omega
            have HbW : Hid (∀ n, Below wr.heap.size wr (wr.drewN n)) := fun n => below_drewN (Below.refl _ _)
            have hky : y + (s2 - s1) * (t' - t) ≤ 9000000000000000 := by omega
            clear HTA
            go_wp2_with fail
            go_quiet (fail)
            go_wp2
            go_roundw
            case rel => exact HRel.out _ (HbW.out _)
            case measure => simp [intOf]; omega
          · obtain rfl : q = N := by omega
            have HF : Hid (∃ (k' : Nat) (acc' : List Bd) (z' : Int), Value.int .i64 ((k : Int) + 1) = .int .i64 k' ∧ Value.int .i64 y = .int .i64 z' ∧ k' ≤ ys.length ∧ 0 ≤ z' ∧ z' ≤ (k' : Int) * 1100000000000 ∧ Hid (bandsF row (ys.drop k') acc' = bandsF row ys [] ∧ z' = arB acc' ∧ Below w2.heap.size w2 wr)) := by
              have h1 := HM.out
              have h2 := HND.out.2
              obtain rfl : m = S.length := by omega
              rw [List.take_length] at h1
              refine ⟨k + 1, bandS S t t' acc, y, by go_num, rfl, by omega, hy0, by omega, HST.out, ?_, H3.out.1.trans (h1.2.2.mono H3.out.1.size)⟩
              rw [arB_step, ← HZ.out.1]
              exact h1.2.1
            have iq : ¬ (q : Int) < q := by omega
            clear HM
            go_wp2
            go_roundw
            case rel => exact HF.out
            case measure => simp [intOf]; omega
      · have HF : Hid (z = R ∧ Below w.heap.size w wr) := by
          have h := HR.out
          have e := h.1
          rw [bandsF_done row hlt] at e
          exact ⟨by rw [h.2.1, e, HAR.out], H2.out.trans (h.2.2.mono H2.out.size)⟩
        have ik : ¬ (k : Int) + 1 < ys.length := by omega
        clear HR
        go_wp2
        go_ret2
        exact ⟨by rw [← HF.out.1]; rfl, HF.out.2⟩
  · rw [if_neg h0]
    generalize lisE a = ea at *
    have h1 : (ea != 0) = true := by simp [h0]
    clear ha h0
    go_enter Try.func33, Try.ntmps33
    go_wp2_with fail
    refine H1.out.mono ?_
    rintro e w1 ⟨rfl, hb1⟩
    have HB : Hid (Below w.heap.size w w1) := hb1
    clear hb1
    go_wp2
    go_ret2
    exact ⟨rfl, HB.out⟩

end Go.Proofs.Ytagkbpceiedikaa
