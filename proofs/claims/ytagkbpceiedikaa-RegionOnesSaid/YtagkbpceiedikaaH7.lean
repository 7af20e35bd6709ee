/-
  Contracts of the document's answer for layer 2: two, Of, both, Join, Meet, Less, Same.
-/
import Derived.Test.YtagkbpceiedikaaH6
import Derived.Test.YtagkbpceiedikaaGZ4
namespace Go.Proofs.Ytagkbpceiedikaa
open Go.RowKit

theorem wk_one (a b : List Rc) : formF (wK 1) (wA 1 a b) (wB 1 b) = formF false (a ++ b) [] := by simp [wK, wA, wB]
theorem wk_two (a b : List Rc) : formF (wK 2) (wA 2 a b) (wB 2 b) = formF true a b := by simp [wK, wA, wB]
theorem wk_three (a b : List Rc) : formF (wK 3) (wA 3 a b) (wB 3 b) = formF false a b := by simp [wK, wA, wB]
theorem wk_row (a : List Rc) (y : Int) : rowW (wK 1) (wA 1 a []) (wB 1 []) y = rowW false a [] y := by simp [wK, wA, wB]
theorem Mays_nil : Mays [] := fun r hr => by cases hr
theorem Ans.up {w W w' : World} {L : List Rc} {E : Int} {e : Ending} (h : Ans W L E e w') (hb : Below w.heap.size w W) : Ans w L E e w' := by
  obtain ⟨v, he, ho, hB⟩ := h
  exact ⟨v, he, row_weaken ho hb.size, hb.trans (hB.mono hb.size)⟩

theorem dtwo_any (a b : List Rc) (va vb : Value) (w : World) (ha : LsR w va a) (hb : LsR w vb b) :
    Calls Try.prog 54 #[va, vb] w fun e w' => e = .returned (.int .i64 (twoE a b)) ∧ Below w.heap.size w w' := by
  have H1 : Hid (Calls Try.prog 62 #[va] w fun e w' => e = .returned (.int .i64 (lisE a)) ∧ Below w.heap.size w w') := asked_any a va w ha
  have H2 : Hid (∀ W, Below w.heap.size w W → Calls Try.prog 62 #[vb] W fun e w' => e = .returned (.int .i64 (lisE b)) ∧ Below W.heap.size W w') := fun W h => asked_any b vb W (hb.below h)
  clear ha hb
  unfold twoE
  by_cases h0 : lisE a = 0
  · rw [if_pos h0]
    rw [h0] at H1
    go_enter Try.func54, Try.ntmps54
    go_wp2_with fail
    refine H1.out.mono ?_
    rintro e w1 ⟨rfl, hb1⟩
    have HB : Hid (Below w.heap.size w w1) := hb1
    clear hb1
    go_wp2_with fail
    refine (H2.out _ HB.out).mono ?_
    rintro e w2 ⟨rfl, hb2⟩
    have HC : Hid (Below w.heap.size w w2) := HB.out.trans (hb2.mono HB.out.size)
    clear hb2
    go_wp2
    go_ret
    exact ⟨rfl, HC.out⟩
  · rw [if_neg h0]
    generalize lisE a = ea at *
    have h1 : (ea != 0) = true := by simp [h0]
    clear h0
    go_enter Try.func54, Try.ntmps54
    go_wp2_with fail
    refine H1.out.mono ?_
    rintro e w1 ⟨rfl, hb1⟩
    have HB : Hid (Below w.heap.size w w1) := hb1
    clear hb1
    go_wp2
    go_ret
    exact ⟨rfl, HB.out⟩

theorem dof_any (a : List Rc) (va : Value) (w : World) (ha : LsR w va a) :
    Calls Try.prog 31 #[va] w fun e w' => Ans w (ansL (lisE a) (formF false a [])) (ansE (lisE a) (formF false a [])) e w' := by
  have H1 : Hid (Calls Try.prog 62 #[va] w fun e w' => e = .returned (.int .i64 (lisE a)) ∧ Below w.heap.size w w') := asked_any a va w ha
  by_cases h0 : lisE a = 0
  · have hz := lisE_zero h0
    have H2 : Hid (∀ W, Below w.heap.size w W → Calls Try.prog 63 #[va, .slice none 0 0, .int .i64 1] W fun e w' => Ans w (ansL 0 (formF false a [])) (ansE 0 (formF false a [])) e w') := fun W h => by
      have q := made_any a [] va (.slice none 0 0) 1 W (ha.below h) (lsr_nil W) hz.2 Mays_nil (by omega) (by simp)
      rw [wk_one, List.append_nil] at q
      exact q.mono fun e w' h2 => h2.up h
    rw [h0] at H1 ⊢
    clear ha h0 hz
    generalize ansL 0 (formF false a []) = L at *
    generalize ansE 0 (formF false a []) = E at *
    go_enter Try.func31, Try.ntmps31
    go_wp2_with fail
    refine H1.out.mono ?_
    rintro e w1 ⟨rfl, hb1⟩
    have HB : Hid (Below w.heap.size w w1) := hb1
    clear hb1
    go_wp2_with fail
    refine (H2.out _ HB.out).mono ?_
    rintro e w2 ⟨u, rfl, hu, hb2⟩
    have HU : Hid (w2.ownsRow w.heap.size 35 4 u L.length (flat L) ∧ Below w.heap.size w w2) := ⟨hu, hb2⟩
    clear hb2 hu
    go_wp2
    go_ret2
    exact ⟨_, rfl, HU.out.1, HU.out.2⟩
  · rw [show ansE (lisE a) (formF false a []) = lisE a by unfold ansE; rw [if_neg h0], show ansL (lisE a) (formF false a []) = [] by unfold ansL; rw [if_neg (fun h => h0 h.1)]]
    generalize lisE a = ea at *
    have h1 : (ea != 0) = true := by simp [h0]
    clear ha h0
    go_enter Try.func31, Try.ntmps31
    go_wp2_with fail
    refine H1.out.mono ?_
    rintro e w1 ⟨rfl, hb1⟩
    have HB : Hid (Below w.heap.size w w1) := hb1
    clear hb1
    go_wp2
    go_ret2
    exact ⟨_, rfl, World.ownsRow_nil _ _ _ _, HB.out⟩

theorem dboth_any (a b : List Rc) (va vb : Value) (what : Int) (w : World) (ha : LsR w va a) (hb : LsR w vb b) (F : List Rc) (hF : formF (wK what) (wA what a b) (wB what b) = F) :
    Calls Try.prog 53 #[va, vb, .int .i64 what] w fun e w' => Ans w (ansL (twoE a b) F) (ansE (twoE a b) F) e w' := by
  have H1 : Hid (Calls Try.prog 54 #[va, vb] w fun e w' => e = .returned (.int .i64 (twoE a b)) ∧ Below w.heap.size w w') := dtwo_any a b va vb w ha hb
  by_cases h0 : twoE a b = 0
  · have hz := lisE_zero (twoE_zero h0).1
    have hy := lisE_zero (twoE_zero h0).2
    have H2 : Hid (∀ W, Below w.heap.size w W → Calls Try.prog 63 #[va, vb, .int .i64 what] W fun e w' => Ans w (ansL 0 F) (ansE 0 F) e w') := fun W h => by
      have q := made_any a b va vb what W (ha.below h) (hb.below h) hz.2 hy.2 (by omega) (by omega)
      rw [hF] at q
      exact q.mono fun e w' h2 => h2.up h
    rw [h0] at H1 ⊢
    clear ha hb h0 hz hy hF
    generalize ansL 0 F = L at *
    generalize ansE 0 F = E at *
    go_enter Try.func53, Try.ntmps53
    go_wp2_with fail
    refine H1.out.mono ?_
    rintro e w1 ⟨rfl, hb1⟩
    have HB : Hid (Below w.heap.size w w1) := hb1
    clear hb1
    go_wp2_with fail
    refine (H2.out _ HB.out).mono ?_
    rintro e w2 ⟨u, rfl, hu, hb2⟩
    have HU : Hid (w2.ownsRow w.heap.size 35 4 u L.length (flat L) ∧ Below w.heap.size w w2) := ⟨hu, hb2⟩
    clear hb2 hu
    go_wp2
    go_ret2
    exact ⟨_, rfl, HU.out.1, HU.out.2⟩
  · rw [show ansE (twoE a b) F = twoE a b by unfold ansE; rw [if_neg h0], show ansL (twoE a b) F = [] by unfold ansL; rw [if_neg (fun h => h0 h.1)]]
    generalize twoE a b = ea at *
    have h1 : (ea != 0) = true := by simp [h0]
    clear ha hb h0 hF
    go_enter Try.func53, Try.ntmps53
    go_wp2_with fail
    refine H1.out.mono ?_
    rintro e w1 ⟨rfl, hb1⟩
    have HB : Hid (Below w.heap.size w w1) := hb1
    clear hb1
    go_wp2
    go_ret2
    exact ⟨_, rfl, World.ownsRow_nil _ _ _ _, HB.out⟩

theorem djoin_any (a b : List Rc) (va vb : Value) (w : World) (ha : LsR w va a) (hb : LsR w vb b) :
    Calls Try.prog 23 #[va, vb] w fun e w' => Ans w (ansL (twoE a b) (formF false (a ++ b) [])) (ansE (twoE a b) (formF false (a ++ b) [])) e w' := by
  have H1 : Hid (Calls Try.prog 53 #[va, vb, .int .i64 1] w fun e w' => Ans w (ansL (twoE a b) (formF false (a ++ b) [])) (ansE (twoE a b) (formF false (a ++ b) [])) e w') := dboth_any a b va vb 1 w ha hb _ (wk_one a b)
  clear ha hb
  go_enter Try.func23, Try.ntmps23
  go_wp2_with fail
  refine H1.out.mono ?_
  rintro e w1 ⟨u, rfl, hu, hb2⟩
  have HU : Hid (w1.ownsRow w.heap.size 35 4 u (ansL (twoE a b) (formF false (a ++ b) [])).length (flat (ansL (twoE a b) (formF false (a ++ b) []))) ∧ Below w.heap.size w w1) := ⟨hu, hb2⟩
  clear hb2 hu
  go_wp2
  go_ret2
  exact ⟨_, rfl, HU.out.1, HU.out.2⟩

theorem dmeet_any (a b : List Rc) (va vb : Value) (w : World) (ha : LsR w va a) (hb : LsR w vb b) :
    Calls Try.prog 24 #[va, vb] w fun e w' => Ans w (ansL (twoE a b) (formF true a b)) (ansE (twoE a b) (formF true a b)) e w' := by
  have H1 : Hid (Calls Try.prog 53 #[va, vb, .int .i64 2] w fun e w' => Ans w (ansL (twoE a b) (formF true a b)) (ansE (twoE a b) (formF true a b)) e w') := dboth_any a b va vb 2 w ha hb _ (wk_two a b)
  clear ha hb
  go_enter Try.func24, Try.ntmps24
  go_wp2_with fail
  refine H1.out.mono ?_
  rintro e w1 ⟨u, rfl, hu, hb2⟩
  have HU : Hid (w1.ownsRow w.heap.size 35 4 u (ansL (twoE a b) (formF true a b)).length (flat (ansL (twoE a b) (formF true a b))) ∧ Below w.heap.size w w1) := ⟨hu, hb2⟩
  clear hb2 hu
  go_wp2
  go_ret2
  exact ⟨_, rfl, HU.out.1, HU.out.2⟩

theorem dless_any (a b : List Rc) (va vb : Value) (w : World) (ha : LsR w va a) (hb : LsR w vb b) :
    Calls Try.prog 25 #[va, vb] w fun e w' => Ans w (ansL (twoE a b) (formF false a b)) (ansE (twoE a b) (formF false a b)) e w' := by
  have H1 : Hid (Calls Try.prog 53 #[va, vb, .int .i64 3] w fun e w' => Ans w (ansL (twoE a b) (formF false a b)) (ansE (twoE a b) (formF false a b)) e w') := dboth_any a b va vb 3 w ha hb _ (wk_three a b)
  clear ha hb
  go_enter Try.func25, Try.ntmps25
  go_wp2_with fail
  refine H1.out.mono ?_
  rintro e w1 ⟨u, rfl, hu, hb2⟩
  have HU : Hid (w1.ownsRow w.heap.size 35 4 u (ansL (twoE a b) (formF false a b)).length (flat (ansL (twoE a b) (formF false a b))) ∧ Below w.heap.size w w1) := ⟨hu, hb2⟩
  clear hb2 hu
  go_wp2
  go_ret2
  exact ⟨_, rfl, HU.out.1, HU.out.2⟩

theorem row_cov (a : List Rc) (x y : Int) : inS (rowW false a [] y) x ↔ cov a x y := by rw [(rowW_can false a [] y).2, kp_nil]
theorem cov_edge {l : List Rc} {x y : Int} (h : cov l x y) : ∃ u v, isEdge l u ∧ isEdge l v ∧ u ≤ y ∧ y < v := by
  obtain ⟨r, hr, hk, _, _, h3, h4⟩ := h
  exact ⟨r.y, r.y + r.h, ⟨r, hr, hk, .inl rfl⟩, ⟨r, hr, hk, .inr rfl⟩, h3, h4⟩
/-- Row by row the same, so the same form. -/
theorem rows_same {a b : List Rc} {ys : List Int} (hi : Inc ys) (hm : ∀ n, n ∈ ys ↔ isEdge a n ∨ isEdge b n) (h : ∀ j (h : j + 1 < ys.length), rowW false a [] ys[j] = rowW false b [] ys[j]) : formF false a [] = formF false b [] := by
  refine form_same fun x y => ?_
  rw [kp_nil, kp_nil]
  have none : (¬ (∃ u v, u ∈ ys ∧ v ∈ ys ∧ u ≤ y ∧ y < v)) → (cov a x y ↔ cov b x y) := fun hn => by
    constructor
    · intro c; obtain ⟨u, v, h1, h2, h3, h4⟩ := cov_edge c; exact absurd ⟨u, v, (hm u).2 (.inl h1), (hm v).2 (.inl h2), h3, h4⟩ hn
    · intro c; obtain ⟨u, v, h1, h2, h3, h4⟩ := cov_edge c; exact absurd ⟨u, v, (hm u).2 (.inr h1), (hm v).2 (.inr h2), h3, h4⟩ hn
  by_cases hn : ∃ u v, u ∈ ys ∧ v ∈ ys ∧ u ≤ y ∧ y < v
  · obtain ⟨u, v, hu, hv, h1, h2⟩ := hn
    cases ys with
    | nil => cases hu
    | cons z t =>
      have hz : z ≤ y := by
        rcases List.mem_cons.1 hu with rfl | hu
        · exact h1
        · have := hi.1 u hu; omega
      have hv' : ∃ b ∈ t, y < b := by
        rcases List.mem_cons.1 hv with rfl | hv
        · omega
        · exact ⟨v, hv, h2⟩
      obtain ⟨e, he, e1, e2, _⟩ := inP_mid (fun _ => true) t z y hi hz hv'
      obtain ⟨j, hj, rfl⟩ := List.getElem_of_mem he
      have hj1 : j + 1 < (z :: t).length := by
        rcases Nat.lt_or_ge (j + 1) (z :: t).length with c | c
        · exact c
        · exfalso
          obtain ⟨i, hil, rfl⟩ := List.getElem_of_mem hv
          rcases Nat.lt_or_ge i j with c2 | c2
          · have := inc_at hi c2 hj; omega
          · have : i = j := by omega
            subst this
            omega
      have hr := h j hj1
      have ca : cov a x (z :: t)[j] ↔ cov a x y := cov_step e1 (fun n hn hny => e2 n ((hm n).2 (.inl hn)) hny) x
      have cb : cov b x (z :: t)[j] ↔ cov b x y := cov_step e1 (fun n hn hny => e2 n ((hm n).2 (.inr hn)) hny) x
      rw [← ca, ← cb, ← row_cov, ← row_cov, hr]
  · exact none hn
theorem same_rows {a b : List Rc} (h : formF false a [] = formF false b []) (y : Int) : rowW false a [] y = rowW false b [] y := by
  refine rowW_same fun x => ?_
  have h1 := form_cov false a [] x y
  have h2 := form_cov false b [] x y
  rw [h] at h1
  exact h1.symm.trans h2

set_option maxRecDepth 10000 in
set_option maxHeartbeats 8000000 in
theorem dsame_any (a b : List Rc) (va vb : Value) (w : World) (ha : LsR w va a) (hb : LsR w vb b) :
    Calls Try.prog 26 #[va, vb] w fun e w' => e = .returned (.tuple #[.bool (samR a b), .int .i64 (twoE a b)]) ∧ Below w.heap.size w w' := by
  have H1 : Hid (Calls Try.prog 54 #[va, vb] w fun e w' => e = .returned (.int .i64 (twoE a b)) ∧ Below w.heap.size w w') := dtwo_any a b va vb w ha hb
  unfold samR
  by_cases h0 : twoE a b = 0
  · have hz := lisE_zero (twoE_zero h0).1
    have hy := lisE_zero (twoE_zero h0).2
    have la : a.length ≤ 1024 := hz.1
    have lb : b.length ≤ 1024 := hy.1
    have ma : Mays a := hz.2
    have mb : Mays b := hy.2
    rw [h0] at H1 ⊢
    rw [decide_eq_true rfl, Bool.true_and]
    have HE1 : Hid (∀ W, Below w.heap.size w W → Calls Try.prog 55 #[.slice none 0 0, va, .bool true, .int .i64 0] W fun e w' => ∃ u, e = .returned u ∧ w'.ownsRow W.heap.size 3 1 u (edF true 0 a []).length (flatI (edF true 0 a [])) ∧ Below W.heap.size W w') := fun W h =>
      dedges_any W a [] va _ true 0 W (Below.refl _ _) (ha.below h) ma (World.ownsRow_nil _ _ _ _) (by simp; omega)
    obtain ⟨ys, hys⟩ : ∃ ys, ys = edTwo true 0 a b := ⟨_, rfl⟩
    have HE2 : Hid (∀ W0 W u, Below w.heap.size w W0 → Below W0.heap.size W0 W → W.ownsRow W0.heap.size 3 1 u (edF true 0 a []).length (flatI (edF true 0 a [])) → Calls Try.prog 55 #[u, vb, .bool true, .int .i64 0] W fun e w' => ∃ u, e = .returned u ∧ w'.ownsRow W0.heap.size 3 1 u ys.length (flatI ys) ∧ Below W0.heap.size W0 w') := fun W0 W u h0 h1 h2 => by
      rw [hys]
      exact dedges_any W0 b (edF true 0 a []) vb u true 0 W h1 (hb.below h0) mb h2 (by have := ed_len true 0 a []; simp at this; omega)
    have HSa : Hid (∀ W y, Below w.heap.size w W → Calls Try.prog 56 #[va, .slice none 0 0, .int .i64 1, .int .i64 y] W fun e w' => ∃ u, e = .returned u ∧ IL w' u (spI (rowW false a [] y)) ∧ Below W.heap.size W w') := fun W y h => by
      have q := spans_any a [] va (.slice none 0 0) 1 y W (ha.below h) (lsr_nil W) ma Mays_nil (by omega) (by simp)
      rw [wk_row] at q
      exact q.mono fun e w' ⟨u, he, ho, hB⟩ => ⟨u, he, il_own ho, hB⟩
    have HSb : Hid (∀ W y, Below w.heap.size w W → Calls Try.prog 56 #[vb, .slice none 0 0, .int .i64 1, .int .i64 y] W fun e w' => ∃ u, e = .returned u ∧ IL w' u (spI (rowW false b [] y)) ∧ Below W.heap.size W w') := fun W y h => by
      have q := spans_any b [] vb (.slice none 0 0) 1 y W (hb.below h) (lsr_nil W) mb Mays_nil (by omega) (by simp)
      rw [wk_row] at q
      exact q.mono fun e w' ⟨u, he, ho, hB⟩ => ⟨u, he, il_own ho, hB⟩
    have HA : Hid (∀ W xs zs v u, IL W v xs → IL W u zs → xs.length ≤ 1000000 → Calls Try.prog 57 #[v, u] W fun e w' => e = .returned (.bool (decide (xs = zs))) ∧ Below W.heap.size W w') := fun W xs zs v u h1 h2 h3 => alike_any xs zs v u W h1 h2 h3
    have HRL : Hid (∀ y, (spI (rowW false a [] y)).length ≤ 1000000) := fun y => by
      have := row_len 1 a [] y
      rw [wk_row] at this
      rw [spI_len]
      simp at this
      omega
    have hlen := edTwo_len true 0 a b
    have HP : Hid ((∀ j (h : j + 1 < ys.length), rowW false a [] ys[j] = rowW false b [] ys[j]) → sameB (formF false a []) (formF false b []) = true) := fun h => by
      subst hys
      refine (sameB_iff _ _).2 (rows_same (edTwo_inc true 0 a b) (fun n => ?_) h)
      rw [edges_doc ma mb 1 0, (edges_inc _).2, isEdge_app]
      unfold wA wB
      simp only [if_true, isEdge_app]
      constructor
      · rintro (h | ⟨r, hr, _⟩)
        · exact h
        · cases hr
      · exact fun h => .inl h
    have HN : Hid (∀ y, rowW false a [] y ≠ rowW false b [] y → sameB (formF false a []) (formF false b []) = false) := fun y h => by
      rw [Bool.eq_false_iff]
      intro c
      exact h (same_rows ((sameB_iff _ _).1 c) y)
    have hyl : ys.length ≤ 12000 := by rw [hys]; omega
    generalize sameB (formF false a []) (formF false b []) = R at *
    generalize rowW false a [] = ra at *
    generalize rowW false b [] = rb at *
    clear hlen hys
    generalize edF true 0 a [] = ys1 at *
    clear ha hb ma mb la lb hz hy h0
    go_enter Try.func26, Try.ntmps26
    go_wp2_with fail
    refine H1.out.mono ?_
    rintro e w0 ⟨rfl, hb0⟩
    have H0 : Hid (Below w.heap.size w w0) := hb0
    clear hb0
    go_wp2_with fail
    refine (HE1.out _ H0.out).mono ?_
    rintro e w1 ⟨u1, rfl, ho1, hb1⟩
    have H2 : Hid (Below w0.heap.size w0 w1 ∧ w1.ownsRow w0.heap.size 3 1 u1 ys1.length (flatI ys1)) := ⟨hb1, ho1⟩
    clear ho1 hb1
    go_wp2_with fail
    refine (HE2.out _ _ _ H0.out H2.out.1 H2.out.2).mono ?_
    rintro e w2 ⟨u2, rfl, ho2, hb2⟩
    have H3 : Hid (Below w.heap.size w w2) := H0.out.trans (hb2.mono H0.out.size)
    obtain ⟨ox, cx, rfl, hcx, hgx⟩ := (il_own ho2).cells
    have HX : Hid (0 < ys.length → ∃ g, ox = some ⟨g, 0, none⟩ ∧ g < w2.heap.size ∧ ∀ i (h : i < ys.length), w2.cell? ⟨g, i, none⟩ = some (.int .i64 ys[i])) := hgx
    clear ho2 hb2 HE2 HE1 H2 hgx H0 H1
    go_wp2_with fail
    go_loopw [8] (fun i wr => ∃ k : Nat, i = .int .i64 k ∧ k ≤ ys.length ∧ Hid ((∀ j (h : j + 1 < ys.length), j < k → ra ys[j] = rb ys[j]) ∧ Below w2.heap.size w2 wr)) (fun i _ => ys.length - (intOf i).toNat)
    case atStart => exact ⟨0, rfl, Nat.zero_le _, fun j _ h => absurd h (Nat.not_lt_zero j), Below.refl _ _⟩
    case round =>
      obtain ⟨k, rfl, hk, HR⟩ := hrel
      by_cases hlt : k + 1 < ys.length
      · obtain ⟨g, rfl, hg, hat⟩ := HX.out (by omega)
        have ik : (k : Int) + 1 < ys.length := by omega
        have ik2 : (k : Int) < ys.length := by omega
        have HCy : Hid (∀ W, Below w2.heap.size w2 W → W.cell? ⟨g, k, none⟩ = some (.int .i64 (ys[k]'(by omega))) ∧ Below w.heap.size w W) := fun W h => ⟨(h.cell (p := ⟨g, k, none⟩) hg).trans (hat k (by omega)), H3.out.trans (h.mono H3.out.size)⟩
        have HST : Hid (ra (ys[k]'(by omega)) = rb (ys[k]'(by omega)) → ∀ j (h : j + 1 < ys.length), j < k + 1 → ra ys[j] = rb ys[j]) := fun e j h hj => by
          by_cases c : j = k
          · subst c; exact e
          · exact HR.out.1 j h (by omega)
        have HL : Hid (Below w2.heap.size w2 wr) := HR.out.2
        clear hat HR
        generalize ys[k]'(by omega) = t at *
        obtain ⟨x0, _⟩ := HCy.out _ HL.out
        go_wp2_with fail
        refine (HSa.out _ _ (HCy.out _ HL.out).2).mono ?_
        rintro e w3 ⟨u3, rfl, hi3, hb3⟩
        have L3 : Hid (Below w2.heap.size w2 w3 ∧ IL w3 u3 (spI (ra t))) := ⟨HL.out.trans (hb3.mono HL.out.size), hi3⟩
        clear hi3 hb3 x0
        obtain ⟨x0, _⟩ := HCy.out _ L3.out.1
        go_wp2_with fail
        refine (HSb.out _ _ (HCy.out _ L3.out.1).2).mono ?_
        rintro e w4 ⟨u4, rfl, hi4, hb4⟩
        have L4 : Hid (Below w2.heap.size w2 w4 ∧ IL w4 u3 (spI (ra t)) ∧ IL w4 u4 (spI (rb t))) := ⟨L3.out.1.trans (hb4.mono L3.out.1.size), L3.out.2.below hb4, hi4⟩
        clear hi4 hb4 x0 L3
        have HAL := HA.out w4 _ _ u3 u4 L4.out.2.1 L4.out.2.2 (HRL.out t)
        by_cases hsame : ra t = rb t
        · rw [decide_eq_true (by rw [hsame])] at HAL
          have HAL2 : Hid (Calls Try.prog 57 #[u3, u4] w4 fun e w' => e = .returned (.bool true) ∧ Below w4.heap.size w4 w') := HAL
          have HS2 : Hid (∀ j (h : j + 1 < ys.length), j < k + 1 → ra ys[j] = rb ys[j]) := HST.out hsame
          clear HAL HST hsame
          go_wp2_with fail
          refine HAL2.out.mono ?_
          rintro e w5 ⟨rfl, hb5⟩
          have L5 : Hid (Below w2.heap.size w2 w5) := L4.out.1.trans (hb5.mono L4.out.1.size)
          clear hb5
          go_wp2
          exact ⟨⟨k + 1, by go_num, by omega, HS2.out, L5.out⟩, by simp [intOf]; omega⟩
        · rw [decide_eq_false (fun h => hsame (spI_inj h))] at HAL
          have HAL2 : Hid (Calls Try.prog 57 #[u3, u4] w4 fun e w' => e = .returned (.bool false) ∧ Below w4.heap.size w4 w') := HAL
          have HS2 : Hid (R = false) := HN.out t hsame
          clear HAL HST hsame
          go_wp2_with fail
          refine HAL2.out.mono ?_
          rintro e w5 ⟨rfl, hb5⟩
          have L5 : Hid (Below w.heap.size w w5) := by
            have q := L4.out.1.trans (hb5.mono L4.out.1.size)
            exact H3.out.trans (q.mono H3.out.size)
          clear hb5
          go_wp2
          go_ret2
          exact ⟨by rw [HS2.out]; rfl, L5.out⟩
      · have HF : Hid (R = true ∧ Below w.heap.size w wr) := ⟨HP.out fun j h => HR.out.1 j h (by omega), H3.out.trans (HR.out.2.mono H3.out.size)⟩
        have ik : ¬ (k : Int) + 1 < ys.length := by omega
        clear HR
        go_wp2
        go_ret2
        exact ⟨by rw [HF.out.1]; rfl, HF.out.2⟩
  · rw [decide_eq_false h0, Bool.false_and]
    generalize twoE a b = ea at *
    have h1 : (ea != 0) = true := by simp [h0]
    clear ha hb h0
    go_enter Try.func26, Try.ntmps26
    go_wp2_with fail
    refine H1.out.mono ?_
    rintro e w1 ⟨rfl, hb1⟩
    have HB : Hid (Below w.heap.size w w1) := hb1
    clear hb1
    go_wp2
    go_ret2
    exact ⟨rfl, HB.out⟩

end Go.Proofs.Ytagkbpceiedikaa
