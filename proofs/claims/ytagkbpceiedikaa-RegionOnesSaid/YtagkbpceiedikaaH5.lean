/-
  Contracts of the document's answer for layer 2: spans.
-/
import Derived.Test.YtagkbpceiedikaaH4
namespace Go.Proofs.Ytagkbpceiedikaa
open Go.RowKit

theorem spF_step (p : Int → Bool) {xs : List Int} {k : Nat} (h : k + 1 < xs.length) (acc : List Sp) : spF p (xs.drop k) acc = spF p (xs.drop (k + 1)) (if p xs[k] = true then runA acc xs[k] xs[k + 1] else acc) := by
  rw [List.drop_eq_getElem_cons (show k < xs.length by omega), List.drop_eq_getElem_cons h, spF]
theorem spF_done (p : Int → Bool) {xs : List Int} {k : Nat} (h : ¬ k + 1 < xs.length) (acc : List Sp) : spF p (xs.drop k) acc = acc := by
  have : (xs.drop k).length ≤ 1 := by rw [List.length_drop]; omega
  match hx : xs.drop k, this with
  | [], _ => rfl
  | [_], _ => rfl
  | _ :: _ :: _, h => simp at h
theorem inc_at : ∀ {xs : List Int}, Inc xs → ∀ {i j : Nat} (_ : i < j) (_ : j < xs.length), xs[i] < xs[j]
  | a :: t, h, 0, j + 1, _, hj => by
    simp
    exact h.1 _ (List.getElem_mem _)
  | a :: t, h, i + 1, j + 1, hij, hj => by
    simp
    exact inc_at h.2 (by omega) (by simpa using hj)
theorem runA_end {init : List Sp} {s : Sp} {x x' : Int} (h : s.2 = x) (hlt : x < x') : runA (init ++ [s]) x x' = init ++ [(s.1, x')] := by
  rw [runA_snoc, if_pos (by omega), Int.max_eq_right (by omega)]
theorem runA_new {init : List Sp} {s : Sp} {x x' : Int} (h : s.2 < x) : runA (init ++ [s]) x x' = (init ++ [s]) ++ [(x, x')] := by
  rw [runA_snoc, if_neg (by omega), List.append_assoc]; rfl
theorem spI_set (init : List Sp) (s : Sp) (z : Int) : (spI (init ++ [s])).set (init.length * 2 + 1) z = spI (init ++ [(s.1, z)]) := by
  rw [spI_app, spI_app, List.set_append_right _ _ (by rw [spI_len]; omega), spI_len]
  have : init.length * 2 + 1 - init.length * 2 = 1 := by omega
  rw [this]
  rfl
theorem flatI_set (xs : List Int) (k : Nat) (z : Int) : (flatI xs).set k (.int .i64 z) = flatI (xs.set k z) := by
  unfold flatI
  rw [List.map_set]
theorem cell_bk {w : World} {g : Nat} {x y : Value} {t : TypeId} (h : w.heap[g]? = some (.cells #[x, y] t)) : ∀ (j : Nat) (u : Value), [x, y][j]? = some u → w.cell? ((⟨g, 0, none⟩ : Addr).add j) = some u := by
  intro j u hj
  obtain ⟨c, _, _⟩ := heap_cells h
  have e : (⟨g, 0, none⟩ : Addr).add j = ⟨g, j, none⟩ := by
    unfold Addr.add
    split <;> simp_all
  rw [e, c j]
  simpa using hj
/-- Spans gathered so far. -/
def SpI (w2 : World) (p : Int → Bool) (xs : List Int) (k : Nat) (acc : List Sp) (v : Value) (wr : World) : Prop :=
  spF p (xs.drop k) acc = spF p xs [] ∧ acc.length ≤ k ∧ (∀ (h : k < xs.length), ∀ s ∈ acc, s.2 ≤ xs[k]) ∧ wr.ownsRow w2.heap.size 3 1 v (spI acc).length (flatI (spI acc)) ∧ Below w2.heap.size w2 wr

set_option maxRecDepth 10000 in
set_option maxHeartbeats 8000000 in
theorem spans_any (a b : List Rc) (va vb : Value) (what y : Int) (w : World) (ha : LsR w va a) (hb : LsR w vb b) (ma : Mays a) (mb : Mays b) (la : a.length ≤ 3000) (lb : b.length ≤ 3000) :
    Calls Try.prog 56 #[va, vb, .int .i64 what, .int .i64 y] w fun e w' => ∃ u, e = .returned u ∧ w'.ownsRow w.heap.size 3 1 u (spI (rowW (wK what) (wA what a b) (wB what b) y)).length (flatI (spI (rowW (wK what) (wA what a b) (wB what b) y))) ∧ Below w.heap.size w w' := by
  have HE1 : Hid (Calls Try.prog 55 #[.slice none 0 0, va, .bool false, .int .i64 y] w fun e w' => ∃ u, e = .returned u ∧ w'.ownsRow w.heap.size 3 1 u (edF false y a []).length (flatI (edF false y a [])) ∧ Below w.heap.size w w') :=
    dedges_any w a [] va _ false y w (Below.refl _ _) ha ma (World.ownsRow_nil _ _ _ _) (by simp; omega)
  have HE2 : Hid (∀ W u, Below w.heap.size w W → W.ownsRow w.heap.size 3 1 u (edF false y a []).length (flatI (edF false y a [])) → Calls Try.prog 55 #[u, vb, .bool false, .int .i64 y] W fun e w' => ∃ u, e = .returned u ∧ w'.ownsRow w.heap.size 3 1 u (edTwo false y a b).length (flatI (edTwo false y a b)) ∧ Below w.heap.size w w') := fun W u h1 h2 =>
    dedges_any w b (edF false y a []) vb u false y W h1 hb mb h2 (by have := ed_len false y a []; simp at this; omega)
  have HK : Hid (∀ W x, Below w.heap.size w W → Calls Try.prog 74 #[va, vb, .int .i64 what, .int .i64 x, .int .i64 y] W fun e w' => e = .returned (.bool (kpD what (hsD a x y) (hsD b x y))) ∧ Below W.heap.size W w') := fun W x h => dkept_any a b va vb what x y W (ha.below h) (hb.below h) ma mb (by omega) (by omega)
  have hrow := row_doc ma mb what y
  have hlen := edTwo_len false y a b
  have hinc : Hid (Inc (edTwo false y a b)) := edTwo_inc false y a b
  have HROW : Hid (spF (fun x => kpD what (hsD a x y) (hsD b x y)) (edTwo false y a b) [] = rowW (wK what) (wA what a b) (wB what b) y) := hrow
  generalize rowW (wK what) (wA what a b) (wB what b) y = S at *
  have hxl : (edTwo false y a b).length ≤ 12000 := by omega
  generalize edTwo false y a b = xs at *
  generalize edF false y a [] = xs1 at *
  clear hrow ha hb ma mb hlen
  obtain ⟨i0, hi, hz0, hz1, hz2⟩ := info_parts info_i64d
  have HI : Hid (Try.prog.info? 3 = some i0 ∧ i0.zero = some (.int .i64 0) ∧ i0.size = 1 ∧ i0.bytes = 8) := ⟨hi, hz0, hz1, hz2⟩
  clear hi hz0 hz1 hz2
  generalize hP : (fun x => kpD what (hsD a x y) (hsD b x y)) = P at *
  have HP : Hid (∀ x, kpD what (hsD a x y) (hsD b x y) = P x) := fun x => congrFun hP x
  have HK2 : Hid (∀ W x, Below w.heap.size w W → Calls Try.prog 74 #[va, vb, .int .i64 what, .int .i64 x, .int .i64 y] W fun e w' => e = .returned (.bool (P x)) ∧ Below W.heap.size W w') := fun W x h => by
    have := HK.out W x h
    rwa [HP.out] at this
  clear hP HP HK la lb
  go_enter Try.func56, Try.ntmps56
  go_wp2_with fail
  refine HE1.out.mono ?_
  rintro e w1 ⟨u1, rfl, ho1, hb1⟩
  have H1 : Hid (Below w.heap.size w w1 ∧ w1.ownsRow w.heap.size 3 1 u1 xs1.length (flatI xs1)) := ⟨hb1, ho1⟩
  clear ho1 hb1 HE1
  go_wp2_with fail
  refine (HE2.out _ _ H1.out.1 H1.out.2).mono ?_
  rintro e w2 ⟨u2, rfl, ho2, hb2⟩
  have H2 : Hid (Below w.heap.size w w2 ∧ IL w2 u2 xs) := ⟨hb2, il_own ho2⟩
  obtain ⟨ox, cx, rfl, hcx, hgx⟩ := (il_own ho2).cells
  have HX : Hid (0 < xs.length → ∃ g, ox = some ⟨g, 0, none⟩ ∧ g < w2.heap.size ∧ ∀ i (h : i < xs.length), w2.cell? ⟨g, i, none⟩ = some (.int .i64 xs[i])) := hgx
  have HW2 : Hid (w.heap.size ≤ w2.heap.size) := hb2.size
  clear ho2 hb2 HE2 H1 hgx
  go_wp2_with fail
  go_loopw [10, 11] (fun v i wr => ∃ (k : Nat) (acc : List Sp), i = .int .i64 k ∧ k ≤ xs.length ∧ Hid (SpI w2 P xs k acc v wr)) (fun _ i _ => xs.length - (intOf i).toNat)
  case atStart => exact ⟨0, [], rfl, Nat.zero_le _, rfl, Nat.le_refl _, fun _ s hs => absurd hs (by simp), World.ownsRow_nil _ _ _ _, Below.refl _ _⟩
  case round =>
    obtain ⟨k, acc, rfl, hk, HR⟩ := hrel
    by_cases hlt : k + 1 < xs.length
    · obtain ⟨g, rfl, hg, hat⟩ := HX.out (by omega)
      have ik : (k : Int) + 1 < xs.length := by omega
      have ik2 : (k : Int) < xs.length := by omega
      have x0 : wr.cell? ⟨g, k, none⟩ = some (.int .i64 (xs[k]'(by omega))) := (HR.out.2.2.2.2.cell (p := ⟨g, k, none⟩) hg).trans (hat k (by omega))
      have x1 : wr.cell? ⟨g, k + 1, none⟩ = some (.int .i64 xs[k + 1]) := (HR.out.2.2.2.2.cell (p := ⟨g, k + 1, none⟩) hg).trans (hat (k + 1) hlt)
      have HS : Hid (spF P (xs.drop (k + 1)) (if P (xs[k]'(by omega)) = true then runA acc (xs[k]'(by omega)) xs[k + 1] else acc) = spF P xs []) := by
        have h := HR.out.1
        rwa [spF_step P hlt] at h
      have hord : xs[k]'(by omega) < xs[k + 1] := inc_at hinc.out (by omega) hlt
      have HO : Hid (∀ s ∈ acc, s.2 ≤ xs[k]'(by omega)) := HR.out.2.2.1 (by omega)
      have HN : Hid (∀ acc' : List Sp, (∀ s ∈ acc', s.2 ≤ xs[k + 1]) → ∀ (h : k + 1 < xs.length), ∀ s ∈ acc', s.2 ≤ xs[k + 1]) := fun acc' h _ => h
      have hgr : g < wr.heap.size := Nat.lt_of_lt_of_le hg HR.out.2.2.2.2.size
      have hal := HR.out.2.1
      have HBw : Hid (Below w.heap.size w wr) := H2.out.1.trans (HR.out.2.2.2.2.mono HW2.out)
      have HOW : Hid (∀ W, Below wr.heap.size wr W → W.ownsRow w2.heap.size 3 1 u10 (spI acc).length (flatI (spI acc)) ∧ Below w2.heap.size w2 W) := fun W h => ⟨row_below HR.out.2.2.2.1 h, HR.out.2.2.2.2.trans (h.mono HR.out.2.2.2.2.size)⟩
      clear hat HR
      generalize xs[k]'(by omega) = x at *
      generalize xs[k + 1] = x' at *
      cases hp : P x
      · rw [hp, if_neg (by simp)] at HS
        have HC := HK2.out wr x HBw.out
        rw [hp] at HC
        have HC2 : Hid (Calls Try.prog 74 #[va, vb, .int .i64 what, .int .i64 x, .int .i64 y] wr fun e w' => e = .returned (.bool false) ∧ Below wr.heap.size wr w') := HC
        clear HC hp
        go_wp2_with fail
        refine HC2.out.mono ?_
        rintro e w3 ⟨rfl, hb3⟩
        have H3 : Hid (w3.ownsRow w2.heap.size 3 1 u10 (spI acc).length (flatI (spI acc)) ∧ Below w2.heap.size w2 w3) := HOW.out _ hb3
        clear hb3
        go_wp2
        exact ⟨⟨k + 1, acc, by go_num, by omega, HS.out, by omega, HN.out _ (fun s hs => by have := HO.out s hs; omega), H3.out.1, H3.out.2⟩, by simp [intOf]; omega⟩
      · rw [hp, if_pos rfl] at HS
        have HC := HK2.out wr x HBw.out
        rw [hp] at HC
        have HC2 : Hid (Calls Try.prog 74 #[va, vb, .int .i64 what, .int .i64 x, .int .i64 y] wr fun e w' => e = .returned (.bool true) ∧ Below wr.heap.size wr w') := HC
        clear HC hp
        go_wp2_with fail
        refine HC2.out.mono ?_
        rintro e w3 ⟨rfl, hb3⟩
        have H3 : Hid (∀ W, Below w3.heap.size w3 W → W.ownsRow w2.heap.size 3 1 u10 (spI acc).length (flatI (spI acc)) ∧ Below w2.heap.size w2 W) := fun W h => HOW.out _ (hb3.trans (h.mono hb3.size))
        have y0 : w3.cell? ⟨g, k, none⟩ = some (.int .i64 x) := (hb3.cell (p := ⟨g, k, none⟩) hgr).trans x0
        have y1 : w3.cell? ⟨g, k + 1, none⟩ = some (.int .i64 x') := (hb3.cell (p := ⟨g, k + 1, none⟩) hgr).trans x1
        have hg3 : g < w3.heap.size := Nat.lt_of_lt_of_le hgr hb3.size
        clear hb3 x0 x1 HOW HBw hgr
        obtain ⟨h3o, h3b⟩ := H3.out w3 (Below.refl _ _)
        obtain ⟨oo, co, rfl, hco, hgo⟩ := row_val h3o
        rcases List.eq_nil_or_concat acc with rfl | ⟨init, s, hcc⟩
        · clear h3o h3b hgo
          have es : (spI ([] : List Sp)).length = 0 := rfl
          rw [es] at H3 hco ⊢
          clear es
          go_wp2_with fail
          go_quiet (fail)
          have hbW : Below w3.heap.size w3 (w3.drewN nq) := below_drewN (Below.refl _ _)
          have e0 : (w3.drewN nq).cell? ⟨g, k, none⟩ = some (.int .i64 x) := y0
          have e1 : (w3.drewN nq).cell? ⟨g, k + 1, none⟩ = some (.int .i64 x') := y1
          have eg : g < (w3.drewN nq).heap.size := hg3
          generalize w3.drewN nq = W3 at *
          clear y0 y1 hg3
          have H4 : Hid (∀ W, Below W3.heap.size W3 W → W.ownsRow w2.heap.size 3 1 (.slice oo 0 co) 0 (flatI (spI ([] : List Sp))) ∧ Below w2.heap.size w2 W) := fun W h => H3.out _ (hbW.trans (h.mono hbW.size))
          clear hbW H3
          go_wp2_with fail
          refine R4.wp_region_lit 10 1 2 (fun _ b => .slice (some ⟨b, 0, none⟩) 2 2) (fun _ => .cells #[.int .i64 x, .int .i64 x'] 3) [75] (by kernel_rfl) (by kernel_rfl) rfl ?_ rfl ?_
          · intro k hk
            have hc : k = 0 := by omega
            subst hc; rfl
          apply Exists.intro
          refine ⟨fun bs ne => ?_, ?_, ?_⟩
          · have d0 := fun t : Gb W3 bs => (t.below.cell (p := ⟨g, k, none⟩) eg).trans e0
            have d1 := fun t : Gb W3 bs => (t.below.cell (p := ⟨g, k + 1, none⟩) eg).trans e1
            simp only [List.take_succ_cons, List.take_zero]
            repeat (go_big_quiet_step (fail))
            exact wpQuiet_nil rfl
          · intro i h1 h2
            have hc : i = 10 := by omega
            subst hc
            exact ⟨_, rfl, rfl, fun _ => by kernel_rfl⟩
          intro bl wx hbl hlo _
          obtain ⟨q1, q2⟩ := hlo 10 (by omega) (by omega)
          simp only [R4.layL]
          generalize bl 10 = g0 at *
          clear hlo
          obtain ⟨o5, b5⟩ := H4.out _ hbl
          obtain ⟨hi, hz0, hz1, hz2⟩ := HI.out
          refine wpAny_one 11 (by kernel_rfl) rfl ?_
          intro K hK
          refine step_append_lies wx (by rfl) _ _ 64 (by rfl) w2.heap.size 3 i0 (.int .i64 0) 1 8 Try.underlying64 hi hz0 hz1 hz2 rfl (by decide) (.slice oo 0 co) 0 (flatI (spI ([] : List Sp))) (by rfl) o5 ⟨g0, 0, none⟩ 2 2 [.int .i64 x, .int .i64 x'] (by rfl) rfl (cell_bk q2) (one2 _ _) (by decide) (by unfold maxLen; omega) (by omega) b5.size wx.heap.size rfl ?_
          intro h0 cap0 X1 hown hgrow _ _
          have HRel : Hid (∃ (k' : Nat) (acc : List Sp), Value.int .i64 ((k : Int) + 1) = .int .i64 k' ∧ k' ≤ xs.length ∧ Hid (SpI w2 P xs k' acc (.slice (some ⟨h0, 0, none⟩) (0 + 2) cap0) X1)) := by
            refine ⟨k + 1, ([] : List Sp) ++ [(x, x')], by go_num, by omega, HS.out, by simp, HN.out _ ?_, ?_, app_below b5 o5 (Nat.le_refl _) hgrow⟩
            · intro q hq
              rcases List.mem_append.1 hq with hq | hq
              · have := HO.out q hq; omega
              · simp at hq; subst hq; exact Int.le_refl _
            · rw [spI_app, flatI_app, List.length_append]
              exact hown
          clear hown hgrow o5 b5 q1 q2 hbl hi hz0 hz1 hz2
          refine hK _ _ ?_
          clear hK K
          refine wpAny_one 12 (by kernel_rfl) rfl ?_
          intro K hK
          go_simp
          refine hK _ _ ?_
          clear hK K
          refine wpAny_done (by kernel_rfl) ?_ _
          go_wp2
          go_roundw
          case rel => exact HRel.out
          case measure => simp [intOf]; omega
        · rw [List.concat_eq_append] at hcc
          subst hcc
          obtain ⟨m, hm⟩ : ∃ m, m = init.length * 2 + 1 := ⟨_, rfl⟩
          have hl : (spI (init ++ [s])).length = m + 1 := by rw [spI_len, hm]; simp; omega
          have hmk : m + 1 ≤ 2 * k := by simp at hal; omega
          rw [hl] at hco hgo h3o H3
          obtain ⟨g2, rfl, hg2, hg4⟩ := hgo (by omega)
          have hcel : w3.cell? ⟨g2, m, none⟩ = some (.int .i64 s.2) := by
            rw [own_cell h3o m (by omega)]
            have := (spI_at (init ++ [s]) init.length (by simp)).2
            rw [← hm] at this
            unfold flatI
            rw [List.getElem?_map, this]
            simp
          have hfr := own_frozen h3o m
          have HM : Hid (m = init.length * 2 + 1 ∧ (spI (init ++ [s])).length = m + 1) := ⟨hm, hl⟩
          have hso := HO.out s (by simp)
          clear h3o h3b hgo hm hl
          rw [HM.out.2]
          by_cases c : s.2 = x
          · have HRun : Hid (runA (init ++ [s]) x x' = init ++ [(s.1, x')]) := runA_end c hord
            rw [c] at hcel
            have HRel : Hid (∀ W, Below w3.heap.size w3 W → ∃ (k' : Nat) (acc : List Sp), Value.int .i64 ((k : Int) + 1) = .int .i64 k' ∧ k' ≤ xs.length ∧ Hid (SpI w2 P xs k' acc (.slice (some ⟨g2, 0, none⟩) (m + 1) co) (W.setCell ⟨g2, m, none⟩ (.int .i64 x')))) := by
              intro W hb
              obtain ⟨ho, hB⟩ := H3.out W hb
              refine ⟨k + 1, init ++ [(s.1, x')], by go_num, by omega, by rw [← HRun.out]; exact HS.out, by simp at hal ⊢; omega, HN.out _ ?_, ?_, hB.setCell (p := ⟨g2, m, none⟩) (by simpa using hg2) _⟩
              · intro q hq
                rcases List.mem_append.1 hq with hq | hq
                · have := HO.out q (by simp [hq]); omega
                · simp at hq; subst hq; exact Int.le_refl _
              · have := own_set ho m (.int .i64 x')
                rw [flatI_set, HM.out.1, spI_set, ← HM.out.1] at this
                have e : (spI (init ++ [(s.1, x')])).length = m + 1 := by rw [spI_len, HM.out.1]; simp; omega
                rw [e]
                exact this
            have hso' : True := trivial
            clear c hso hso' HM H3 HO HS HRun
            go_wp2_with fail
            go_quiet (fail)
            have HbW : Hid (Below w3.heap.size w3 (w3.drewN nq)) := below_drewN (Below.refl _ _)
            go_wp2
            go_roundw
            case rel => exact HRel.out _ HbW.out
            case measure => simp [intOf]; omega
          · have HRun : Hid (runA (init ++ [s]) x x' = (init ++ [s]) ++ [(x, x')]) := runA_new (by omega)
            go_wp2_with fail
            go_quiet (fail)
            have hbW : Below w3.heap.size w3 (w3.drewN nq) := below_drewN (Below.refl _ _)
            have e0 : (w3.drewN nq).cell? ⟨g, k, none⟩ = some (.int .i64 x) := y0
            have e1 : (w3.drewN nq).cell? ⟨g, k + 1, none⟩ = some (.int .i64 x') := y1
            have eg : g < (w3.drewN nq).heap.size := hg3
            generalize w3.drewN nq = W3 at *
            clear y0 y1 hg3
            have H4 : Hid (∀ W, Below W3.heap.size W3 W → W.ownsRow w2.heap.size 3 1 (.slice (some ⟨g2, 0, none⟩) (m + 1) co) (m + 1) (flatI (spI (init ++ [s]))) ∧ Below w2.heap.size w2 W) := fun W h => H3.out _ (hbW.trans (h.mono hbW.size))
            clear hbW H3
            go_wp2_with fail
            refine R4.wp_region_lit 10 1 2 (fun _ b => .slice (some ⟨b, 0, none⟩) 2 2) (fun _ => .cells #[.int .i64 x, .int .i64 x'] 3) [75] (by kernel_rfl) (by kernel_rfl) rfl ?_ rfl ?_
            · intro k hk
              have hc : k = 0 := by omega
              subst hc; rfl
            apply Exists.intro
            refine ⟨fun bs ne => ?_, ?_, ?_⟩
            · have d0 := fun t : Gb W3 bs => (t.below.cell (p := ⟨g, k, none⟩) eg).trans e0
              have d1 := fun t : Gb W3 bs => (t.below.cell (p := ⟨g, k + 1, none⟩) eg).trans e1
              simp only [List.take_succ_cons, List.take_zero]
              repeat (go_big_quiet_step (fail))
              exact wpQuiet_nil rfl
            · intro i h1 h2
              have hc : i = 10 := by omega
              subst hc
              exact ⟨_, rfl, rfl, fun _ => by kernel_rfl⟩
            intro bl wx hbl hlo _
            obtain ⟨q1, q2⟩ := hlo 10 (by omega) (by omega)
            simp only [R4.layL]
            generalize bl 10 = g0 at *
            clear hlo
            obtain ⟨o5, b5⟩ := H4.out _ hbl
            obtain ⟨hi, hz0, hz1, hz2⟩ := HI.out
            refine wpAny_one 11 (by kernel_rfl) rfl ?_
            intro K hK
            refine step_append_lies wx (by rfl) _ _ 64 (by rfl) w2.heap.size 3 i0 (.int .i64 0) 1 8 Try.underlying64 hi hz0 hz1 hz2 rfl (by decide) (.slice (some ⟨g2, 0, none⟩) (m + 1) co) (m + 1) (flatI (spI (init ++ [s]))) (by rfl) o5 ⟨g0, 0, none⟩ 2 2 [.int .i64 x, .int .i64 x'] (by rfl) rfl (cell_bk q2) (one2 _ _) (by decide) (by unfold maxLen; omega) (by omega) b5.size wx.heap.size rfl ?_
            intro h0 cap0 X1 hown hgrow _ _
            have HRel : Hid (∃ (k' : Nat) (acc : List Sp), Value.int .i64 ((k : Int) + 1) = .int .i64 k' ∧ k' ≤ xs.length ∧ Hid (SpI w2 P xs k' acc (.slice (some ⟨h0, 0, none⟩) ((m + 1) + 2) cap0) X1)) := by
              refine ⟨k + 1, (init ++ [s]) ++ [(x, x')], by go_num, by omega, by rw [← HRun.out]; exact HS.out, by simp; simp at hal; omega, HN.out _ ?_, ?_, app_below b5 o5 (Nat.le_refl _) hgrow⟩
              · intro q hq
                rcases List.mem_append.1 hq with hq | hq
                · have := HO.out q hq; omega
                · simp at hq; subst hq; exact Int.le_refl _
              · rw [spI_app, flatI_app, List.length_append]
                exact by rw [HM.out.2]; exact hown
            clear hown hgrow o5 b5 q1 q2 hbl hi hz0 hz1 hz2
            refine hK _ _ ?_
            clear hK K
            refine wpAny_one 12 (by kernel_rfl) rfl ?_
            intro K hK
            go_simp
            refine hK _ _ ?_
            clear hK K
            refine wpAny_done (by kernel_rfl) ?_ _
            go_wp2
            go_roundw
            case rel => exact HRel.out
            case measure => simp [intOf]; omega
    · have HF : Hid (wr.ownsRow w2.heap.size 3 1 u10 (spI S).length (flatI (spI S)) ∧ Below w2.heap.size w2 wr) := by
        have h := HR.out
        have e := h.1
        rw [spF_done P hlt] at e
        rw [← HROW.out, ← e]
        exact h.2.2.2
      have ik : ¬ (k : Int) + 1 < xs.length := by omega
      clear HR
      go_wp2
      go_ret
      exact ⟨_, rfl, row_weaken HF.out.1 HW2.out, H2.out.1.trans (HF.out.2.mono HW2.out)⟩

end Go.Proofs.Ytagkbpceiedikaa
