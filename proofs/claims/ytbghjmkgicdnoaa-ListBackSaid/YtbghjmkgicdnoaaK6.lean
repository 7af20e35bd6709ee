/-
  Texts of this claim, one behind the other: what each is about stands ahead of it.
-/
import Derived.Test.YtbghjmkgicdnoaaK5
/-
  Contracts of package region: the bands of what is left of two lists.
-/
namespace Go.Proofs.Ytbghjmkgicdnoaa
open Go.RowKit Go.Sort Go.Shelf

/-- A slice that holds bands. -/
def BdL (w : World) (v : Value) (l : List Bd) : Prop := ∃ oa cap, v = .slice oa l.length cap ∧ l.length ≤ cap ∧ (0 < l.length → ∃ g, oa = some ⟨g, 0, none⟩ ∧ g < w.heap.size ∧ ∀ i (h : i < l.length), w.cell? ⟨g, i * 3, none⟩ = some (.int .i64 l[i].1) ∧ w.cell? ⟨g, i * 3 + 1, none⟩ = some (.int .i64 l[i].2.1) ∧ ∃ sv, w.cell? ⟨g, i * 3 + 2, none⟩ = some sv ∧ SpL w sv l[i].2.2)
theorem Mt.at {w : World} : ∀ {bv : List Bv} {l : List Bd}, Mt w bv l → ∀ i (h : i < bv.length) (h' : i < l.length), bv[i].1 = l[i].1 ∧ bv[i].2.1 = l[i].2.1 ∧ SpL w bv[i].2.2 l[i].2.2
  | _ :: _, _ :: _, h, 0, _, _ => h.1
  | _ :: bt, _ :: dt, h, i + 1, h1, h2 => Mt.at h.2 i (by simpa using h1) (by simpa using h2)
theorem Mt.app {w : World} : ∀ {bv bv' : List Bv} {l l' : List Bd}, Mt w bv l → Mt w bv' l' → Mt w (bv ++ bv') (l ++ l')
  | [], _, [], _, _, h => h
  | _ :: _, _, _ :: _, _, h, h' => ⟨h.1, Mt.app h.2 h'⟩
theorem Mt.rev {w : World} : ∀ {bv : List Bv} {l : List Bd}, Mt w bv l → Mt w bv.reverse l.reverse
  | [], [], _ => trivial
  | _ :: _, _ :: _, h => by
    rw [List.reverse_cons, List.reverse_cons]
    exact Mt.app (Mt.rev h.2) ⟨h.1, trivial⟩
/-- Two bands that follow one another are told apart. -/
theorem band_last {w : World} {d : Bd} {ds : List Bd} {bv : List Bv} (h : Mt w bv (d :: ds)) : ∃ es sv, bv = (d.1, d.2.1, sv) :: es ∧ SpL w sv d.2.2 ∧ Mt w es ds := by
  cases bv with
  | nil => exact h.elim
  | cons e es =>
    obtain ⟨⟨h1, h2, h3⟩, h4⟩ := h
    refine ⟨es, e.2.2, ?_, h3, h4⟩
    rw [← h1, ← h2]
theorem mt_nil {w : World} {bv : List Bv} (h : Mt w bv []) : bv = [] := by
  cases bv with
  | nil => rfl
  | cons e es => exact h.elim
theorem own_bk {w : World} {base : Nat} {e : TypeId} {size n g cap : Nat} {xs : List Value} (h : w.ownsRow base e size (.slice (some ⟨g, 0, none⟩) n cap) n xs) : ∃ cs, Bk w g cs e := by
  obtain ⟨_, ⟨h, _⟩ | ⟨g', cap', cur, h, _, hc, _⟩⟩ := h
  · cases h
  · injection h with h1 _ _
    injection h1 with h1
    injection h1 with h1 _ _
    subst h1
    exact ⟨cur, hc⟩

def BInv (row : Int → List Sp) (R : List Bd) (ys : List Int) (w : World) (m : Nat) (acc : List Bd) (bv : List Bv) (v : Value) (wr : World) : Prop :=
  m ≤ ys.length ∧ acc.length ≤ m ∧ bandsF row (ys.drop m) acc = R ∧ wr.ownsRow w.heap.size 102 3 v bv.length (flatV bv.reverse) ∧ Mt wr bv acc ∧ Below w.heap.size w wr ∧ (∀ d ∈ acc, 0 < d.2.2.length ∧ d.2.2.length ≤ 300000)

set_option maxRecDepth 10000 in
set_option maxHeartbeats 16000000 in
theorem bandsC_any (k : Bool) (a b LA LB : List Rc) (va vb : Value) (w : World) (hva : LsR w va LA) (hvb : LsR w vb LB) (hsA : SortX (-16384) LA) (hmA : ∀ q, q ∈ LA ↔ q ∈ a ∧ keepE q = true) (hsB : SortX (-16384) LB) (hmB : ∀ q, q ∈ LB ↔ q ∈ b ∧ keepE q = true) (hlA : LA.length ≤ 100000) (hlB : LB.length ≤ 100000) (hk : okW k = true) :
    Calls Try.prog 79 #[va, vb, .func (.func (fnW k)) #[] #[]] w fun e w' => ∃ u, e = .returned u ∧ BdL w' u (bandsR k a b).reverse ∧ Below w.heap.size w w' := by
  have HE : Hid (Calls Try.prog 86 #[va, vb] w fun e w' => ∃ (u : Value) (ys : List Int), e = .returned u ∧ IsL w' u ys ∧ Inc ys ∧ (∀ n, n ∈ ys ↔ n ∈ ysL (LA ++ LB)) ∧ ys.length ≤ 2000000 ∧ Below w.heap.size w w') :=
    edges_any LA LB va vb w hva hvb (fun r hr => ((hmA r).1 hr).2) (fun r hr => ((hmB r).1 hr).2) (by omega) (by omega)
  have HYs : Hid (∀ ys, Inc ys → (∀ n, n ∈ ys ↔ n ∈ ysL (LA ++ LB)) → bandsF (rowW k a b) ys [] = bandsR k a b) := by
    intro ys h1 h2
    unfold bandsR
    congr 1
    refine inc_unique h1 (edges_inc (a ++ b)).1 fun n => ?_
    rw [h2, (edges_inc (a ++ b)).2, ysL_mem]
    unfold isEdge
    constructor
    · rintro ⟨r, hr, h⟩
      rcases List.mem_append.1 hr with hr | hr
      · exact ⟨r, by simp [((hmA r).1 hr).1], ((hmA r).1 hr).2, h⟩
      · exact ⟨r, by simp [((hmB r).1 hr).1], ((hmB r).1 hr).2, h⟩
    · rintro ⟨r, hr, hk, h⟩
      rcases List.mem_append.1 hr with hr | hr
      · exact ⟨r, by simp [(hmA r).2 ⟨hr, hk⟩], h⟩
      · exact ⟨r, by simp [(hmB r).2 ⟨hr, hk⟩], h⟩
  have HRa : Hid (∀ y W, Below w.heap.size w W → Calls Try.prog 87 #[va, .int .i64 y] W fun e w' => ∃ u, e = .returned u ∧ SpL w' u (rowF a y) ∧ Below W.heap.size W w') := fun y W hb => by
    have := runs_any LA va y W (hva.below hb) (fun r hr => ((hmA r).1 hr).2) (by omega)
    rwa [row_eq hsA hmA] at this
  have HRb : Hid (∀ y W, Below w.heap.size w W → Calls Try.prog 87 #[vb, .int .i64 y] W fun e w' => ∃ u, e = .returned u ∧ SpL w' u (rowF b y) ∧ Below W.heap.size W w') := fun y W hb => by
    have := runs_any LB vb y W (hvb.below hb) (fun r hr => ((hmB r).1 hr).2) (by omega)
    rwa [row_eq hsB hmB] at this
  have la : ∀ y, (rowF a y).length ≤ 100000 := fun y => by rw [← row_eq hsA hmA]; have := runs_len y LA []; simp at this; omega
  have lb : ∀ y, (rowF b y).length ≤ 100000 := fun y => by rw [← row_eq hsB hmB]; have := runs_len y LB []; simp at this; omega
  have HWt : Hid (∀ y v u W, SpL W v (rowF a y) → SpL W u (rowF b y) → Calls Try.prog (fnW k) #[v, u] W fun e w' => ∃ z, e = .returned z ∧ SpL w' z (rowW k a b y) ∧ Below W.heap.size W w') := fun y v u W h1 h2 => want_any k _ _ v u W h1 h2 (by have := la y; omega) (by have := lb y; omega) hk
  have HLn : Hid (∀ y, (rowW k a b y).length ≤ 300000) := fun y => by
    have h1 := want_len k (rowF a y) (rowF b y)
    have h2 := la y
    have h3 := lb y
    show (wantF k (rowF a y) (rowF b y)).length ≤ 300000
    omega
  obtain ⟨i0, hi, hz0, hz1, hz2⟩ := info_parts info_band
  have HI : Hid (Try.prog.info? 102 = some i0 ∧ i0.zero = some (.agg #[.int .i64 0, .int .i64 0, .slice none 0 0]) ∧ i0.size = 3 ∧ i0.bytes = 40) := ⟨hi, hz0, hz1, hz2⟩
  obtain ⟨oa, ca, rfl, hca, _⟩ := hva
  obtain ⟨ob, cb, rfl, hcb, _⟩ := hvb
  clear hi hz0 hz1 hz2 hsA hmA hsB hmB la lb hk
  generalize rowW k a b = row at *
  generalize rowF a = ra at *
  generalize rowF b = rb at *
  generalize bandsR k a b = R at *
  unfold fnW at *
  cases k
  all_goals
    simp only [Bool.false_eq_true, if_false, if_true] at HWt ⊢
    go_enter Try.func79, Try.ntmps79
    go_wp2_with fail
    refine HE.out.mono ?_
    rintro e w1 ⟨uy, ys, rfl, hys, hinc, hmem, hyl, hb1⟩
    have HR : Hid (bandsF row ys [] = R) := HYs.out ys hinc hmem
    have HY1 : Hid (IsL w1 uy ys ∧ Below w.heap.size w w1) := ⟨hys, hb1⟩
    obtain ⟨oy, cy, rfl, hcy, hgy⟩ := hys
    have HGy : Hid (0 < ys.length → ∃ g, oy = some ⟨g, 0, none⟩ ∧ g < w1.heap.size ∧ ∀ i (h : i < ys.length), w1.cell? ⟨g, i, none⟩ = some (.int .i64 ys[i])) := hgy
    clear hinc hmem hgy hb1
    go_wp2_with fail
    go_loopw [7, 9] (fun v i wr => ∃ (m : Nat) (acc : List Bd) (bv : List Bv), i = .int .i64 ((m : Int) + 1) ∧ BInv row R ys w1 m acc bv v wr) (fun _ i _ => ys.length - (intOf i).toNat)
    case atStart => exact ⟨0, [], [], rfl, ⟨Nat.zero_le _, Nat.le_refl _, HR.out, World.ownsRow_nil _ _ _ _, trivial, Below.refl _ _, fun d hd => by cases hd⟩⟩
    case round =>
      obtain ⟨m, acc, bv, rfl, hI⟩ := hrel
      have HV : Hid (BInv row R ys w1 m acc bv u7 wr) := hI
      obtain ⟨hml, hal, hrun, hown, hmt, hB1, hne⟩ := hI
      have hbl : bv.length = acc.length := hmt.len
      by_cases hlt : m + 1 < ys.length
      · obtain ⟨gy, rfl, hgy1, hgy2⟩ := HGy.out (by omega)
        have c0 := hgy2 m (by omega)
        have c1 := hgy2 (m + 1) hlt
        rw [← hB1.cell (p := ⟨gy, m, none⟩) hgy1] at c0
        rw [← hB1.cell (p := ⟨gy, m + 1, none⟩) hgy1] at c1
        have hd : ys.drop m = ys[m] :: ys[m + 1] :: ys.drop (m + 2) := by rw [List.drop_eq_getElem_cons (by omega), List.drop_eq_getElem_cons hlt]
        have hd2 : ys.drop (m + 1) = ys[m + 1] :: ys.drop (m + 2) := List.drop_eq_getElem_cons hlt
        rw [hd, bandsF, ← hd2] at hrun
        generalize ys[m] = t at *
        generalize ys[m + 1] = bt at *
        have HBw : Hid (∀ W, Below wr.heap.size wr W → Below w.heap.size w W) := fun W hb => HY1.out.2.trans ((HV.out.2.2.2.2.2.1.trans (hb.mono HV.out.2.2.2.2.2.1.size)).mono HY1.out.2.size)
        clear hgy2 hown hmt hd hd2
        go_wp2_with fail
        go_quiet (fail)
        obtain ⟨V, hV⟩ : ∃ V, V = wr.drewN nq := ⟨_, rfl⟩
        have HbV : Hid (Below wr.heap.size wr V) := by unfold Hid; rw [hV]; exact below_drewN (Below.refl _ wr)
        rw [← hV]
        clear hV c0 c1
        go_wp2_with fail
        refine (HRa.out t V (HBw.out V HbV.out)).mono ?_
        rintro e w2 ⟨u2, rfl, hs2, hb2⟩
        have H2 : Hid (SpL w2 u2 (ra t) ∧ Below wr.heap.size wr w2) := ⟨hs2, HbV.out.trans (hb2.mono HbV.out.size)⟩
        clear hs2 hb2
        go_wp2_with fail
        refine (HRb.out t w2 (HBw.out w2 H2.out.2)).mono ?_
        rintro e w3 ⟨u3, rfl, hs3, hb3⟩
        have H3 : Hid (SpL w3 u2 (ra t) ∧ SpL w3 u3 (rb t) ∧ Below wr.heap.size wr w3) := ⟨H2.out.1.below hb3, hs3, H2.out.2.trans (hb3.mono H2.out.2.size)⟩
        clear hs3 hb3
        go_wp2_with fail
        refine (HWt.out t u2 u3 w3 H3.out.1 H3.out.2.1).mono ?_
        rintro e w4 ⟨z, rfl, hs4, hb4⟩
        have hrl := HLn.out t
        generalize row t = sp at *
        obtain ⟨oz, cz, rfl, hcz, hoz⟩ := id hs4
        have H4 : Hid (SpL w4 (.slice oz sp.length cz) sp ∧ Below wr.heap.size wr w4) := ⟨hs4, H3.out.2.2.trans (hb4.mono H3.out.2.2.size)⟩
        have HW4 : Hid (w4.ownsRow w1.heap.size 102 3 u7 bv.length (flatV bv.reverse) ∧ Mt w4 bv acc ∧ Below w1.heap.size w1 w4 ∧ SpL w4 (.slice oz sp.length cz) sp) := ⟨row_below HV.out.2.2.2.1 H4.out.2, HV.out.2.2.2.2.1.below H4.out.2, hB1.trans (H4.out.2.mono hB1.size), H4.out.1⟩
        clear hs4 hb4 hoz hB1
        by_cases hsp : sp.length = 0
        · have hsn : sp = [] := List.length_eq_zero_iff.1 hsp
          have HRel : Hid (∃ (m' : Nat) (acc : List Bd) (bv : List Bv), Value.int .i64 ((m : Int) + 1 + 1) = .int .i64 ((m' : Int) + 1) ∧ BInv row R ys w1 m' acc bv u7 w4) := by
            refine ⟨m + 1, acc, bv, by go_num, by omega, by omega, ?_, HW4.out.1, HW4.out.2.1, HW4.out.2.2.1, hne⟩
            rw [← hrun, hsn]
            cases acc <;> simp [bandS]
          rw [hsp]
          go_wp2
          exact ⟨HRel.out, by simp [intOf]; omega⟩
        · have hspn : ¬ sp = [] := fun h => hsp (by rw [h]; rfl)
          have hsz : ((sp.length : Int) == 0) = false := by simp; exact hspn
          cases acc with
          | nil =>
            obtain rfl := mt_nil HV.out.2.2.2.2.1
            have HRun : Hid (bandsF row (ys.drop (m + 1)) [(t, bt, sp)] = R) := by unfold Hid; rw [← hrun, bandS, if_neg hspn]
            obtain ⟨o7, c7, rfl, hc7, ho7⟩ := row_val HW4.out.1
            obtain ⟨W, hW⟩ : ∃ W, W = w4 := ⟨_, rfl⟩
            have HW : Hid (W.ownsRow w1.heap.size 102 3 (.slice o7 0 c7) 0 (flatV ([] : List Bv).reverse) ∧ Mt W [] [] ∧ Below w1.heap.size w1 W ∧ SpL W (.slice oz sp.length cz) sp) := by unfold Hid; rw [hW]; exact HW4.out
            rw [← hW]
            clear hW HW4 ho7 hc7
            obtain ⟨hi, hz0, hz1, hz2⟩ := HI.out
            have hc3 : Hid (0 + 1 ≤ maxLen) := by unfold Hid maxLen; omega
            have hc4 : Hid ((0 + 1) * 40 ≤ 140737488355328) := by unfold Hid; omega
            have HA : Hid (∀ o, (W.alloc o).ownsRow w1.heap.size 102 3 (.slice o7 0 c7) 0 (flatV ([] : List Bv).reverse) ∧ Below w1.heap.size w1 (W.alloc o)) := fun o => by
              have ho : Below W.heap.size W (W.alloc o) := (Below.refl _ W).alloc (Nat.le_refl _) o
              exact ⟨row_below HW.out.1 ho, HW.out.2.2.1.trans (ho.mono HW.out.2.2.1.size)⟩
            have HM : Hid (∀ o, Mt (W.alloc o) [] [] ∧ SpL (W.alloc o) (.slice oz sp.length cz) sp) := fun o => by
              have ho : Below W.heap.size W (W.alloc o) := (Below.refl _ W).alloc (Nat.le_refl _) o
              exact ⟨HW.out.2.1.below ho, HW.out.2.2.2.below ho⟩
            go_wp2_with (at_builtin; refine wpList_append_own _ rfl _ _ 97 rfl w1.heap.size 102 i0 (.agg #[.int .i64 0, .int .i64 0, .slice none 0 0]) 3 40 Try.underlying97 hi hz0 hz1 hz2 rfl (by decide) (.slice o7 0 c7) 0 (flatV ([] : List Bv).reverse) rfl (HA.out _).1 _ 1 1 [.int .i64 t, .int .i64 bt, .slice oz sp.length cz] rfl rfl (cell_threeB _ _ _ _ _ _ (by simp)) (one3 _ _ _ _ _) hc3.out hc4.out (HA.out _).2.size ?_)
            intro v' w6 hown' hgrow hnil
            have HRel : Hid (∃ (m' : Nat) (acc : List Bd) (bv : List Bv), Value.int .i64 ((m : Int) + 1 + 1) = .int .i64 ((m' : Int) + 1) ∧ BInv row R ys w1 m' acc bv v' w6) := by
              refine ⟨m + 1, (t, bt, sp) :: [], (t, bt, .slice oz sp.length cz) :: [], by go_num, by omega, by simp, HRun.out, ?_, ⟨⟨rfl, rfl, (HM.out _).2.grown (HA.out _).1 (by decide) hgrow⟩, (HM.out _).1.map fun _ _ q => q.grown (HA.out _).1 (by decide) hgrow⟩, app_below (HA.out _).2 (HA.out _).1 (Nat.le_refl _) hgrow, fun d hd => ?_⟩
              · rw [List.reverse_cons, flatV_app, List.length_cons]
                exact hown'
              · rcases List.mem_cons.1 hd with rfl | hd
                · exact ⟨Nat.pos_of_ne_zero hsp, hrl⟩
                · exact hne d hd
            clear hown' hgrow hnil hi hz0 hz1 hz2
            go_wp2
            exact ⟨HRel.out, by simp [intOf]; omega⟩
          | cons d ds =>
            obtain ⟨es, sv, hbv, hsv, hes⟩ := band_last HV.out.2.2.2.2.1
            subst hbv
            have hlen : ((d.1, d.2.1, sv) :: es).length = es.length + 1 := by simp
            have hdn := hne d (by simp)
            obtain ⟨o7, c7, rfl, hc7, ho7⟩ := row_val HW4.out.1
            rw [hlen] at HW4 hc7 ho7 ⊢
            obtain ⟨g7, rfl, hg7, hg8⟩ := ho7 (by omega)
            have hlr : es.reverse.length = es.length := List.length_reverse
            have hrv : flatV ((d.1, d.2.1, sv) :: es).reverse = flatV (es.reverse ++ [(d.1, d.2.1, sv)]) := by rw [List.reverse_cons]
            rw [hrv] at HW4
            have q1 : w4.cell? ⟨g7, es.length * 3 + 1, none⟩ = some (.int .i64 d.2.1) := by
              rw [own_cell HW4.out.1 _ (by omega), ← hlr, (flatV_at (es.reverse ++ [(d.1, d.2.1, sv)]) es.reverse.length (by simp)).2.1]
              simp
            have q2 : w4.cell? ⟨g7, es.length * 3 + 2, none⟩ = some sv := by
              rw [own_cell HW4.out.1 _ (by omega), ← hlr, (flatV_at (es.reverse ++ [(d.1, d.2.1, sv)]) es.reverse.length (by simp)).2.2]
              simp
            have q3 := own_frozen HW4.out.1 (es.length * 3 + 1)
            obtain ⟨osv, csv, rfl, hcsv, hosv⟩ := id hsv
            have HSv : Hid (SpL w4 (.slice osv d.2.2.length csv) d.2.2) := HW4.out.2.1.1.2.2
            clear hsv hosv
            by_cases hdt : d.2.1 = t
            · have HEq : Hid (Calls Try.prog 88 #[.slice osv d.2.2.length csv, .slice oz sp.length cz] w4 fun e w' => e = .returned (.bool (decide (d.2.2 = sp))) ∧ Below w4.heap.size w4 w') := eqsp_any d.2.2 sp _ _ w4 HSv.out H4.out.1 hdn.1 (by omega) (by omega) (by omega)
              have hdt' : (d.2.1 == t) = true := by simp [hdt]
              by_cases hes2 : d.2.2 = sp
              · rw [decide_eq_true hes2] at HEq
                have HRun : Hid (bandsF row (ys.drop (m + 1)) ((d.1, bt, d.2.2) :: ds) = R) := by unfold Hid; rw [← hrun, bandS, if_neg hspn, if_pos ⟨hdt, hes2⟩]
                subst hes2
                clear hdt
                go_wp2_with fail
                refine HEq.out.mono ?_
                rintro e w5 ⟨rfl, hb5⟩
                have p1 := (hb5.cell (p := ⟨g7, es.length * 3 + 1, none⟩) hg8).trans q1
                have p3 := own_frozen (row_below HW4.out.1 hb5) (es.length * 3 + 1)
                have HRel : Hid (∃ (m' : Nat) (acc : List Bd) (bv : List Bv), Value.int .i64 ((m : Int) + 1 + 1) = .int .i64 ((m' : Int) + 1) ∧ BInv row R ys w1 m' acc bv (.slice (some ⟨g7, 0, none⟩) (es.length + 1) c7) (w5.setCell ⟨g7, es.length * 3 + 1, none⟩ (.int .i64 bt))) := by
                  have r5 := row_below HW4.out.1 hb5
                  obtain ⟨cs, hbk⟩ := own_bk r5
                  have m5 := HW4.out.2.1.below hb5
                  have b5 := HW4.out.2.2.1.trans (hb5.mono HW4.out.2.2.1.size)
                  have fo : ∀ v l, SpL w5 v l → SpL (w5.setCell ⟨g7, es.length * 3 + 1, none⟩ (.int .i64 bt)) v l := fun v l h => h.other hbk (by decide) _ _
                  refine ⟨m + 1, (d.1, bt, d.2.2) :: ds, (d.1, bt, .slice osv d.2.2.length csv) :: es, by go_num, by omega, by simp at hal ⊢; omega, HRun.out, ?_, ⟨⟨rfl, rfl, fo _ _ m5.1.2.2⟩, m5.2.map fo⟩, b5.setCell (p := ⟨g7, _, none⟩) (by simpa using hg7) _, fun x hx => ?_⟩
                  · have := own_set r5 (es.length * 3 + 1) (.int .i64 bt)
                    rw [← hlr, flatV_set] at this
                    rw [List.reverse_cons, List.length_cons, ← hlr]
                    exact this
                  · rcases List.mem_cons.1 hx with rfl | hx
                    · exact hdn
                    · exact hne x (by simp [hx])
                clear hb5 q1 q2 q3
                go_wp2
                exact ⟨HRel.out, by simp [intOf]; omega⟩
              · rw [decide_eq_false hes2] at HEq
                have HRun : Hid (bandsF row (ys.drop (m + 1)) ((t, bt, sp) :: d :: ds) = R) := by unfold Hid; rw [← hrun, bandS, if_neg hspn, if_neg (fun h => hes2 h.2)]
                clear hdt
                go_wp2_with fail
                refine HEq.out.mono ?_
                rintro e w5 ⟨rfl, hb5⟩
                obtain ⟨W, hW⟩ : ∃ W, W = w5 := ⟨_, rfl⟩
                have HW : Hid (W.ownsRow w1.heap.size 102 3 (.slice (some ⟨g7, 0, none⟩) (es.length + 1) c7) (es.length + 1) (flatV (es.reverse ++ [(d.1, d.2.1, .slice osv d.2.2.length csv)])) ∧ Mt W ((d.1, d.2.1, .slice osv d.2.2.length csv) :: es) (d :: ds) ∧ Below w1.heap.size w1 W ∧ SpL W (.slice oz sp.length cz) sp) := by unfold Hid; rw [hW]; exact ⟨row_below HW4.out.1 hb5, HW4.out.2.1.below hb5, HW4.out.2.2.1.trans (hb5.mono HW4.out.2.2.1.size), HW4.out.2.2.2.below hb5⟩
                rw [← hW]
                clear hW hb5 q1 q2 q3
                obtain ⟨hi, hz0, hz1, hz2⟩ := HI.out
                have hc3 : Hid (es.length + 1 + 1 ≤ maxLen) := by unfold Hid maxLen; omega
                have hc4 : Hid ((es.length + 1 + 1) * 40 ≤ 140737488355328) := by unfold Hid; omega
                have HA : Hid (∀ o, (W.alloc o).ownsRow w1.heap.size 102 3 (.slice (some ⟨g7, 0, none⟩) (es.length + 1) c7) (es.length + 1) (flatV (es.reverse ++ [(d.1, d.2.1, .slice osv d.2.2.length csv)])) ∧ Below w1.heap.size w1 (W.alloc o)) := fun o => by
                  have ho : Below W.heap.size W (W.alloc o) := (Below.refl _ W).alloc (Nat.le_refl _) o
                  exact ⟨row_below HW.out.1 ho, HW.out.2.2.1.trans (ho.mono HW.out.2.2.1.size)⟩
                have HM : Hid (∀ o, Mt (W.alloc o) ((d.1, d.2.1, .slice osv d.2.2.length csv) :: es) (d :: ds) ∧ SpL (W.alloc o) (.slice oz sp.length cz) sp) := fun o => by
                  have ho : Below W.heap.size W (W.alloc o) := (Below.refl _ W).alloc (Nat.le_refl _) o
                  exact ⟨HW.out.2.1.below ho, HW.out.2.2.2.below ho⟩
                go_wp2_with (at_builtin; refine wpList_append_own _ rfl _ _ 97 rfl w1.heap.size 102 i0 (.agg #[.int .i64 0, .int .i64 0, .slice none 0 0]) 3 40 Try.underlying97 hi hz0 hz1 hz2 rfl (by decide) (.slice (some ⟨g7, 0, none⟩) (es.length + 1) c7) (es.length + 1) (flatV (es.reverse ++ [(d.1, d.2.1, .slice osv d.2.2.length csv)])) rfl (HA.out _).1 _ 1 1 [.int .i64 t, .int .i64 bt, .slice oz sp.length cz] rfl rfl (cell_threeB _ _ _ _ _ _ (by simp)) (one3 _ _ _ _ _) hc3.out hc4.out (HA.out _).2.size ?_)
                intro v' w6 hown' hgrow hnil
                have HRel : Hid (∃ (m' : Nat) (acc : List Bd) (bv : List Bv), Value.int .i64 ((m : Int) + 1 + 1) = .int .i64 ((m' : Int) + 1) ∧ BInv row R ys w1 m' acc bv v' w6) := by
                  refine ⟨m + 1, (t, bt, sp) :: d :: ds, (t, bt, .slice oz sp.length cz) :: (d.1, d.2.1, .slice osv d.2.2.length csv) :: es, by go_num, by omega, by simp at hal ⊢; omega, HRun.out, ?_, ⟨⟨rfl, rfl, (HM.out _).2.grown (HA.out _).1 (by decide) hgrow⟩, (HM.out _).1.map fun _ _ q => q.grown (HA.out _).1 (by decide) hgrow⟩, app_below (HA.out _).2 (HA.out _).1 (Nat.le_refl _) hgrow, fun d hd => ?_⟩
                  · rw [List.reverse_cons, flatV_app, List.length_cons, hlen, List.reverse_cons]
                    exact hown'
                  · rcases List.mem_cons.1 hd with rfl | hd
                    · exact ⟨Nat.pos_of_ne_zero hsp, hrl⟩
                    · exact hne d hd
                clear hown' hgrow hnil hi hz0 hz1 hz2
                go_wp2
                exact ⟨HRel.out, by simp [intOf]; omega⟩

            · have hdt' : (d.2.1 == t) = false := by simp [hdt]
              have HRun : Hid (bandsF row (ys.drop (m + 1)) ((t, bt, sp) :: d :: ds) = R) := by unfold Hid; rw [← hrun, bandS, if_neg hspn, if_neg (fun h => hdt h.1)]
              obtain ⟨W, hW⟩ : ∃ W, W = w4 := ⟨_, rfl⟩
              have HW : Hid (W.ownsRow w1.heap.size 102 3 (.slice (some ⟨g7, 0, none⟩) (es.length + 1) c7) (es.length + 1) (flatV (es.reverse ++ [(d.1, d.2.1, .slice osv d.2.2.length csv)])) ∧ Mt W ((d.1, d.2.1, .slice osv d.2.2.length csv) :: es) (d :: ds) ∧ Below w1.heap.size w1 W ∧ SpL W (.slice oz sp.length cz) sp) := by unfold Hid; rw [hW]; exact HW4.out
              have p1 : W.cell? ⟨g7, es.length * 3 + 1, none⟩ = some (.int .i64 d.2.1) := by rw [hW]; exact q1
              rw [← hW]
              clear hW q1 q2 q3
              obtain ⟨hi, hz0, hz1, hz2⟩ := HI.out
              have hc3 : Hid (es.length + 1 + 1 ≤ maxLen) := by unfold Hid maxLen; omega
              have hc4 : Hid ((es.length + 1 + 1) * 40 ≤ 140737488355328) := by unfold Hid; omega
              have HA : Hid (∀ o, (W.alloc o).ownsRow w1.heap.size 102 3 (.slice (some ⟨g7, 0, none⟩) (es.length + 1) c7) (es.length + 1) (flatV (es.reverse ++ [(d.1, d.2.1, .slice osv d.2.2.length csv)])) ∧ Below w1.heap.size w1 (W.alloc o)) := fun o => by
                have ho : Below W.heap.size W (W.alloc o) := (Below.refl _ W).alloc (Nat.le_refl _) o
                exact ⟨row_below HW.out.1 ho, HW.out.2.2.1.trans (ho.mono HW.out.2.2.1.size)⟩
              have HM : Hid (∀ o, Mt (W.alloc o) ((d.1, d.2.1, .slice osv d.2.2.length csv) :: es) (d :: ds) ∧ SpL (W.alloc o) (.slice oz sp.length cz) sp) := fun o => by
                have ho : Below W.heap.size W (W.alloc o) := (Below.refl _ W).alloc (Nat.le_refl _) o
                exact ⟨HW.out.2.1.below ho, HW.out.2.2.2.below ho⟩
              go_wp2_with (at_builtin; refine wpList_append_own _ rfl _ _ 97 rfl w1.heap.size 102 i0 (.agg #[.int .i64 0, .int .i64 0, .slice none 0 0]) 3 40 Try.underlying97 hi hz0 hz1 hz2 rfl (by decide) (.slice (some ⟨g7, 0, none⟩) (es.length + 1) c7) (es.length + 1) (flatV (es.reverse ++ [(d.1, d.2.1, .slice osv d.2.2.length csv)])) rfl (HA.out _).1 _ 1 1 [.int .i64 t, .int .i64 bt, .slice oz sp.length cz] rfl rfl (cell_threeB _ _ _ _ _ _ (by simp)) (one3 _ _ _ _ _) hc3.out hc4.out (HA.out _).2.size ?_)
              intro v' w6 hown' hgrow hnil
              have HRel : Hid (∃ (m' : Nat) (acc : List Bd) (bv : List Bv), Value.int .i64 ((m : Int) + 1 + 1) = .int .i64 ((m' : Int) + 1) ∧ BInv row R ys w1 m' acc bv v' w6) := by
                refine ⟨m + 1, (t, bt, sp) :: d :: ds, (t, bt, .slice oz sp.length cz) :: (d.1, d.2.1, .slice osv d.2.2.length csv) :: es, by go_num, by omega, by simp at hal ⊢; omega, HRun.out, ?_, ⟨⟨rfl, rfl, (HM.out _).2.grown (HA.out _).1 (by decide) hgrow⟩, (HM.out _).1.map fun _ _ q => q.grown (HA.out _).1 (by decide) hgrow⟩, app_below (HA.out _).2 (HA.out _).1 (Nat.le_refl _) hgrow, fun d hd => ?_⟩
                · rw [List.reverse_cons, flatV_app, List.length_cons, hlen, List.reverse_cons]
                  exact hown'
                · rcases List.mem_cons.1 hd with rfl | hd
                  · exact ⟨Nat.pos_of_ne_zero hsp, hrl⟩
                  · exact hne d hd
              clear hown' hgrow hnil hi hz0 hz1 hz2
              go_wp2
              exact ⟨HRel.out, by simp [intOf]; omega⟩
      · have HF : Hid (BdL wr u7 R.reverse) := by
          have hR : acc = R := by
            rw [← hrun]
            rcases (show ys.length = m ∨ ys.length = m + 1 by omega) with h | h
            · rw [← h, List.drop_length, bandsF]
              intro t b r h; cases h
            · have : ys.drop m = [ys[m]] := by
                rw [List.drop_eq_getElem_cons (by omega)]
                congr 1
                exact List.drop_eq_nil_of_le (by omega)
              rw [this, bandsF]
              intro t b r h; cases h
          subst hR
          obtain ⟨o7, c7, rfl, hc7, ho7⟩ := row_val hown
          have hl2 : acc.reverse.length = bv.length := by rw [List.length_reverse, hbl]
          refine ⟨o7, c7, by rw [hl2], by rw [hl2]; exact hc7, fun hp => ?_⟩
          rw [hl2] at hp
          obtain ⟨g7, rfl, hg7, hg8⟩ := ho7 hp
          refine ⟨g7, rfl, hg8, fun i hi => ?_⟩
          have hi2 : i < bv.reverse.length := by rw [List.length_reverse]; omega
          obtain ⟨a1, a2, a3⟩ := hmt.rev.at i hi2 hi
          obtain ⟨f0, f1, f2⟩ := flatV_at bv.reverse i hi2
          rw [own_cell hown _ (by omega), own_cell hown _ (by omega), f0, f1, a1, a2]
          exact ⟨rfl, rfl, _, by rw [own_cell hown _ (by omega), f2], a3⟩
        have HB : Hid (Below w.heap.size w wr) := HY1.out.2.trans (hB1.mono HY1.out.2.size)
        clear hown hmt hB1 hrun
        go_wp2
        go_ret
        exact ⟨_, rfl, HF.out, HB.out⟩

end Go.Proofs.Ytbghjmkgicdnoaa

/-
  Contracts of package region: the form.
-/
namespace Go.Proofs.Ytbghjmkgicdnoaa
open Go.RowKit Go.Sort Go.Shelf

theorem bandS_len (sp : List Sp) (t b : Int) (l : List Bd) : (bandS sp t b l).length ≤ l.length + 1 := by
  cases l with
  | nil => rw [bandS]; split <;> simp
  | cons d ds => rw [bandS]; split; simp; split <;> simp
theorem bandsF_len (row : Int → List Sp) : ∀ (ys : List Int) (acc : List Bd), (bandsF row ys acc).length ≤ acc.length + ys.length
  | [], acc => by rw [bandsF]; simp; intro t b r h; cases h
  | [y], acc => by rw [bandsF]; simp; intro t b r h; cases h
  | t :: b :: r, acc => by
    have h1 := bandsF_len row (b :: r) (bandS (row t) t b acc)
    have h2 := bandS_len (row t) t b acc
    rw [bandsF]
    simp at h1 ⊢
    omega
theorem insU_len (n : Int) (l : List Int) : (insU n l).length ≤ l.length + 1 := by
  induction l with
  | nil => simp [insU]
  | cons m t ih => rw [insU]; split; simp; split; simp; simp; omega
theorem edgesF_len (l : List Rc) : (edgesF l).length ≤ 2 * l.length := by
  unfold edgesF
  have h : ∀ m : List Rc, (m.foldr (fun r acc => insU r.y (insU (r.y + r.h) acc)) []).length ≤ 2 * m.length := by
    intro m
    induction m with
    | nil => simp
    | cons r t ih =>
      rw [List.foldr_cons]
      have h1 := insU_len r.y (insU (r.y + r.h) (t.foldr (fun r acc => insU r.y (insU (r.y + r.h) acc)) []))
      have h2 := insU_len (r.y + r.h) (t.foldr (fun r acc => insU r.y (insU (r.y + r.h) acc)) [])
      simp
      omega
  have h1 := h (l.filter keepE)
  have h2 := List.length_filter_le keepE l
  omega
theorem insX_len (r : Rc) (l : List Rc) : (insX r l).length = l.length + 1 := by
  induction l with
  | nil => rfl
  | cons q t ih => rw [insX]; split; rfl; simp [ih]
theorem solidF_len (l : List Rc) : (solidF l).length ≤ l.length := by
  unfold solidF
  have h : ∀ m : List Rc, (m.foldr insX []).length = m.length := by
    intro m
    induction m with
    | nil => rfl
    | cons r t ih => rw [List.foldr_cons, insX_len, ih]; rfl
  rw [h]
  exact List.length_filter_le _ _
theorem rowF_len (l : List Rc) (y : Int) : (rowF l y).length ≤ l.length := by
  unfold rowF
  have h1 := runs_len y (solidF l) []
  have h2 := solidF_len l
  simp at h1
  omega
theorem flatB_len (M : Nat) : ∀ l : List Bd, (∀ d ∈ l, d.2.2.length ≤ M) → ((l.map rcts).flatten).length ≤ l.length * M
  | [], _ => by simp
  | d :: t, h => by
    have h1 := flatB_len M t (fun x hx => h x (by simp [hx]))
    have h2 := h d (by simp)
    rw [List.map_cons, List.flatten_cons, List.length_append, List.length_cons, Nat.add_mul]
    have h3 : (rcts d).length = d.2.2.length := by simp [rcts]
    omega
/-- What is known of the form's bands. -/
theorem bands_facts (k : Bool) (a b : List Rc) (ha : a.length ≤ 3000) (hb : b.length ≤ 3000) : (bandsR k a b).length ≤ 12000 ∧ (∀ d ∈ bandsR k a b, d.2.2.length ≤ 9000 ∧ ∀ s ∈ d.2.2, (-16384 ≤ s.1 ∧ s.1 < s.2 ∧ s.2 ≤ 16384) ∧ -16384 ≤ d.1 ∧ d.1 < d.2.1 ∧ d.2.1 ≤ 16384) := by
  refine ⟨?_, fun d hd => ⟨?_, fun s hs => ?_⟩⟩
  · have h1 := bandsF_len (rowW k a b) (edgesF (a ++ b)) []
    have h2 := edgesF_len (a ++ b)
    unfold bandsR
    simp at h1 h2
    omega
  · obtain ⟨⟨z, h1⟩, h2⟩ := bandsR_ban k a b
    obtain ⟨b1, b2⟩ := ban_mem h1 d hd
    have e := fAt_mem h1 d hd d.1 (Int.le_refl _) b1
    rw [h2] at e
    rw [← e]
    have h3 := want_len k (rowF a d.1) (rowF b d.1)
    have h4 := rowF_len a d.1
    have h5 := rowF_len b d.1
    show (wantF k (rowF a d.1) (rowF b d.1)).length ≤ 9000
    omega
  · have hr : (⟨s.1, d.1, s.2 - s.1, d.2.1 - d.1⟩ : Rc) ∈ formF k a b := (flat_mem _ _).2 ⟨d, hd, s, hs, rfl⟩
    have := (keepE_iff _).1 (form_keep k a b _ hr)
    dsimp only at this
    omega

def FIn (D : List Bd) (w0 : World) (i : Nat) (d : Bd) (bx : Nat) (sv : Value) (j : Nat) (v : Value) (wr : World) : Prop :=
  j ≤ d.2.2.length ∧ wr.ownsRow w0.heap.size 27 4 v (((D.take i).map rcts).flatten ++ (rcts d).take j).length (flat (((D.take i).map rcts).flatten ++ (rcts d).take j)) ∧ Below w0.heap.size w0 wr ∧ Bk wr bx #[.int .i64 d.1, .int .i64 d.2.1, sv] 102
def FOut (D : List Bd) (w0 : World) (i : Nat) (v : Value) (wr : World) : Prop :=
  i ≤ D.length ∧ wr.ownsRow w0.heap.size 27 4 v (((D.take i).map rcts).flatten).length (flat (((D.take i).map rcts).flatten)) ∧ Below w0.heap.size w0 wr
/-- A block of another kind is left by an append. -/
theorem Bk.apart {w w' : World} {b : Nat} {vs : Array Value} {t : TypeId} (h : Bk w b vs t) {base : Nat} {e : TypeId} {size n : Nat} {u : Value} {xs : List Value} (hr : w.ownsRow base e size u n xs) (he : e ≠ t) (hg : w.grownBy w' u.ownBlock) : Bk w' b vs t := by
  refine h.grown hg (fun hx => ?_)
  obtain ⟨_, hh | ⟨g', cap', cur, rfl, _, hcur, _⟩⟩ := hr
  · rw [hh.1] at hx; cases hx
  · simp [Value.ownBlock] at hx
    subst hx
    have := Eq.trans (Eq.symm h) hcur
    injection this with this
    injection this with _ this _
    exact he this.symm

set_option maxRecDepth 10000 in
set_option maxHeartbeats 8000000 in
theorem form_any (k : Bool) (a b : List Rc) (va vb : Value) (w : World) (hva : LsR w va a) (hvb : LsR w vb b) (hsa : ∀ r ∈ a, I64 r.x ∧ I64 r.y) (hsb : ∀ r ∈ b, I64 r.x ∧ I64 r.y) (hla : a.length ≤ 3000) (hlb : b.length ≤ 3000) (hk : okW k = true := by rfl) :
    Calls Try.prog 59 #[va, vb, .func (.func (fnW k)) #[] #[]] w fun e w' => ∃ u, e = .returned u ∧ w'.ownsRow w.heap.size 27 4 u (formF k a b).length (flat (formF k a b)) ∧ Below w.heap.size w w' := by
  obtain ⟨i0, hi, hz0, hz1, hz2⟩ := info_parts info_rect
  have HI : Hid (Try.prog.info? 27 = some i0 ∧ i0.zero = some (.agg #[.int .i64 0, .int .i64 0, .int .i64 0, .int .i64 0]) ∧ i0.size = 4 ∧ i0.bytes = 32) := ⟨hi, hz0, hz1, hz2⟩
  have H1 : Hid (Calls Try.prog 80 #[va] w fun e w' => ∃ (u : Value) (L : List Rc), e = .returned u ∧ LsR w' u L ∧ SortX (-16384) L ∧ (∀ q, q ∈ L ↔ q ∈ a ∧ keepE q = true) ∧ L.length ≤ a.length ∧ Below w.heap.size w w') := solid_any a va w hva hsa (by omega)
  have H2 : Hid (∀ W, Below w.heap.size w W → Calls Try.prog 80 #[vb] W fun e w' => ∃ (u : Value) (L : List Rc), e = .returned u ∧ LsR w' u L ∧ SortX (-16384) L ∧ (∀ q, q ∈ L ↔ q ∈ b ∧ keepE q = true) ∧ L.length ≤ b.length ∧ Below W.heap.size W w') := fun W hb => solid_any b vb W (hvb.below hb) hsb (by omega)
  have HD : Hid ((bandsR k a b).length ≤ 12000 ∧ (∀ d ∈ bandsR k a b, d.2.2.length ≤ 9000 ∧ ∀ s ∈ d.2.2, (-16384 ≤ s.1 ∧ s.1 < s.2 ∧ s.2 ≤ 16384) ∧ -16384 ≤ d.1 ∧ d.1 < d.2.1 ∧ d.2.1 ≤ 16384)) := bands_facts k a b hla hlb
  have HB : Hid (∀ LA LB ua ub W, LsR W ua LA → LsR W ub LB → SortX (-16384) LA → (∀ q, q ∈ LA ↔ q ∈ a ∧ keepE q = true) → SortX (-16384) LB → (∀ q, q ∈ LB ↔ q ∈ b ∧ keepE q = true) → LA.length ≤ a.length → LB.length ≤ b.length → Calls Try.prog 79 #[ua, ub, .func (.func (fnW k)) #[] #[]] W fun e w' => ∃ u, e = .returned u ∧ BdL w' u (bandsR k a b).reverse ∧ Below W.heap.size W w') := fun LA LB ua ub W h1 h2 h3 h4 h5 h6 h7 h8 => bandsC_any k a b LA LB ua ub W h1 h2 h3 h4 h5 h6 (by omega) (by omega) hk
  have e : formF k a b = (((bandsR k a b).reverse).map rcts).flatten := rfl
  rw [e]
  generalize bandsR k a b = R at *
  obtain ⟨D, hDR⟩ : ∃ D, D = R.reverse := ⟨_, rfl⟩
  have HDf : Hid (D.length ≤ 12000 ∧ (∀ d ∈ D, d.2.2.length ≤ 9000 ∧ ∀ s ∈ d.2.2, (-16384 ≤ s.1 ∧ s.1 < s.2 ∧ s.2 ≤ 16384) ∧ -16384 ≤ d.1 ∧ d.1 < d.2.1 ∧ d.2.1 ≤ 16384)) := by
    rw [hDR]
    exact ⟨by rw [List.length_reverse]; exact HD.out.1, fun d hd => HD.out.2 d (by simpa using hd)⟩
  rw [← hDR] at HB ⊢
  have hDl : D.length ≤ 12000 := HDf.out.1
  clear hi hz0 hz1 hz2 hva hvb hsa hsb e hDR HD
  go_enter Try.func59, Try.ntmps59
  go_wp2_with fail
  refine H1.out.mono ?_
  rintro e w1 ⟨ua, LA, rfl, a1, a2, a3, a4, hb1⟩
  have HA1 : Hid (LsR w1 ua LA ∧ SortX (-16384) LA ∧ (∀ q, q ∈ LA ↔ q ∈ a ∧ keepE q = true) ∧ LA.length ≤ a.length ∧ Below w.heap.size w w1) := ⟨a1, a2, a3, a4, hb1⟩
  clear a1 a2 a3 a4 hb1
  go_wp2_with fail
  refine (H2.out _ HA1.out.2.2.2.2).mono ?_
  rintro e w2 ⟨ub, LB, rfl, a1, a2, a3, a4, hb1⟩
  have HA2 : Hid (LsR w2 ub LB ∧ SortX (-16384) LB ∧ (∀ q, q ∈ LB ↔ q ∈ b ∧ keepE q = true) ∧ LB.length ≤ b.length ∧ LsR w2 ua LA ∧ Below w.heap.size w w2) := ⟨a1, a2, a3, a4, HA1.out.1.below hb1, HA1.out.2.2.2.2.trans (hb1.mono HA1.out.2.2.2.2.size)⟩
  clear a1 a2 a3 a4 hb1
  go_wp2_with fail
  refine (HB.out LA LB ua ub _ HA2.out.2.2.2.2.1 HA2.out.1 HA1.out.2.1 HA1.out.2.2.1 HA2.out.2.1 HA2.out.2.2.1 HA1.out.2.2.2.1 HA2.out.2.2.2.1).mono ?_
  rintro e w3 ⟨ud, rfl, hbd, hb3⟩
  obtain ⟨od, cd, rfl, hcd, hgd⟩ := hbd
  have HG : Hid ((0 < D.length → ∃ g, od = some ⟨g, 0, none⟩ ∧ g < w3.heap.size ∧ ∀ i (h : i < D.length), w3.cell? ⟨g, i * 3, none⟩ = some (.int .i64 D[i].1) ∧ w3.cell? ⟨g, i * 3 + 1, none⟩ = some (.int .i64 D[i].2.1) ∧ ∃ sv, w3.cell? ⟨g, i * 3 + 2, none⟩ = some sv ∧ SpL w3 sv D[i].2.2) ∧ Below w.heap.size w w3) := ⟨hgd, HA2.out.2.2.2.2.2.trans (hb3.mono HA2.out.2.2.2.2.2.size)⟩
  clear hgd hb3
  go_wp2_with fail
  go_loopw [7, 19] (fun v i wr => ∃ m : Nat, i = .int .i64 m ∧ FOut D w3 m v wr) (fun _ i _ => D.length - (intOf i).toNat)
  case atStart => exact ⟨0, rfl, Nat.zero_le _, World.ownsRow_nil _ _ _ _, Below.refl _ _⟩
  case round =>
    obtain ⟨m, rfl, hI⟩ := hrel
    obtain ⟨hml, hown, hBr⟩ := hI
    by_cases hlt : m < D.length
    · obtain ⟨g, rfl, hg, hat⟩ := HG.out.1 (by omega)
      obtain ⟨c0, c1, sv, c2, hsv⟩ := hat m hlt
      rw [← hBr.cell (p := ⟨g, m * 3, none⟩) hg] at c0
      rw [← hBr.cell (p := ⟨g, m * 3 + 1, none⟩) hg] at c1
      rw [← hBr.cell (p := ⟨g, m * 3 + 2, none⟩) hg] at c2
      have htk : (((D.take (m + 1)).map rcts).flatten) = ((D.take m).map rcts).flatten ++ rcts D[m] := by
        rw [(List.take_append_getElem hlt).symm, List.map_append, List.flatten_append]; simp
      have hdm := HDf.out.2 _ (List.getElem_mem hlt)
      have hfl : (((D.take m).map rcts).flatten).length ≤ 12000 * 9000 := by
        have h1 := flatB_len 9000 (D.take m) (fun d hd => (HDf.out.2 d (List.mem_of_mem_take hd)).1)
        have h2 : (D.take m).length ≤ 12000 := by rw [List.length_take]; omega
        exact Nat.le_trans h1 (Nat.mul_le_mul_right _ h2)
      generalize D[m] = d at *
      obtain ⟨os, cs, rfl, hcs, hgs⟩ := hsv.cells
      have HS : Hid ((0 < d.2.2.length → ∃ g, os = some ⟨g, 0, none⟩ ∧ g < w3.heap.size ∧ ∀ i (h : i < d.2.2.length), w3.cell? ⟨g, i * 2, none⟩ = some (.int .i64 d.2.2[i].1) ∧ w3.cell? ⟨g, i * 2 + 1, none⟩ = some (.int .i64 d.2.2[i].2))) := hgs
      have HT : Hid ((((D.take (m + 1)).map rcts).flatten) = ((D.take m).map rcts).flatten ++ rcts d ∧ (∀ s ∈ d.2.2, (-16384 ≤ s.1 ∧ s.1 < s.2 ∧ s.2 ≤ 16384) ∧ -16384 ≤ d.1 ∧ d.1 < d.2.1 ∧ d.2.1 ≤ 16384)) := ⟨htk, hdm.2⟩
      obtain ⟨bx, hbx⟩ : ∃ bx, bx = wr.heap.size := ⟨_, rfl⟩
      have HF0 : Hid (FIn D w3 m d bx (.slice os d.2.2.length cs) 0 u7 (wr.alloc (.cells #[.int .i64 d.1, .int .i64 d.2.1, .slice os d.2.2.length cs] 102))) := by
        have hb : Below wr.heap.size wr (wr.alloc (.cells #[.int .i64 d.1, .int .i64 d.2.1, .slice os d.2.2.length cs] 102)) := (Below.refl _ wr).alloc (Nat.le_refl _) _
        refine ⟨Nat.zero_le _, ?_, hBr.trans (hb.mono hBr.size), by rw [hbx]; exact Bk.new _ _ _⟩
        simpa using row_below hown hb
      obtain ⟨W, hW⟩ : ∃ W, W = wr.alloc (.cells #[.int .i64 d.1, .int .i64 d.2.1, .slice os d.2.2.length cs] 102) := ⟨_, rfl⟩
      have hdl := hdm.1
      rw [← hW] at HF0
      have hBk := HF0.out.2.2.2
      have y2 : W.cell? ⟨bx, 2, none⟩ = some (.slice os d.2.2.length cs) := by rw [hBk.cell]; rfl
      clear hown hBr hat htk hgs hsv hdm hBk
      go_wp2_with fail
      rw [← hW, ← hbx]
      clear hW hbx y2 c0 c1 c2
      generalize decide ((m : Int) < (D.length : Int)) = bm
      go_loopw [7, 26] (fun v i wq => ∃ j : Nat, i = .int .i64 j ∧ FIn D w3 m d bx (.slice os d.2.2.length cs) j v wq) (fun _ i _ => d.2.2.length - (intOf i).toNat)
      case atStart => exact ⟨0, rfl, HF0.out⟩
      case round =>
        obtain ⟨j, rfl, hI⟩ := hrel
        obtain ⟨hjl, hown, hBr, hbk⟩ := hI
        by_cases hj : j < d.2.2.length
        · obtain ⟨gs, rfl, hgs1, hgs2⟩ := HS.out (by omega)
          obtain ⟨z0, z1⟩ := hgs2 j hj
          rw [← hBr.cell (p := ⟨gs, j * 2, none⟩) hgs1] at z0
          rw [← hBr.cell (p := ⟨gs, j * 2 + 1, none⟩) hgs1] at z1
          have hb := HT.out.2 _ (List.getElem_mem hj)
          have hrj : (rcts d).take (j + 1) = (rcts d).take j ++ [⟨d.2.2[j].1, d.1, d.2.2[j].2 - d.2.2[j].1, d.2.1 - d.1⟩] := by
            have hj' : j < (rcts d).length := by simpa [rcts] using hj
            rw [(List.take_append_getElem hj').symm]
            congr 1
            simp [rcts]
          have hrl : ((rcts d).take j).length ≤ 9000 := by
            rw [List.length_take]
            have : (rcts d).length = d.2.2.length := by simp [rcts]
            omega
          generalize d.2.2[j] = s at *
          obtain ⟨acc, hac⟩ : ∃ acc, acc = ((D.take m).map rcts).flatten ++ (rcts d).take j := ⟨_, rfl⟩
          have hacl : acc.length ≤ 12000 * 9000 + 9000 := by rw [hac, List.length_append]; omega
          have HN : Hid (((D.take m).map rcts).flatten ++ (rcts d).take (j + 1) = acc ++ [⟨s.1, d.1, s.2 - s.1, d.2.1 - d.1⟩]) := by unfold Hid; rw [hrj, ← List.append_assoc, hac]
          rw [← hac] at hown
          have HW : Hid (∀ o o2, ((wr.alloc o).alloc o2).ownsRow w3.heap.size 27 4 u7 acc.length (flat acc) ∧ Below w3.heap.size w3 ((wr.alloc o).alloc o2) ∧ Bk ((wr.alloc o).alloc o2) bx #[.int .i64 d.1, .int .i64 d.2.1, .slice (some ⟨gs, 0, none⟩) d.2.2.length cs] 102) := fun o o2 => by
            have hb2 : Below wr.heap.size wr ((wr.alloc o).alloc o2) := ((Below.refl _ wr).alloc (Nat.le_refl _) o).alloc (by simp) o2
            exact ⟨row_below hown hb2, hBr.trans (hb2.mono hBr.size), hbk.below hb2⟩
          have hc3 : Hid (acc.length + 1 ≤ maxLen) := by unfold Hid maxLen; omega
          have hc4 : Hid ((acc.length + 1) * 32 ≤ 140737488355328) := by unfold Hid; omega
          have y0 : wr.cell? ⟨bx, 0, none⟩ = some (.int .i64 d.1) := by rw [hbk.cell]; rfl
          have y1 : wr.cell? ⟨bx, 1, none⟩ = some (.int .i64 d.2.1) := by rw [hbk.cell]; rfl
          have hbxl := hbk.lt
          clear hown hBr hbk hac hrj hgs2 hrl
          obtain ⟨hi, hz0, hz1, hz2⟩ := HI.out
          go_wp2_with (at_builtin; refine wpList_append_own _ rfl _ _ 39 rfl w3.heap.size 27 i0 (.agg #[.int .i64 0, .int .i64 0, .int .i64 0, .int .i64 0]) 4 32 Try.underlying39 hi hz0 hz1 hz2 rfl (by decide) u7 acc.length (flat acc) rfl (HW.out _ _).1 _ 1 1 [.int .i64 s.1, .int .i64 d.1, .int .i64 (s.2 - s.1), .int .i64 (d.2.1 - d.1)] rfl rfl (cell_fourB _ _ _ _ _ _ _ (by simp)) (one4 ⟨s.1, d.1, s.2 - s.1, d.2.1 - d.1⟩) hc3.out hc4.out (HW.out _ _).2.1.size ?_)
          intro v' w4 hown' hgrow hnil
          have HRel : Hid (∃ j' : Nat, Value.int .i64 ((j : Int) + 1) = .int .i64 j' ∧ FIn D w3 m d bx (.slice (some ⟨gs, 0, none⟩) d.2.2.length cs) j' v' w4) := by
            refine ⟨j + 1, by go_num, by omega, ?_, app_below (HW.out _ _).2.1 (HW.out _ _).1 (Nat.le_refl _) hgrow, (HW.out _ _).2.2.apart (HW.out _ _).1 (by decide) hgrow⟩
            rw [HN.out, List.length_append, flat_app]
            exact hown'
          clear hown' hgrow hnil hi hz0 hz1 hz2
          go_wp2
          go_roundw
          case rel =>
            first
              | exact HRel.out
              | (repeat apply Exists.intro
                 exact ⟨HRel.out, rfl⟩)
          case measure => simp [intOf]; omega
        · obtain rfl : j = d.2.2.length := by omega
          have HRel : Hid (∃ m' : Nat, Value.int .i64 ((m : Int) + 1) = .int .i64 m' ∧ FOut D w3 m' u7 wr) := by
            refine ⟨m + 1, by go_num, by omega, ?_, hBr⟩
            have e1 : (rcts d).take d.2.2.length = rcts d := List.take_of_length_le (by simp [rcts])
            rw [e1] at hown
            rw [HT.out.1]
            exact hown
          clear hown hBr hbk
          go_wp2
          exact ⟨HRel.out, by simp [intOf]; omega⟩
    · obtain rfl : m = D.length := by omega
      rw [List.take_length] at hown
      have HF : Hid (wr.ownsRow w.heap.size 27 4 u7 ((D.map rcts).flatten).length (flat ((D.map rcts).flatten)) ∧ Below w.heap.size w wr) := ⟨row_weaken hown HG.out.2.size, HG.out.2.trans (hBr.mono HG.out.2.size)⟩
      clear hown hBr
      go_wp2
      go_ret
      exact ⟨_, rfl, HF.out.1, HF.out.2⟩

end Go.Proofs.Ytbghjmkgicdnoaa
