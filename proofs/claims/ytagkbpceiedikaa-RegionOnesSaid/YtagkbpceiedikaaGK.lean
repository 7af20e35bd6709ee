/-
  Contracts of package region: the form.
-/
import Derived.Test.YtagkbpceiedikaaGJ
namespace Go.Proofs.Ytagkbpceiedikaa
open Go.RowKit Go.Sort Go.Shelf

theorem bandS_len (sp : List Sp) (t b : Int) (l : List Bd) : (bandS sp t b l).length ≤ l.length + 1 := by
  cases l with
  | nil => rw [bandS]; split <;> simp
  | cons d ds => rw [bandS]; split; simp; split <;> simp
theorem bandsF_len (row : Int → List Sp) : ∀ (ys : List Int) (acc : List Bd), (bandsF row ys acc).length ≤ acc.length + ys.length
  | [], acc => by rw [bandsF]; simp; intro t b r h; cases h
  | [y], acc => by rw [bandsF]; simp; intro t b r h; cases h
  | t :: b :: r, acc => by
    have h1 := bandsF_len row (b :: r) (bandS (row t) t b acc)
    have h2 := bandS_len (row t) t b acc
    rw [bandsF]
    simp at h1 ⊢
    omega
theorem insU_len (n : Int) (l : List Int) : (insU n l).length ≤ l.length + 1 := by
  induction l with
  | nil => simp [insU]
  | cons m t ih => rw [insU]; split; simp; split; simp; simp; omega
theorem edgesF_len (l : List Rc) : (edgesF l).length ≤ 2 * l.length := by
  unfold edgesF
  have h : ∀ m : List Rc, (m.foldr (fun r acc => insU r.y (insU (r.y + r.h) acc)) []).length ≤ 2 * m.length := by
    intro m
    induction m with
    | nil => simp
    | cons r t ih =>
      rw [List.foldr_cons]
      have h1 := insU_len r.y (insU (r.y + r.h) (t.foldr (fun r acc => insU r.y (insU (r.y + r.h) acc)) []))
      have h2 := insU_len (r.y + r.h) (t.foldr (fun r acc => insU r.y (insU (r.y + r.h) acc)) [])
      simp
      omega
  have h1 := h (l.filter keepE)
  have h2 := List.length_filter_le keepE l
  omega
theorem insX_len (r : Rc) (l : List Rc) : (insX r l).length = l.length + 1 := by
  induction l with
  | nil => rfl
  | cons q t ih => rw [insX]; split; rfl; simp [ih]
theorem solidF_len (l : List Rc) : (solidF l).length ≤ l.length := by
  unfold solidF
  have h : ∀ m : List Rc, (m.foldr insX []).length = m.length := by
    intro m
    induction m with
    | nil => rfl
    | cons r t ih => rw [List.foldr_cons, insX_len, ih]; rfl
  rw [h]
  exact List.length_filter_le _ _
theorem rowF_len (l : List Rc) (y : Int) : (rowF l y).length ≤ l.length := by
  unfold rowF
  have h1 := runs_len y (solidF l) []
  have h2 := solidF_len l
  simp at h1
  omega
theorem flatB_len (M : Nat) : ∀ l : List Bd, (∀ d ∈ l, d.2.2.length ≤ M) → ((l.map rcts).flatten).length ≤ l.length * M
  | [], _ => by simp
  | d :: t, h => by
    have h1 := flatB_len M t (fun x hx => h x (by simp [hx]))
    have h2 := h d (by simp)
    rw [List.map_cons, List.flatten_cons, List.length_append, List.length_cons, Nat.add_mul]
    have h3 : (rcts d).length = d.2.2.length := by simp [rcts]
    omega
/-- What is known of the form's bands. -/
theorem bands_facts (k : Bool) (a b : List Rc) (ha : a.length ≤ 3000) (hb : b.length ≤ 3000) : (bandsR k a b).length ≤ 12000 ∧ (∀ d ∈ bandsR k a b, d.2.2.length ≤ 9000 ∧ ∀ s ∈ d.2.2, (-16384 ≤ s.1 ∧ s.1 < s.2 ∧ s.2 ≤ 16384) ∧ -16384 ≤ d.1 ∧ d.1 < d.2.1 ∧ d.2.1 ≤ 16384) := by
  refine ⟨?_, fun d hd => ⟨?_, fun s hs => ?_⟩⟩
  · have h1 := bandsF_len (rowW k a b) (edgesF (a ++ b)) []
    have h2 := edgesF_len (a ++ b)
    unfold bandsR
    simp at h1 h2
    omega
  · obtain ⟨⟨z, h1⟩, h2⟩ := bandsR_ban k a b
    obtain ⟨b1, b2⟩ := ban_mem h1 d hd
    have e := fAt_mem h1 d hd d.1 (Int.le_refl _) b1
    rw [h2] at e
    rw [← e]
    have h3 := want_len k (rowF a d.1) (rowF b d.1)
    have h4 := rowF_len a d.1
    have h5 := rowF_len b d.1
    show (wantF k (rowF a d.1) (rowF b d.1)).length ≤ 9000
    omega
  · have hr : (⟨s.1, d.1, s.2 - s.1, d.2.1 - d.1⟩ : Rc) ∈ formF k a b := (flat_mem _ _).2 ⟨d, hd, s, hs, rfl⟩
    have := (keepE_iff _).1 (form_keep k a b _ hr)
    dsimp only at this
    omega

def FIn (D : List Bd) (w0 : World) (i : Nat) (d : Bd) (bx : Nat) (sv : Value) (j : Nat) (v : Value) (wr : World) : Prop :=
  j ≤ d.2.2.length ∧ wr.ownsRow w0.heap.size 35 4 v (((D.take i).map rcts).flatten ++ (rcts d).take j).length (flat (((D.take i).map rcts).flatten ++ (rcts d).take j)) ∧ Below w0.heap.size w0 wr ∧ Bk wr bx #[.int .i64 d.1, .int .i64 d.2.1, sv] 77
def FOut (D : List Bd) (w0 : World) (i : Nat) (v : Value) (wr : World) : Prop :=
  i ≤ D.length ∧ wr.ownsRow w0.heap.size 35 4 v (((D.take i).map rcts).flatten).length (flat (((D.take i).map rcts).flatten)) ∧ Below w0.heap.size w0 wr
/-- A block of another kind is left by an append. -/
theorem Bk.apart {w w' : World} {b : Nat} {vs : Array Value} {t : TypeId} (h : Bk w b vs t) {base : Nat} {e : TypeId} {size n : Nat} {u : Value} {xs : List Value} (hr : w.ownsRow base e size u n xs) (he : e ≠ t) (hg : w.grownBy w' u.ownBlock) : Bk w' b vs t := by
  refine h.grown hg (fun hx => ?_)
  obtain ⟨_, hh | ⟨g', cap', cur, rfl, _, hcur, _⟩⟩ := hr
  · rw [hh.1] at hx; cases hx
  · simp [Value.ownBlock] at hx
    subst hx
    have := Eq.trans (Eq.symm h) hcur
    injection this with this
    injection this with _ this _
    exact he this.symm

set_option maxRecDepth 10000 in
set_option maxHeartbeats 8000000 in
theorem form_any (k : Bool) (a b : List Rc) (va vb : Value) (w : World) (hva : LsR w va a) (hvb : LsR w vb b) (hsa : ∀ r ∈ a, I64 r.x ∧ I64 r.y) (hsb : ∀ r ∈ b, I64 r.x ∧ I64 r.y) (hla : a.length ≤ 3000) (hlb : b.length ≤ 3000) :
    Calls Try.prog 43 #[va, vb, .func (.func (fnW k)) #[] #[]] w fun e w' => ∃ u, e = .returned u ∧ w'.ownsRow w.heap.size 35 4 u (formF k a b).length (flat (formF k a b)) ∧ Below w.heap.size w w' := by
  obtain ⟨i0, hi, hz0, hz1, hz2⟩ := info_parts info_rect
  have HI : Hid (Try.prog.info? 35 = some i0 ∧ i0.zero = some (.agg #[.int .i64 0, .int .i64 0, .int .i64 0, .int .i64 0]) ∧ i0.size = 4 ∧ i0.bytes = 32) := ⟨hi, hz0, hz1, hz2⟩
  have H1 : Hid (Calls Try.prog 70 #[va] w fun e w' => ∃ (u : Value) (L : List Rc), e = .returned u ∧ LsR w' u L ∧ SortX (-16384) L ∧ (∀ q, q ∈ L ↔ q ∈ a ∧ keepE q = true) ∧ L.length ≤ a.length ∧ Below w.heap.size w w') := solid_any a va w hva hsa (by omega)
  have H2 : Hid (∀ W, Below w.heap.size w W → Calls Try.prog 70 #[vb] W fun e w' => ∃ (u : Value) (L : List Rc), e = .returned u ∧ LsR w' u L ∧ SortX (-16384) L ∧ (∀ q, q ∈ L ↔ q ∈ b ∧ keepE q = true) ∧ L.length ≤ b.length ∧ Below W.heap.size W w') := fun W hb => solid_any b vb W (hvb.below hb) hsb (by omega)
  have HD : Hid ((bandsR k a b).length ≤ 12000 ∧ (∀ d ∈ bandsR k a b, d.2.2.length ≤ 9000 ∧ ∀ s ∈ d.2.2, (-16384 ≤ s.1 ∧ s.1 < s.2 ∧ s.2 ≤ 16384) ∧ -16384 ≤ d.1 ∧ d.1 < d.2.1 ∧ d.2.1 ≤ 16384)) := bands_facts k a b hla hlb
  have HB : Hid (∀ LA LB ua ub W, LsR W ua LA → LsR W ub LB → SortX (-16384) LA → (∀ q, q ∈ LA ↔ q ∈ a ∧ keepE q = true) → SortX (-16384) LB → (∀ q, q ∈ LB ↔ q ∈ b ∧ keepE q = true) → LA.length ≤ a.length → LB.length ≤ b.length → Calls Try.prog 69 #[ua, ub, .func (.func (fnW k)) #[] #[]] W fun e w' => ∃ u, e = .returned u ∧ BdL w' u (bandsR k a b).reverse ∧ Below W.heap.size W w') := fun LA LB ua ub W h1 h2 h3 h4 h5 h6 h7 h8 => bandsC_any k a b LA LB ua ub W h1 h2 h3 h4 h5 h6 (by omega) (by omega)
  have e : formF k a b = (((bandsR k a b).reverse).map rcts).flatten := rfl
  rw [e]
  generalize bandsR k a b = R at *
  obtain ⟨D, hDR⟩ : ∃ D, D = R.reverse := ⟨_, rfl⟩
  have HDf : Hid (D.length ≤ 12000 ∧ (∀ d ∈ D, d.2.2.length ≤ 9000 ∧ ∀ s ∈ d.2.2, (-16384 ≤ s.1 ∧ s.1 < s.2 ∧ s.2 ≤ 16384) ∧ -16384 ≤ d.1 ∧ d.1 < d.2.1 ∧ d.2.1 ≤ 16384)) := by
    rw [hDR]
    exact ⟨by rw [List.length_reverse]; exact HD.out.1, fun d hd => HD.out.2 d (by simpa using hd)⟩
  rw [← hDR] at HB ⊢
  have hDl : D.length ≤ 12000 := HDf.out.1
  clear hi hz0 hz1 hz2 hva hvb hsa hsb e hDR HD
  go_enter Try.func43, Try.ntmps43
  go_wp2_with fail
  refine H1.out.mono ?_
  rintro e w1 ⟨ua, LA, rfl, a1, a2, a3, a4, hb1⟩
  have HA1 : Hid (LsR w1 ua LA ∧ SortX (-16384) LA ∧ (∀ q, q ∈ LA ↔ q ∈ a ∧ keepE q = true) ∧ LA.length ≤ a.length ∧ Below w.heap.size w w1) := ⟨a1, a2, a3, a4, hb1⟩
  clear a1 a2 a3 a4 hb1
  go_wp2_with fail
  refine (H2.out _ HA1.out.2.2.2.2).mono ?_
  rintro e w2 ⟨ub, LB, rfl, a1, a2, a3, a4, hb1⟩
  have HA2 : Hid (LsR w2 ub LB ∧ SortX (-16384) LB ∧ (∀ q, q ∈ LB ↔ q ∈ b ∧ keepE q = true) ∧ LB.length ≤ b.length ∧ LsR w2 ua LA ∧ Below w.heap.size w w2) := ⟨a1, a2, a3, a4, HA1.out.1.below hb1, HA1.out.2.2.2.2.trans (hb1.mono HA1.out.2.2.2.2.size)⟩
  clear a1 a2 a3 a4 hb1
  go_wp2_with fail
  refine (HB.out LA LB ua ub _ HA2.out.2.2.2.2.1 HA2.out.1 HA1.out.2.1 HA1.out.2.2.1 HA2.out.2.1 HA2.out.2.2.1 HA1.out.2.2.2.1 HA2.out.2.2.2.1).mono ?_
  rintro e w3 ⟨ud, rfl, hbd, hb3⟩
  obtain ⟨od, cd, rfl, hcd, hgd⟩ := hbd
  have HG : Hid ((0 < D.length → ∃ g, od = some ⟨g, 0, none⟩ ∧ g < w3.heap.size ∧ ∀ i (h : i < D.length), w3.cell? ⟨g, i * 3, none⟩ = some (.int .i64 D[i].1) ∧ w3.cell? ⟨g, i * 3 + 1, none⟩ = some (.int .i64 D[i].2.1) ∧ ∃ sv, w3.cell? ⟨g, i * 3 + 2, none⟩ = some sv ∧ SpL w3 sv D[i].2.2) ∧ Below w.heap.size w w3) := ⟨hgd, HA2.out.2.2.2.2.2.trans (hb3.mono HA2.out.2.2.2.2.2.size)⟩
  clear hgd hb3
  go_wp2_with fail
  go_loopw [7, 19] (fun v i wr => ∃ m : Nat, i = .int .i64 m ∧ FOut D w3 m v wr) (fun _ i _ => D.length - (intOf i).toNat)
  case atStart => exact ⟨0, rfl, Nat.zero_le _, World.ownsRow_nil _ _ _ _, Below.refl _ _⟩
  case round =>
    obtain ⟨m, rfl, hI⟩ := hrel
    obtain ⟨hml, hown, hBr⟩ := hI
    by_cases hlt : m < D.length
    · obtain ⟨g, rfl, hg, hat⟩ := HG.out.1 (by omega)
      obtain ⟨c0, c1, sv, c2, hsv⟩ := hat m hlt
      rw [← hBr.cell (p := ⟨g, m * 3, none⟩) hg] at c0
      rw [← hBr.cell (p := ⟨g, m * 3 + 1, none⟩) hg] at c1
      rw [← hBr.cell (p := ⟨g, m * 3 + 2, none⟩) hg] at c2
      have htk : (((D.take (m + 1)).map rcts).flatten) = ((D.take m).map rcts).flatten ++ rcts D[m] := by
        rw [(List.take_append_getElem hlt).symm, List.map_append, List.flatten_append]; simp
      have hdm := HDf.out.2 _ (List.getElem_mem hlt)
      have hfl : (((D.take m).map rcts).flatten).length ≤ 12000 * 9000 := by
        have h1 := flatB_len 9000 (D.take m) (fun d hd => (HDf.out.2 d (List.mem_of_mem_take hd)).1)
        have h2 : (D.take m).length ≤ 12000 := by rw [List.length_take]; omega
        exact Nat.le_trans h1 (Nat.mul_le_mul_right _ h2)
      generalize D[m] = d at *
      obtain ⟨os, cs, rfl, hcs, hgs⟩ := hsv.cells
      have HS : Hid ((0 < d.2.2.length → ∃ g, os = some ⟨g, 0, none⟩ ∧ g < w3.heap.size ∧ ∀ i (h : i < d.2.2.length), w3.cell? ⟨g, i * 2, none⟩ = some (.int .i64 d.2.2[i].1) ∧ w3.cell? ⟨g, i * 2 + 1, none⟩ = some (.int .i64 d.2.2[i].2))) := hgs
      have HT : Hid ((((D.take (m + 1)).map rcts).flatten) = ((D.take m).map rcts).flatten ++ rcts d ∧ (∀ s ∈ d.2.2, (-16384 ≤ s.1 ∧ s.1 < s.2 ∧ s.2 ≤ 16384) ∧ -16384 ≤ d.1 ∧ d.1 < d.2.1 ∧ d.2.1 ≤ 16384)) := ⟨htk, hdm.2⟩
      obtain ⟨bx, hbx⟩ : ∃ bx, bx = wr.heap.size := ⟨_, rfl⟩
      have HF0 : Hid (FIn D w3 m d bx (.slice os d.2.2.length cs) 0 u7 (wr.alloc (.cells #[.int .i64 d.1, .int .i64 d.2.1, .slice os d.2.2.length cs] 77))) := by
        have hb : Below wr.heap.size wr (wr.alloc (.cells #[.int .i64 d.1, .int .i64 d.2.1, .slice os d.2.2.length cs] 77)) := (Below.refl _ wr).alloc (Nat.le_refl _) _
        refine ⟨Nat.zero_le _, ?_, hBr.trans (hb.mono hBr.size), by rw [hbx]; exact Bk.new _ _ _⟩
        simpa using row_below hown hb
      obtain ⟨W, hW⟩ : ∃ W, W = wr.alloc (.cells #[.int .i64 d.1, .int .i64 d.2.1, .slice os d.2.2.length cs] 77) := ⟨_, rfl⟩
      have hdl := hdm.1
      rw [← hW] at HF0
      have hBk := HF0.out.2.2.2
      have y2 : W.cell? ⟨bx, 2, none⟩ = some (.slice os d.2.2.length cs) := by rw [hBk.cell]; rfl
      clear hown hBr hat htk hgs hsv hdm hBk
      go_wp2_with fail
      rw [← hW, ← hbx]
      clear hW hbx y2 c0 c1 c2
      generalize decide ((m : Int) < (D.length : Int)) = bm
      go_loopw [7, 26] (fun v i wq => ∃ j : Nat, i = .int .i64 j ∧ FIn D w3 m d bx (.slice os d.2.2.length cs) j v wq) (fun _ i _ => d.2.2.length - (intOf i).toNat)
      case atStart => exact ⟨0, rfl, HF0.out⟩
      case round =>
        obtain ⟨j, rfl, hI⟩ := hrel
        obtain ⟨hjl, hown, hBr, hbk⟩ := hI
        by_cases hj : j < d.2.2.length
        · obtain ⟨gs, rfl, hgs1, hgs2⟩ := HS.out (by omega)
          obtain ⟨z0, z1⟩ := hgs2 j hj
          rw [← hBr.cell (p := ⟨gs, j * 2, none⟩) hgs1] at z0
          rw [← hBr.cell (p := ⟨gs, j * 2 + 1, none⟩) hgs1] at z1
          have hb := HT.out.2 _ (List.getElem_mem hj)
          have hrj : (rcts d).take (j + 1) = (rcts d).take j ++ [⟨d.2.2[j].1, d.1, d.2.2[j].2 - d.2.2[j].1, d.2.1 - d.1⟩] := by
            have hj' : j < (rcts d).length := by simpa [rcts] using hj
            rw [(List.take_append_getElem hj').symm]
            congr 1
            simp [rcts]
          have hrl : ((rcts d).take j).length ≤ 9000 := by
            rw [List.length_take]
            have : (rcts d).length = d.2.2.length := by simp [rcts]
            omega
          generalize d.2.2[j] = s at *
          obtain ⟨acc, hac⟩ : ∃ acc, acc = ((D.take m).map rcts).flatten ++ (rcts d).take j := ⟨_, rfl⟩
          have hacl : acc.length ≤ 12000 * 9000 + 9000 := by rw [hac, List.length_append]; omega
          have HN : Hid (((D.take m).map rcts).flatten ++ (rcts d).take (j + 1) = acc ++ [⟨s.1, d.1, s.2 - s.1, d.2.1 - d.1⟩]) := by unfold Hid; rw [hrj, ← List.append_assoc, hac]
          rw [← hac] at hown
          have HW : Hid (∀ o o2, ((wr.alloc o).alloc o2).ownsRow w3.heap.size 35 4 u7 acc.length (flat acc) ∧ Below w3.heap.size w3 ((wr.alloc o).alloc o2) ∧ Bk ((wr.alloc o).alloc o2) bx #[.int .i64 d.1, .int .i64 d.2.1, .slice (some ⟨gs, 0, none⟩) d.2.2.length cs] 77) := fun o o2 => by
            have hb2 : Below wr.heap.size wr ((wr.alloc o).alloc o2) := ((Below.refl _ wr).alloc (Nat.le_refl _) o).alloc (by simp) o2
            exact ⟨row_below hown hb2, hBr.trans (hb2.mono hBr.size), hbk.below hb2⟩
          have hc3 : Hid (acc.length + 1 ≤ maxLen) := by unfold Hid maxLen; omega
          have hc4 : Hid ((acc.length + 1) * 32 ≤ 140737488355328) := by unfold Hid; omega
          have y0 : wr.cell? ⟨bx, 0, none⟩ = some (.int .i64 d.1) := by rw [hbk.cell]; rfl
          have y1 : wr.cell? ⟨bx, 1, none⟩ = some (.int .i64 d.2.1) := by rw [hbk.cell]; rfl
          have hbxl := hbk.lt
          clear hown hBr hbk hac hrj hgs2 hrl
          obtain ⟨hi, hz0, hz1, hz2⟩ := HI.out
          go_wp2_with (at_builtin; refine wpList_append_own _ rfl _ _ 23 rfl w3.heap.size 35 i0 (.agg #[.int .i64 0, .int .i64 0, .int .i64 0, .int .i64 0]) 4 32 Try.underlying23 hi hz0 hz1 hz2 rfl (by decide) u7 acc.length (flat acc) rfl (HW.out _ _).1 _ 1 1 [.int .i64 s.1, .int .i64 d.1, .int .i64 (s.2 - s.1), .int .i64 (d.2.1 - d.1)] rfl rfl (cell_fourB _ _ _ _ _ _ _ (by simp)) (one4 ⟨s.1, d.1, s.2 - s.1, d.2.1 - d.1⟩) hc3.out hc4.out (HW.out _ _).2.1.size ?_)
          intro v' w4 hown' hgrow hnil
          have HRel : Hid (∃ j' : Nat, Value.int .i64 ((j : Int) + 1) = .int .i64 j' ∧ FIn D w3 m d bx (.slice (some ⟨gs, 0, none⟩) d.2.2.length cs) j' v' w4) := by
            refine ⟨j + 1, by go_num, by omega, ?_, app_below (HW.out _ _).2.1 (HW.out _ _).1 (Nat.le_refl _) hgrow, (HW.out _ _).2.2.apart (HW.out _ _).1 (by decide) hgrow⟩
            rw [HN.out, List.length_append, flat_app]
            exact hown'
          clear hown' hgrow hnil hi hz0 hz1 hz2
          go_wp2
          go_roundw
          case rel =>
            first
              | exact HRel.out
              | (repeat apply Exists.intro
                 exact ⟨HRel.out, rfl⟩)
          case measure => simp [intOf]; omega
        · obtain rfl : j = d.2.2.length := by omega
          have HRel : Hid (∃ m' : Nat, Value.int .i64 ((m : Int) + 1) = .int .i64 m' ∧ FOut D w3 m' u7 wr) := by
            refine ⟨m + 1, by go_num, by omega, ?_, hBr⟩
            have e1 : (rcts d).take d.2.2.length = rcts d := List.take_of_length_le (by simp [rcts])
            rw [e1] at hown
            rw [HT.out.1]
            exact hown
          clear hown hBr hbk
          go_wp2
          exact ⟨HRel.out, by simp [intOf]; omega⟩
    · obtain rfl : m = D.length := by omega
      rw [List.take_length] at hown
      have HF : Hid (wr.ownsRow w.heap.size 35 4 u7 ((D.map rcts).flatten).length (flat ((D.map rcts).flatten)) ∧ Below w.heap.size w wr) := ⟨row_weaken hown HG.out.2.size, HG.out.2.trans (hBr.mono HG.out.2.size)⟩
      clear hown hBr
      go_wp2
      go_ret
      exact ⟨_, rfl, HF.out.1, HF.out.2⟩

end Go.Proofs.Ytagkbpceiedikaa
