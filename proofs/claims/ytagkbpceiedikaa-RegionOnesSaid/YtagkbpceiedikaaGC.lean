/-
  The form of what is left of two lists: its bands, its places; one form for each set of places.
-/
import Derived.Test.YtagkbpceiedikaaGB
namespace Go.Proofs.Ytagkbpceiedikaa

theorem fold_max (y : Int) : ∀ (l : List Int) (m : Int), Inc (m :: l) → m ≤ y → (l.foldl (fun m n => if n ≤ y then n else m) m = m ∨ l.foldl (fun m n => if n ≤ y then n else m) m ∈ l) ∧ l.foldl (fun m n => if n ≤ y then n else m) m ≤ y ∧
    m ≤ l.foldl (fun m n => if n ≤ y then n else m) m ∧ ∀ n ∈ l, n ≤ y → n ≤ l.foldl (fun m n => if n ≤ y then n else m) m
  | [], m, _, hm => ⟨.inl rfl, hm, Int.le_refl _, by simp⟩
  | n :: t, m, hi, hm => by
    have hmn : m < n := hi.1 n (by simp)
    rw [List.foldl_cons]
    by_cases c : n ≤ y
    · rw [if_pos c]
      obtain ⟨h1, h2, h3, h4⟩ := fold_max y t n hi.2 c
      refine ⟨.inr ?_, h2, by omega, fun k hk hky => ?_⟩
      · rcases h1 with h1 | h1
        · rw [h1]; simp
        · simp [h1]
      · rcases List.mem_cons.1 hk with rfl | hk
        · exact h3
        · exact h4 k hk hky
    · rw [if_neg c]
      obtain ⟨h1, h2, h3, h4⟩ := fold_max y t m ⟨fun b hb => hi.1 b (by simp [hb]), hi.2.2⟩ hm
      refine ⟨?_, h2, h3, fun k hk hky => ?_⟩
      · rcases h1 with h1 | h1
        · exact .inl h1
        · exact .inr (by simp [h1])
      · rcases List.mem_cons.1 hk with rfl | hk
        · omega
        · exact h4 k hk hky

theorem isEdge_app (a b : List Rc) (n : Int) : isEdge (a ++ b) n ↔ isEdge a n ∨ isEdge b n := by
  unfold isEdge
  constructor
  · rintro ⟨r, hr, h⟩
    rcases List.mem_append.1 hr with hr | hr
    · exact .inl ⟨r, hr, h⟩
    · exact .inr ⟨r, hr, h⟩
  · rintro (⟨r, hr, h⟩ | ⟨r, hr, h⟩)
    · exact ⟨r, by simp [hr], h⟩
    · exact ⟨r, by simp [hr], h⟩
theorem cov_app (a b : List Rc) (x y : Int) : cov (a ++ b) x y ↔ cov a x y ∨ cov b x y := by
  unfold cov
  constructor
  · rintro ⟨r, hr, h⟩
    rcases List.mem_append.1 hr with hr | hr
    · exact .inl ⟨r, hr, h⟩
    · exact .inr ⟨r, hr, h⟩
  · rintro (⟨r, hr, h⟩ | ⟨r, hr, h⟩)
    · exact ⟨r, by simp [hr], h⟩
    · exact ⟨r, by simp [hr], h⟩
/-- Between two edges all rows are alike. -/
theorem cov_step {l : List Rc} {m y : Int} (hm : m ≤ y) (h : ∀ n, isEdge l n → n ≤ y → n ≤ m) (x : Int) : cov l x m ↔ cov l x y := by
  unfold cov
  constructor
  · rintro ⟨r, hr, hk, p1, p2, p3, p4⟩
    refine ⟨r, hr, hk, p1, p2, by omega, ?_⟩
    rcases Int.lt_or_le y (r.y + r.h) with c | c
    · exact c
    · have := h (r.y + r.h) ⟨r, hr, hk, .inr rfl⟩ c; omega
  · rintro ⟨r, hr, hk, p1, p2, p3, p4⟩
    have := h r.y ⟨r, hr, hk, .inl rfl⟩ p3
    exact ⟨r, hr, hk, p1, p2, this, by omega⟩

def bandsR (k : Bool) (a b : List Rc) : List Bd := bandsF (rowW k a b) (edgesF (a ++ b)) []
theorem rowW_same {k k' : Bool} {a b a' b' : List Rc} {y y' : Int} (h : ∀ x, keepP k (cov a x y) (cov b x y) ↔ keepP k' (cov a' x y') (cov b' x y')) : rowW k a b y = rowW k' a' b' y' := by
  obtain ⟨h1, h2⟩ := rowW_can k a b y
  obtain ⟨h3, h4⟩ := rowW_can k' a' b' y'
  exact can_unique h1 h3 fun x => (h2 x).trans ((h x).trans (h4 x).symm)
theorem keepP_congr {k : Bool} {A B A' B' : Prop} (ha : A ↔ A') (hb : B ↔ B') : keepP k A B ↔ keepP k A' B' := by
  unfold keepP; rw [ha]; cases k <;> simp [hb]
theorem rowW_none {k : Bool} {a b : List Rc} {y : Int} (h : ∀ x, ¬ cov a x y) : rowW k a b y = [] := by
  obtain ⟨h1, h2⟩ := rowW_can k a b y
  refine can_unique h1 (b := 0) trivial fun x => ?_
  rw [h2]
  constructor
  · intro p; exact absurd p.1 (h x)
  · intro p; exact absurd p (inS_nil x)
theorem bands_any (k : Bool) (a b : List Rc) {ys : List Int} (hi : Inc ys) (hm : ∀ n, n ∈ ys ↔ isEdge (a ++ b) n) : (∃ z, BanR z (bandsF (rowW k a b) ys [])) ∧ ∀ y, fAt (bandsF (rowW k a b) ys []) y = rowW k a b y := by
  cases ys with
  | nil =>
    refine ⟨⟨0, by rw [bandsF]; trivial; intro t b r h; cases h⟩, fun y => ?_⟩
    rw [rowW_none]
    · rw [bandsF]
      · rfl
      · intro t b r h; cases h
    · rintro x ⟨r, hr, hk, _⟩
      exact absurd ((hm r.y).2 ⟨r, by simp [hr], hk, .inl rfl⟩) (by simp)
  | cons z ys =>
    obtain ⟨h1, h2⟩ := bands_ban (rowW k a b) ys hi (acc := []) (z := z) trivial
    refine ⟨h1, fun y => ?_⟩
    rw [h2]
    by_cases c : z ≤ y ∧ ∃ b ∈ ys, y < b
    · rw [if_pos c, List.foldl_cons, ite_self]
      obtain ⟨_, g2, g3, g4⟩ := fold_max y ys z hi c.1
      generalize ys.foldl (fun m n => if n ≤ y then n else m) z = m at *
      have step : ∀ n, isEdge (a ++ b) n → n ≤ y → n ≤ m := fun n hn hny => by
        rcases List.mem_cons.1 ((hm n).2 hn) with rfl | hn
        · exact g3
        · exact g4 n hn hny
      exact rowW_same fun x => keepP_congr (cov_step g2 (fun n hn => step n ((isEdge_app a b n).2 (.inl hn))) x) (cov_step g2 (fun n hn => step n ((isEdge_app a b n).2 (.inr hn))) x)
    · rw [if_neg c, rowW_none]
      · rfl
      · rintro x ⟨r, hr, hk, p1, p2, p3, p4⟩
        have e1 := (hm r.y).2 ⟨r, by simp [hr], hk, .inl rfl⟩
        have e2 := (hm (r.y + r.h)).2 ⟨r, by simp [hr], hk, .inr rfl⟩
        have hz : z ≤ r.y := by
          rcases List.mem_cons.1 e1 with e | e
          · omega
          · have := hi.1 _ e; omega
        refine c ⟨by omega, r.y + r.h, ?_, p4⟩
        rcases List.mem_cons.1 e2 with e | e
        · omega
        · exact e
theorem bandsR_ban (k : Bool) (a b : List Rc) : (∃ z, BanR z (bandsR k a b)) ∧ ∀ y, fAt (bandsR k a b) y = rowW k a b y :=
  bands_any k a b (edges_inc (a ++ b)).1 (edges_inc (a ++ b)).2
theorem bands_same {k k' : Bool} {a b a' b' : List Rc} (h : ∀ x y, keepP k (cov a x y) (cov b x y) ↔ keepP k' (cov a' x y) (cov b' x y)) : bandsR k a b = bandsR k' a' b' := by
  obtain ⟨⟨z, h1⟩, h2⟩ := bandsR_ban k a b
  obtain ⟨⟨z', h3⟩, h4⟩ := bandsR_ban k' a' b'
  exact ban_unique h1 h3 fun y => by rw [h2, h4]; exact rowW_same fun x => h x y

def rcts (d : Bd) : List Rc := d.2.2.map fun s => ⟨s.1, d.1, s.2 - s.1, d.2.1 - d.1⟩
def flatB (l : List Bd) : List Rc := (l.reverse.map rcts).flatten
/-- The form. -/
def formF (k : Bool) (a b : List Rc) : List Rc := flatB (bandsR k a b)
theorem form_same {k k' : Bool} {a b a' b' : List Rc} (h : ∀ x y, keepP k (cov a x y) (cov b x y) ↔ keepP k' (cov a' x y) (cov b' x y)) : formF k a b = formF k' a' b' := by
  unfold formF; rw [bands_same h]
theorem fAt_mem : ∀ {z : Int} {l : List Bd}, BanR z l → ∀ d ∈ l, ∀ y, d.1 ≤ y → y < d.2.1 → fAt l y = d.2.2
  | z, e :: es, h, d, hd, y, h1, h2 => by
    rcases List.mem_cons.1 hd with rfl | hd
    · rw [fAt, if_pos ⟨h1, h2⟩]
    · obtain ⟨g1, g2, g3, g4, g5⟩ := h
      have := fAt_mem g5 d hd y h1 h2
      have hne : y < e.1 := by
        rcases Int.lt_or_le y e.1 with c | c
        · exact c
        · have hh := fAt_high g5 y c
          rw [hh] at this
          have : ∀ {z : Int} {l : List Bd}, BanR z l → ∀ d ∈ l, d.2.2 ≠ [] := by
            intro z l
            induction l generalizing z with
            | nil => intro _ d hd; cases hd
            | cons e es ih =>
              intro h d hd
              rcases List.mem_cons.1 hd with rfl | hd
              · exact h.2.2.1
              · exact ih h.2.2.2.2 d hd
          exact absurd (by assumption : [] = d.2.2).symm (this g5 d hd)
      rw [fAt, if_neg (by omega)]
      exact this
theorem ban_mem : ∀ {z : Int} {l : List Bd}, BanR z l → ∀ d ∈ l, d.1 < d.2.1 ∧ d.2.2 ≠ []
  | z, e :: es, h, d, hd => by
    rcases List.mem_cons.1 hd with rfl | hd
    · exact ⟨h.2.1, h.2.2.1⟩
    · exact ban_mem h.2.2.2.2 d hd
theorem flat_mem (l : List Bd) (r : Rc) : r ∈ flatB l ↔ ∃ d ∈ l, ∃ s ∈ d.2.2, r = ⟨s.1, d.1, s.2 - s.1, d.2.1 - d.1⟩ := by
  unfold flatB rcts
  simp only [List.mem_flatten, List.mem_map, List.mem_reverse]
  constructor
  · rintro ⟨_, ⟨d, hd, rfl⟩, hr⟩
    obtain ⟨s, hs, rfl⟩ := List.mem_map.1 hr
    exact ⟨d, hd, s, hs, rfl⟩
  · rintro ⟨d, hd, s, hs, rfl⟩
    exact ⟨_, ⟨d, hd, rfl⟩, List.mem_map.2 ⟨s, hs, rfl⟩⟩
theorem cov_in {l : List Rc} {x y : Int} (h : cov l x y) : -16384 ≤ x ∧ x < 16384 ∧ -16384 ≤ y ∧ y < 16384 := by
  obtain ⟨r, _, hk, h1, h2, h3, h4⟩ := h
  have := (keepE_iff r).1 hk
  omega
/-- The rectangles of the form may be, and have places. -/
theorem form_keep (k : Bool) (a b : List Rc) : ∀ r ∈ formF k a b, keepE r = true := by
  intro r hr
  obtain ⟨d, hd, s, hs, rfl⟩ := (flat_mem _ _).1 hr
  obtain ⟨⟨z, h1⟩, h2⟩ := bandsR_ban k a b
  obtain ⟨b1, b2⟩ := ban_mem h1 d hd
  have hrow : ∀ y, d.1 ≤ y → y < d.2.1 → rowW k a b y = d.2.2 := fun y p q => by rw [← h2]; exact fAt_mem h1 d hd y p q
  have e := hrow d.1 (Int.le_refl _) b1
  have hc := (rowW_can k a b d.1).1
  rw [e] at hc
  have hs1 := (hc.ge s hs).2
  have in1 : ∀ y, d.1 ≤ y → y < d.2.1 → ∀ x, s.1 ≤ x → x < s.2 → cov a x y := fun y p q x u v => by
    have := (rowW_can k a b y).2 x
    rw [hrow y p q] at this
    exact (this.1 ⟨s, hs, u, v⟩).1
  have c1 := cov_in (in1 d.1 (Int.le_refl _) b1 s.1 (Int.le_refl _) hs1)
  have c2 := cov_in (in1 (d.2.1 - 1) (by omega) (by omega) (s.2 - 1) (by omega) (by omega))
  rw [keepE_iff]
  dsimp only
  omega
/-- The places of the form. -/
theorem form_cov (k : Bool) (a b : List Rc) (x y : Int) : cov (formF k a b) x y ↔ keepP k (cov a x y) (cov b x y) := by
  obtain ⟨⟨z, h1⟩, h2⟩ := bandsR_ban k a b
  rw [← (rowW_can k a b y).2, ← h2]
  constructor
  · rintro ⟨r, hr, hk, p1, p2, p3, p4⟩
    obtain ⟨d, hd, s, hs, rfl⟩ := (flat_mem _ _).1 hr
    dsimp only at p1 p2 p3 p4
    rw [fAt_mem h1 d hd y (by omega) (by omega)]
    exact ⟨s, hs, p1, by omega⟩
  · rintro ⟨s, hs, p1, p2⟩
    have : ∃ d ∈ bandsR k a b, d.1 ≤ y ∧ y < d.2.1 ∧ s ∈ d.2.2 := by
      generalize bandsR k a b = l at hs
      induction l with
      | nil => cases hs
      | cons e es ih =>
        rw [fAt] at hs
        split at hs
        · next c => exact ⟨e, by simp, c.1, c.2, hs⟩
        · obtain ⟨d, hd, q⟩ := ih hs
          exact ⟨d, by simp [hd], q⟩
    obtain ⟨d, hd, q1, q2, q3⟩ := this
    have hr : (⟨s.1, d.1, s.2 - s.1, d.2.1 - d.1⟩ : Rc) ∈ formF k a b := (flat_mem _ _).2 ⟨d, hd, s, q3, rfl⟩
    refine ⟨_, hr, form_keep k a b _ hr, p1, ?_, q1, ?_⟩
    · dsimp only; omega
    · dsimp only; omega
theorem cov_nil (x y : Int) : ¬ cov [] x y := by rintro ⟨r, hr, _⟩; cases hr
/-- A form is its own form. -/
theorem form_form (k : Bool) (a b : List Rc) : formF false (formF k a b) [] = formF k a b := by
  refine form_same fun x y => ?_
  rw [← form_cov k a b]
  unfold keepP
  simp [cov_nil]

end Go.Proofs.Ytagkbpceiedikaa
