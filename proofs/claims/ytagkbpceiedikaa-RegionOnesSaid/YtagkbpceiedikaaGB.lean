/-
  Sets of places in plain lists: rows, edges, bands, the form; one form for each set.
-/
import Derived.Test.YtagkbpceiedikaaGA
namespace Go.Proofs.Ytagkbpceiedikaa

/-- A rectangle that has places. -/
def keepE (r : Rc) : Bool := !emptyB r.x r.y r.w r.h
theorem keepE_iff (r : Rc) : keepE r = true ↔ -16384 ≤ r.x ∧ 0 < r.w ∧ r.x + r.w ≤ 16384 ∧ -16384 ≤ r.y ∧ 0 < r.h ∧ r.y + r.h ≤ 16384 := by
  unfold keepE emptyB
  rw [Bool.not_eq_true', Bool.or_eq_false_iff, Bool.or_eq_false_iff, Bool.not_eq_false', may_iff]
  simp only [beq_eq_false_iff_ne]
  omega
/-- A place is one of a list's. -/
def cov (l : List Rc) (x y : Int) : Prop := ∃ r ∈ l, keepE r = true ∧ r.x ≤ x ∧ x < r.x + r.w ∧ r.y ≤ y ∧ y < r.y + r.h
def insX (r : Rc) : List Rc → List Rc
  | [] => [r]
  | q :: t => if r.x ≤ q.x then r :: q :: t else q :: insX r t
def solidF (l : List Rc) : List Rc := (l.filter keepE).foldr insX []
theorem insX_mem (r q : Rc) : ∀ l : List Rc, q ∈ insX r l ↔ q = r ∨ q ∈ l
  | [] => by simp [insX]
  | a :: t => by
    rw [insX]
    split
    · simp
    · rw [List.mem_cons, insX_mem r q t, List.mem_cons]
      constructor
      · rintro (h | h | h)
        · exact .inr (.inl h)
        · exact .inl h
        · exact .inr (.inr h)
      · rintro (h | h | h)
        · exact .inr (.inl h)
        · exact .inl h
        · exact .inr (.inr h)
theorem insX_sort (r : Rc) (hr : 0 < r.w) : ∀ {a : Int} {l : List Rc}, SortX a l → a ≤ r.x → SortX a (insX r l)
  | _, [], _, h => ⟨h, hr, trivial⟩
  | a, q :: t, hl, h => by
    rw [insX]
    split
    · next c => exact ⟨h, hr, c, hl.2⟩
    · next c => exact ⟨hl.1, hl.2.1, insX_sort r hr hl.2.2 (by omega)⟩
theorem fold_sort : ∀ (l : List Rc), (∀ r ∈ l, keepE r = true) → SortX (-16384) (l.foldr insX []) ∧ ∀ q, q ∈ l.foldr insX [] ↔ q ∈ l
  | [], _ => ⟨trivial, fun _ => Iff.rfl⟩
  | r :: t, h => by
    obtain ⟨i1, i2⟩ := fold_sort t (fun q hq => h q (by simp [hq]))
    have hr := (keepE_iff r).1 (h r (by simp))
    rw [List.foldr_cons]
    exact ⟨insX_sort r hr.2.1 i1 hr.1, fun q => by rw [insX_mem, i2, List.mem_cons]⟩
theorem solid_sort (l : List Rc) : SortX (-16384) (solidF l) ∧ ∀ q, q ∈ solidF l ↔ q ∈ l ∧ keepE q = true := by
  obtain ⟨h1, h2⟩ := fold_sort (l.filter keepE) (fun r hr => (List.mem_filter.1 hr).2)
  exact ⟨h1, fun q => by unfold solidF; rw [h2, List.mem_filter]⟩
/-- The runs of a list's row. -/
def rowF (l : List Rc) (y : Int) : List Sp := runsF y (solidF l) []
theorem row_any {l L : List Rc} (hs : SortX (-16384) L) (hm : ∀ q, q ∈ L ↔ q ∈ l ∧ keepE q = true) (y : Int) : Can (-16384) (runsF y L []) ∧ ∀ x, inS (runsF y L []) x ↔ cov l x y := by
  obtain ⟨h1, h2⟩ := runs_can y (-16384) (acc := []) hs trivial (Int.le_refl _) trivial
  refine ⟨h1, fun x => ?_⟩
  rw [h2]
  unfold colS cov rowOf
  simp only [inS_nil, false_or]
  constructor
  · rintro ⟨r, hr, ⟨p1, p2⟩, p3, p4⟩
    obtain ⟨q1, q2⟩ := (hm r).1 hr
    exact ⟨r, q1, q2, p3, p4, p1, p2⟩
  · rintro ⟨r, q1, q2, p3, p4, p1, p2⟩
    exact ⟨r, (hm r).2 ⟨q1, q2⟩, ⟨p1, p2⟩, p3, p4⟩
theorem row_can (l : List Rc) (y : Int) : Can (-16384) (rowF l y) ∧ ∀ x, inS (rowF l y) x ↔ cov l x y := row_any (solid_sort l).1 (solid_sort l).2 y
/-- However the rectangles are sorted by their left sides. -/
theorem row_eq {l L : List Rc} (hs : SortX (-16384) L) (hm : ∀ q, q ∈ L ↔ q ∈ l ∧ keepE q = true) (y : Int) : runsF y L [] = rowF l y := by
  obtain ⟨h1, h2⟩ := row_any hs hm y
  obtain ⟨h3, h4⟩ := row_can l y
  exact can_unique h1 h3 fun x => (h2 x).trans (h4 x).symm

/-- What is left of the spans of two rows: what both have, or what the one has without the other. -/
def wantF (k : Bool) (a b : List Sp) : List Sp := if k then piecesF a (piecesF a b) else piecesF a b
def keepP (k : Bool) (A B : Prop) : Prop := A ∧ (if k then B else ¬ B)
def rowW (k : Bool) (a b : List Rc) (y : Int) : List Sp := wantF k (rowF a y) (rowF b y)
theorem want_can {k : Bool} {z z' : Int} {a b : List Sp} (ha : Can z a) (hb : Can z' b) : Can z (wantF k a b) ∧ ∀ x, inS (wantF k a b) x ↔ keepP k (inS a x) (inS b x) := by
  obtain ⟨p1, p2⟩ := pieces_can ha hb
  unfold wantF keepP
  cases k with
  | false => exact ⟨p1, p2⟩
  | true =>
    obtain ⟨q1, q2⟩ := pieces_can ha p1
    refine ⟨q1, fun x => ?_⟩
    rw [if_pos rfl, q2, p2]
    simp only [if_true]
    constructor
    · rintro ⟨h1, h2⟩
      exact ⟨h1, Classical.byContradiction fun h3 => h2 ⟨h1, h3⟩⟩
    · rintro ⟨h1, h2⟩
      exact ⟨h1, fun h3 => h3.2 h2⟩
theorem rowW_can (k : Bool) (a b : List Rc) (y : Int) : Can (-16384) (rowW k a b y) ∧ ∀ x, inS (rowW k a b y) x ↔ keepP k (cov a x y) (cov b x y) := by
  obtain ⟨a1, a2⟩ := row_can a y
  obtain ⟨b1, b2⟩ := row_can b y
  obtain ⟨w1, w2⟩ := want_can (k := k) a1 b1
  refine ⟨w1, fun x => (w2 x).trans ?_⟩
  unfold keepP
  rw [a2]
  cases k <;> simp [b2]

/-- Edges, each once, rising. -/
def insU (n : Int) : List Int → List Int
  | [] => [n]
  | m :: t => if n < m then n :: m :: t else if n = m then m :: t else m :: insU n t
theorem insU_mem (n q : Int) : ∀ l : List Int, q ∈ insU n l ↔ q = n ∨ q ∈ l
  | [] => by simp [insU]
  | m :: t => by
    rw [insU]
    split
    · simp
    · split
      · next h => subst h; simp
      · rw [List.mem_cons, insU_mem n q t, List.mem_cons]
        constructor
        · rintro (h | h | h)
          · exact .inr (.inl h)
          · exact .inl h
          · exact .inr (.inr h)
        · rintro (h | h | h)
          · exact .inr (.inl h)
          · exact .inl h
          · exact .inr (.inr h)
/-- Numbers that rise. -/
def Inc : List Int → Prop
  | [] => True
  | a :: t => (∀ b ∈ t, a < b) ∧ Inc t
theorem insU_inc (n : Int) : ∀ {l : List Int}, Inc l → Inc (insU n l)
  | [], _ => ⟨by simp, trivial⟩
  | m :: t, h => by
    rw [insU]
    split
    · next c => exact ⟨fun b hb => by rcases List.mem_cons.1 hb with rfl | hb; exact c; have := h.1 b hb; omega, h⟩
    · next c =>
      split
      · exact h
      · next d => exact ⟨fun b hb => by rcases (insU_mem n b t).1 hb with rfl | hb; omega; exact h.1 b hb, insU_inc n h.2⟩
theorem inc_unique : ∀ {l m : List Int}, Inc l → Inc m → (∀ x, x ∈ l ↔ x ∈ m) → l = m
  | [], [], _, _, _ => rfl
  | [], b :: m, _, _, h => absurd ((h b).2 (by simp)) (by simp)
  | a :: l, [], _, _, h => absurd ((h a).1 (by simp)) (by simp)
  | a :: l, b :: m, hl, hm, h => by
    have e : a = b := by
      rcases List.mem_cons.1 ((h a).1 (by simp)) with e | e
      · exact e
      · rcases List.mem_cons.1 ((h b).2 (by simp)) with e' | e'
        · exact e'.symm
        · have := hm.1 a e; have := hl.1 b e'; omega
    subst e
    congr 1
    refine inc_unique hl.2 hm.2 fun x => ?_
    constructor
    · intro hx
      rcases List.mem_cons.1 ((h x).1 (by simp [hx])) with e | e
      · have := hl.1 x hx; omega
      · exact e
    · intro hx
      rcases List.mem_cons.1 ((h x).2 (by simp [hx])) with e | e
      · have := hm.1 x hx; omega
      · exact e
def edgesF (l : List Rc) : List Int := (l.filter keepE).foldr (fun r acc => insU r.y (insU (r.y + r.h) acc)) []
def isEdge (l : List Rc) (n : Int) : Prop := ∃ r ∈ l, keepE r = true ∧ (n = r.y ∨ n = r.y + r.h)
theorem edges_fold : ∀ (l : List Rc), Inc (l.foldr (fun r acc => insU r.y (insU (r.y + r.h) acc)) []) ∧ ∀ n, n ∈ l.foldr (fun r acc => insU r.y (insU (r.y + r.h) acc)) [] ↔ ∃ r ∈ l, n = r.y ∨ n = r.y + r.h
  | [] => ⟨trivial, fun n => by simp⟩
  | r :: t => by
    obtain ⟨i1, i2⟩ := edges_fold t
    rw [List.foldr_cons]
    refine ⟨insU_inc _ (insU_inc _ i1), fun n => ?_⟩
    rw [insU_mem, insU_mem, i2]
    constructor
    · rintro (h | h | ⟨q, hq, h⟩)
      · exact ⟨r, by simp, .inl h⟩
      · exact ⟨r, by simp, .inr h⟩
      · exact ⟨q, by simp [hq], h⟩
    · rintro ⟨q, hq, h⟩
      rcases List.mem_cons.1 hq with rfl | hq
      · rcases h with h | h
        · exact .inl h
        · exact .inr (.inl h)
      · exact .inr (.inr ⟨q, hq, h⟩)
theorem edges_inc (l : List Rc) : Inc (edgesF l) ∧ ∀ n, n ∈ edgesF l ↔ isEdge l n := by
  obtain ⟨h1, h2⟩ := edges_fold (l.filter keepE)
  refine ⟨h1, fun n => ?_⟩
  unfold edgesF isEdge
  rw [h2]
  constructor
  · rintro ⟨r, hr, h⟩
    obtain ⟨p, q⟩ := List.mem_filter.1 hr
    exact ⟨r, p, q, h⟩
  · rintro ⟨r, p, q, h⟩
    exact ⟨r, List.mem_filter.2 ⟨p, q⟩, h⟩

/-- Bands, the lowest first: its top, its bottom, its spans. -/
abbrev Bd := Int × Int × List Sp
def bandS (sp : List Sp) (t b : Int) : List Bd → List Bd
  | [] => if sp = [] then [] else [(t, b, sp)]
  | d :: ds => if sp = [] then d :: ds else if d.2.1 = t ∧ d.2.2 = sp then (d.1, b, d.2.2) :: ds else (t, b, sp) :: d :: ds
def bandsF (row : Int → List Sp) : List Int → List Bd → List Bd
  | t :: b :: rest, acc => bandsF row (b :: rest) (bandS (row t) t b acc)
  | _, acc => acc
/-- The spans of a row. -/
def fAt : List Bd → Int → List Sp
  | [], _ => []
  | d :: ds, y => if d.1 ≤ y ∧ y < d.2.1 then d.2.2 else fAt ds y
def notNext (d : Bd) : List Bd → Prop
  | [] => True
  | e :: _ => e.2.1 = d.1 → e.2.2 ≠ d.2.2
def BanR : Int → List Bd → Prop
  | _, [] => True
  | z, d :: ds => d.2.1 ≤ z ∧ d.1 < d.2.1 ∧ d.2.2 ≠ [] ∧ notNext d ds ∧ BanR d.1 ds
theorem BanR.mono : ∀ {z z' : Int} {l : List Bd}, BanR z l → z ≤ z' → BanR z' l
  | _, _, [], _, _ => trivial
  | _, _, _ :: _, h, hz => ⟨by have := h.1; omega, h.2⟩
theorem fAt_high : ∀ {z : Int} {l : List Bd}, BanR z l → ∀ y, z ≤ y → fAt l y = []
  | _, [], _, _, _ => rfl
  | z, d :: ds, h, y, hy => by
    obtain ⟨h1, h2, h3, h4, h5⟩ := h
    rw [fAt, if_neg (by omega)]
    exact fAt_high h5 y (by omega)
theorem fAt_next {d : Bd} {ds : List Bd} (hn : notNext d ds) (hb : BanR d.1 ds) (hd : d.2.2 ≠ []) : fAt ds (d.1 - 1) ≠ d.2.2 := by
  cases ds with
  | nil => exact fun h => hd h.symm
  | cons e es =>
    obtain ⟨h1, h2, h3, h4, h5⟩ := hb
    rw [fAt]
    by_cases c : e.2.1 = d.1
    · rw [if_pos (by omega)]
      exact hn c
    · rw [if_neg (by omega), fAt_high h5 _ (by omega)]
      exact fun h => hd h.symm
/-- One list of bands for each set of places. -/
theorem ban_unique : ∀ {z z' : Int} {l m : List Bd}, BanR z l → BanR z' m → (∀ y, fAt l y = fAt m y) → l = m
  | _, _, [], [], _, _, _ => rfl
  | _, _, [], e :: m, _, hm, h => by
    obtain ⟨h1, h2, h3, h4, h5⟩ := hm
    have := h e.1
    rw [fAt, fAt, if_pos (by omega)] at this
    exact absurd this.symm h3
  | _, _, d :: l, [], hl, _, h => by
    obtain ⟨h1, h2, h3, h4, h5⟩ := hl
    have := h d.1
    rw [fAt, fAt, if_pos (by omega)] at this
    exact absurd this h3
  | _, _, d :: l, e :: m, hl, hm, h => by
    have fl := fun y => fAt_high (show BanR d.2.1 (d :: l) from ⟨Int.le_refl _, hl.2⟩) y
    have fm := fun y => fAt_high (show BanR e.2.1 (e :: m) from ⟨Int.le_refl _, hm.2⟩) y
    obtain ⟨l1, l2, l3, l4, l5⟩ := hl
    obtain ⟨m1, m2, m3, m4, m5⟩ := hm
    have hd : ∀ y, d.1 ≤ y → y < d.2.1 → fAt (d :: l) y = d.2.2 := fun y a b => by rw [fAt, if_pos ⟨a, b⟩]
    have he : ∀ y, e.1 ≤ y → y < e.2.1 → fAt (e :: m) y = e.2.2 := fun y a b => by rw [fAt, if_pos ⟨a, b⟩]
    have e1 : d.2.1 = e.2.1 := by
      rcases Int.lt_trichotomy d.2.1 e.2.1 with c | c | c
      · have := h (e.2.1 - 1)
        rw [fl _ (by omega), he _ (by omega) (by omega)] at this
        exact absurd this.symm m3
      · exact c
      · have := h (d.2.1 - 1)
        rw [fm _ (by omega), hd _ (by omega) (by omega)] at this
        exact absurd this l3
    have e2 : d.2.2 = e.2.2 := by
      have := h (d.2.1 - 1)
      rwa [hd _ (by omega) (by omega), he _ (by omega) (by omega)] at this
    have e3 : d.1 = e.1 := by
      rcases Int.lt_trichotomy d.1 e.1 with c | c | c
      · have := h (e.1 - 1)
        rw [hd _ (by omega) (by omega), fAt, if_neg (by omega), e2] at this
        exact absurd this.symm (fAt_next m4 m5 m3)
      · exact c
      · have := h (d.1 - 1)
        rw [he _ (by omega) (by omega), fAt, if_neg (by omega), ← e2] at this
        exact absurd this (fAt_next l4 l5 l3)
    have ee : d = e := Prod.ext e3 (Prod.ext e1 e2)
    subst ee
    congr 1
    refine ban_unique l5 m5 fun y => ?_
    rcases Int.lt_or_le y d.1 with c | c
    · have := h y
      rwa [fAt, fAt, if_neg (by omega), if_neg (by omega)] at this
    · rw [fAt_high l5 y c, fAt_high m5 y c]

theorem bandS_ban {sp : List Sp} {t b : Int} (htb : t < b) : ∀ {l : List Bd}, BanR t l → BanR b (bandS sp t b l) ∧ ∀ y, fAt (bandS sp t b l) y = if t ≤ y ∧ y < b then sp else fAt l y
  | [], _ => by
    rw [bandS]
    by_cases c : sp = []
    · rw [if_pos c]
      refine ⟨trivial, fun y => ?_⟩
      rw [c]; simp [fAt]
    · rw [if_neg c]
      exact ⟨⟨Int.le_refl _, htb, c, trivial, trivial⟩, fun y => rfl⟩
  | d :: ds, h => by
    have hh := fAt_high h
    obtain ⟨h1, h2, h3, h4, h5⟩ := id h
    rw [bandS]
    by_cases c : sp = []
    · rw [if_pos c]
      refine ⟨h.mono (by omega), fun y => ?_⟩
      split
      · next p => rw [hh y p.1, c]
      · rfl
    · rw [if_neg c]
      by_cases c2 : d.2.1 = t ∧ d.2.2 = sp
      · rw [if_pos c2]
        refine ⟨⟨Int.le_refl _, by show d.1 < b; omega, h3, ?_, h5⟩, fun y => ?_⟩
        · cases ds with
          | nil => trivial
          | cons e es => exact h4
        · rw [fAt, fAt]
          dsimp only
          by_cases p : t ≤ y ∧ y < b
          · rw [if_pos p, if_pos (by omega), c2.2]
          · rw [if_neg p]
            by_cases q : d.1 ≤ y ∧ y < d.2.1
            · rw [if_pos q, if_pos (by omega)]
            · rw [if_neg q, if_neg (by omega)]
      · rw [if_neg c2]
        refine ⟨⟨Int.le_refl _, htb, c, fun p q => c2 ⟨p, q⟩, h⟩, fun y => rfl⟩
theorem bands_ban (row : Int → List Sp) : ∀ (ys : List Int) {z : Int} {acc : List Bd}, Inc (z :: ys) → BanR z acc →
    (∃ z', BanR z' (bandsF row (z :: ys) acc)) ∧ ∀ y, fAt (bandsF row (z :: ys) acc) y = if z ≤ y ∧ ∃ b ∈ ys, y < b then row ((z :: ys).foldl (fun m n => if n ≤ y then n else m) z) else fAt acc y
  | [], z, acc, _, ha => by
    refine ⟨⟨z, ha⟩, fun y => ?_⟩
    rw [bandsF]
    · simp
    · intro t b r h; cases h
  | b :: ys, z, acc, hi, ha => by
    have hzb : z < b := hi.1 b (by simp)
    obtain ⟨s1, s2⟩ := bandS_ban (sp := row z) hzb ha
    obtain ⟨i1, i2⟩ := bands_ban row ys hi.2 s1
    rw [bandsF]
    refine ⟨i1, fun y => ?_⟩
    rw [i2, s2]
    have hbig : ∀ n ∈ ys, b < n := hi.2.1
    have skip : ∀ (l : List Int) (m : Int), (∀ n ∈ l, y < n) → l.foldl (fun m n => if n ≤ y then n else m) m = m := by
      intro l
      induction l with
      | nil => intro m _; rfl
      | cons n t ih => intro m h; rw [List.foldl_cons, if_neg (by have := h n (by simp); omega)]; exact ih m (fun k hk => h k (by simp [hk]))
    by_cases p : b ≤ y
    · have f1 : (z :: b :: ys).foldl (fun m n => if n ≤ y then n else m) z = (b :: ys).foldl (fun m n => if n ≤ y then n else m) b := by
        simp only [List.foldl_cons]
        rw [if_pos (show z ≤ y by omega), if_pos p, ite_self]
      rw [f1]
      by_cases q : ∃ n ∈ ys, y < n
      · rw [if_pos ⟨p, q⟩, if_pos ⟨by omega, by obtain ⟨n, h1, h2⟩ := q; exact ⟨n, by simp [h1], h2⟩⟩]
      · rw [if_neg (fun h => q h.2), if_neg (by omega), if_neg ?_]
        rintro ⟨_, n, hn, h⟩
        rcases List.mem_cons.1 hn with rfl | hn
        · omega
        · exact q ⟨n, hn, h⟩
    · rw [if_neg (fun h => p h.1)]
      by_cases q : z ≤ y
      · rw [if_pos ⟨q, by omega⟩, if_pos ⟨q, b, by simp, by omega⟩]
        congr 1
        rw [List.foldl_cons, if_pos q]
        exact (skip (b :: ys) z (fun n hn => by rcases List.mem_cons.1 hn with rfl | hn; omega; have := hbig n hn; omega)).symm
      · rw [if_neg (fun h => q h.1), if_neg (fun h => q h.1)]

end Go.Proofs.Ytagkbpceiedikaa
