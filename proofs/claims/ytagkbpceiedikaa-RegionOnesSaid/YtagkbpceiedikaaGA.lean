/-
  Spans of a row in plain lists: one form for each set of columns.
-/
import Derived.Test.YtagkbpceiedikaaPlain
namespace Go.Proofs.Ytagkbpceiedikaa

abbrev Sp := Int × Int
/-- A column lies in one of the spans. -/
def inS (l : List Sp) (x : Int) : Prop := ∃ s ∈ l, s.1 ≤ x ∧ x < s.2
/-- Spans from the left, a gap between any two; all from a on. -/
def Can : Int → List Sp → Prop
  | _, [] => True
  | a, s :: t => a ≤ s.1 ∧ s.1 < s.2 ∧ Can (s.2 + 1) t
theorem Can.mono : ∀ {a b : Int} {l : List Sp}, Can a l → b ≤ a → Can b l
  | _, _, [], _, _ => trivial
  | _, _, _ :: _, h, hb => ⟨by have := h.1; omega, h.2⟩
theorem Can.ge : ∀ {a : Int} {l : List Sp}, Can a l → ∀ s ∈ l, a ≤ s.1 ∧ s.1 < s.2
  | a, s :: t, h, q, hq => by
    rcases List.mem_cons.1 hq with rfl | hq
    · exact ⟨h.1, h.2.1⟩
    · have := Can.ge h.2.2 q hq
      have h1 := h.1
      have h2 := h.2.1
      omega
theorem Can.low {a : Int} {l : List Sp} (h : Can a l) {x : Int} (hx : inS l x) : a ≤ x := by
  obtain ⟨s, hs, h1, _⟩ := hx
  have := (h.ge s hs).1
  omega
theorem inS_cons (s : Sp) (t : List Sp) (x : Int) : inS (s :: t) x ↔ (s.1 ≤ x ∧ x < s.2) ∨ inS t x := by
  unfold inS
  constructor
  · rintro ⟨q, hq, h⟩
    rcases List.mem_cons.1 hq with rfl | hq
    · exact .inl h
    · exact .inr ⟨q, hq, h⟩
  · rintro (h | ⟨q, hq, h⟩)
    · exact ⟨s, by simp, h⟩
    · exact ⟨q, by simp [hq], h⟩
theorem inS_app (l m : List Sp) (x : Int) : inS (l ++ m) x ↔ inS l x ∨ inS m x := by
  unfold inS
  simp only [List.mem_append]
  constructor
  · rintro ⟨s, hs | hs, h⟩
    · exact .inl ⟨s, hs, h⟩
    · exact .inr ⟨s, hs, h⟩
  · rintro (⟨s, hs, h⟩ | ⟨s, hs, h⟩)
    · exact ⟨s, .inl hs, h⟩
    · exact ⟨s, .inr hs, h⟩
theorem inS_nil (x : Int) : ¬ inS [] x := by rintro ⟨s, hs, _⟩; cases hs
/-- One form for each set of columns. -/
theorem can_unique : ∀ {a b : Int} {l m : List Sp}, Can a l → Can b m → (∀ x, inS l x ↔ inS m x) → l = m
  | _, _, [], [], _, _, _ => rfl
  | _, _, [], s :: t, _, hm, h => absurd ((h s.1).2 ((inS_cons s t s.1).2 (.inl ⟨Int.le_refl _, hm.2.1⟩))) (inS_nil _)
  | _, _, s :: t, [], hl, _, h => absurd ((h s.1).1 ((inS_cons s t s.1).2 (.inl ⟨Int.le_refl _, hl.2.1⟩))) (inS_nil _)
  | _, _, s :: t, q :: u, hl, hm, h => by
    obtain ⟨l1, l2, l3⟩ := hl
    obtain ⟨m1, m2, m3⟩ := hm
    have ts : ∀ x, inS t x → s.2 + 1 ≤ x := fun x hx => l3.low hx
    have tq : ∀ x, inS u x → q.2 + 1 ≤ x := fun x hx => m3.low hx
    have e1 : s.1 = q.1 := by
      have a1 := (inS_cons q u s.1).1 ((h s.1).1 ((inS_cons s t s.1).2 (.inl ⟨Int.le_refl _, l2⟩)))
      have a2 := (inS_cons s t q.1).1 ((h q.1).2 ((inS_cons q u q.1).2 (.inl ⟨Int.le_refl _, m2⟩)))
      rcases a1 with a1 | a1
      · rcases a2 with a2 | a2
        · omega
        · have := ts _ a2; omega
      · have := tq _ a1
        rcases a2 with a2 | a2
        · omega
        · have := ts _ a2; omega
    have e2 : s.2 = q.2 := by
      rcases Int.lt_trichotomy s.2 q.2 with hlt | he | hgt
      · have a := (inS_cons s t s.2).1 ((h s.2).2 ((inS_cons q u s.2).2 (.inl ⟨by omega, hlt⟩)))
        rcases a with a | a
        · omega
        · have := ts _ a; omega
      · exact he
      · have a := (inS_cons q u q.2).1 ((h q.2).1 ((inS_cons s t q.2).2 (.inl ⟨by omega, hgt⟩)))
        rcases a with a | a
        · omega
        · have := tq _ a; omega
    have e : s = q := Prod.ext e1 e2
    subst e
    congr 1
    refine can_unique l3 m3 fun x => ?_
    constructor
    · intro hx
      have := ts x hx
      rcases (inS_cons s u x).1 ((h x).1 ((inS_cons s t x).2 (.inr hx))) with a | a
      · omega
      · exact a
    · intro hx
      have := tq x hx
      rcases (inS_cons s t x).1 ((h x).2 ((inS_cons s u x).2 (.inr hx))) with a | a
      · omega
      · exact a

/-- Spans that end before z, from the left, a gap between any two. -/
def lastE : Int → List Sp → Int
  | a, [] => a
  | _, s :: t => lastE (s.2 + 1) t
theorem can_app : ∀ {a : Int} {l m : List Sp}, Can a l → Can (lastE a l) m → Can a (l ++ m)
  | _, [], _, _, h => h
  | _, s :: _, _, hl, h => ⟨hl.1, hl.2.1, can_app (a := s.2 + 1) hl.2.2 h⟩
theorem can_of_app : ∀ {a : Int} {l m : List Sp}, Can a (l ++ m) → Can a l ∧ Can (lastE a l) m
  | _, [], _, h => ⟨trivial, h⟩
  | _, _ :: _, _, h => ⟨⟨h.1, h.2.1, (can_of_app h.2.2).1⟩, (can_of_app h.2.2).2⟩
theorem lastE_app : ∀ (a : Int) (l m : List Sp), lastE a (l ++ m) = lastE (lastE a l) m
  | _, [], _ => rfl
  | _, s :: t, m => lastE_app (s.2 + 1) t m
theorem lastE_ge : ∀ {a : Int} {l : List Sp}, Can a l → a ≤ lastE a l
  | _, [], _ => Int.le_refl _
  | _, s :: t, h => by have := lastE_ge h.2.2; have := h.1; have := h.2.1; simp only [lastE]; omega
theorem lastE_hi : ∀ {a : Int} {l : List Sp}, Can a l → ∀ x, inS l x → x < lastE a l
  | _, [], _, x, hx => absurd hx (inS_nil x)
  | _, s :: t, h, x, hx => by
    have := lastE_ge h.2.2
    rcases (inS_cons s t x).1 hx with a | a
    · simp only [lastE]; omega
    · exact lastE_hi h.2.2 x a

/-- The columns that rectangles have in a row, from the left: the runs. -/
def runA : List Sp → Int → Int → List Sp
  | [], a, b => [(a, b)]
  | [s], a, b => if a ≤ s.2 then [(s.1, max s.2 b)] else [s, (a, b)]
  | s :: t, a, b => s :: runA t a b
def rowOf (r : Rc) (y : Int) : Prop := r.y ≤ y ∧ y < r.y + r.h
def runsF (y : Int) : List Rc → List Sp → List Sp
  | [], acc => acc
  | r :: t, acc => if y < r.y ∨ r.y + r.h ≤ y then runsF y t acc else runsF y t (runA acc r.x (r.x + r.w))
def colS (l : List Rc) (y x : Int) : Prop := ∃ r ∈ l, rowOf r y ∧ r.x ≤ x ∧ x < r.x + r.w
/-- Of spans the last begins at or before z. -/
def lastB : List Sp → Int → Prop
  | [], _ => True
  | [s], z => s.1 ≤ z
  | _ :: t, z => lastB t z
theorem runA_ne : ∀ (l : List Sp) (a b : Int), runA l a b ≠ []
  | [], _, _ => by simp [runA]
  | [s], a, b => by rw [runA]; split <;> simp
  | s :: q :: t, a, b => by rw [runA]; · simp
                            · intro h; cases h
theorem runA_can : ∀ {a0 : Int} {l : List Sp} {a b : Int}, Can a0 l → a0 ≤ a → a < b → lastB l a → Can a0 (runA l a b) ∧ lastB (runA l a b) a ∧ ∀ x, inS (runA l a b) x ↔ inS l x ∨ (a ≤ x ∧ x < b)
  | a0, [], a, b, _, ha, hab, _ => by
    refine ⟨⟨ha, hab, trivial⟩, Int.le_refl _, fun x => ?_⟩
    rw [runA, inS_cons]
    constructor
    · rintro (h | h)
      · exact .inr h
      · exact absurd h (inS_nil x)
    · rintro (h | h)
      · exact absurd h (inS_nil x)
      · exact .inl h
  | a0, [s], a, b, h, ha, hab, hl => by
    obtain ⟨h1, h2, _⟩ := h
    have hl' : s.1 ≤ a := hl
    rw [runA]
    by_cases c : a ≤ s.2
    · rw [if_pos c]
      refine ⟨⟨h1, by show s.1 < max s.2 b; omega, trivial⟩, hl', fun x => ?_⟩
      rw [inS_cons, inS_cons]
      simp only [inS_nil, or_false]
      omega
    · rw [if_neg c]
      refine ⟨⟨h1, h2, by show s.2 + 1 ≤ a; omega, hab, trivial⟩, Int.le_refl _, fun x => ?_⟩
      rw [inS_cons, inS_cons, inS_cons]
      simp only [inS_nil, or_false]
  | a0, s :: q :: t, a, b, h, ha, hab, hl => by
    obtain ⟨h1, h2, h3⟩ := h
    have hl' : lastB (q :: t) a := hl
    have hq : q.1 ≤ a := by
      have : ∀ {c : Int} (u : List Sp) (q : Sp), Can c (q :: u) → lastB (q :: u) a → q.1 ≤ a := by
        intro c u
        induction u generalizing c with
        | nil => intro q _ h; exact h
        | cons v u ih =>
          intro q hc hb
          have := ih v hc.2.2 hb
          have := hc.2.2.1
          have := hc.2.1
          omega
      exact this t q h3 hl'
    have hs : s.2 + 1 ≤ a := by have := h3.1; omega
    obtain ⟨i1, i2, i3⟩ := runA_can h3 hs hab hl'
    rw [runA]
    · refine ⟨⟨h1, h2, i1⟩, ?_, fun x => ?_⟩
      · cases hr : runA (q :: t) a b with
        | nil => exact absurd hr (runA_ne _ _ _)
        | cons v u => rw [hr] at i2; exact i2
      · rw [inS_cons, i3, inS_cons s (q :: t)]
        exact or_assoc.symm
    · intro h; cases h
theorem lastB_mono : ∀ {l : List Sp} {z z' : Int}, lastB l z → z ≤ z' → lastB l z'
  | [], _, _, _, _ => trivial
  | [_], _, _, h, hz => Int.le_trans h hz
  | _ :: q :: t, _, _, h, hz => lastB_mono (l := q :: t) h hz

/-- Rectangles with places, the leftmost first. -/
def SortX : Int → List Rc → Prop
  | _, [] => True
  | a, r :: t => a ≤ r.x ∧ 0 < r.w ∧ SortX r.x t
theorem runs_can (y a0 : Int) : ∀ {l : List Rc} {acc : List Sp} {a : Int}, SortX a l → Can a0 acc → a0 ≤ a → lastB acc a →
    Can a0 (runsF y l acc) ∧ ∀ x, inS (runsF y l acc) x ↔ inS acc x ∨ colS l y x
  | [], acc, a, _, hc, _, _ => by
    refine ⟨hc, fun x => ?_⟩
    rw [runsF]
    constructor
    · exact .inl
    · rintro (h | ⟨r, hr, _⟩)
      · exact h
      · cases hr
  | r :: t, acc, a, hs, hc, ha, hl => by
    obtain ⟨h1, h2, h3⟩ := hs
    have hcol : ∀ x, colS (r :: t) y x ↔ (rowOf r y ∧ r.x ≤ x ∧ x < r.x + r.w) ∨ colS t y x := by
      intro x
      unfold colS
      constructor
      · rintro ⟨q, hq, h⟩
        rcases List.mem_cons.1 hq with rfl | hq
        · exact .inl h
        · exact .inr ⟨q, hq, h⟩
      · rintro (h | ⟨q, hq, h⟩)
        · exact ⟨r, by simp, h⟩
        · exact ⟨q, by simp [hq], h⟩
    rw [runsF]
    by_cases c : y < r.y ∨ r.y + r.h ≤ y
    · rw [if_pos c]
      obtain ⟨i1, i2⟩ := runs_can y a0 (acc := acc) h3 hc (by omega) (lastB_mono hl h1)
      refine ⟨i1, fun x => ?_⟩
      rw [i2, hcol]
      have : ¬ rowOf r y := by unfold rowOf; omega
      simp [this]
    · rw [if_neg c]
      obtain ⟨j1, j2, j3⟩ := runA_can hc (show a0 ≤ r.x by omega) (show r.x < r.x + r.w by omega) (lastB_mono hl h1)
      obtain ⟨i1, i2⟩ := runs_can y a0 h3 j1 (by omega) j2
      refine ⟨i1, fun x => ?_⟩
      rw [i2, j3, hcol]
      have : rowOf r y := by unfold rowOf; omega
      simp only [this, true_and]
      exact or_assoc

/-- What is left of a span from a to b when spans are cut out, and of the cuts what is left for further spans. -/
def cutA : Int → Int → List Sp → List Sp × List Sp
  | a, b, [] => ([(a, b)], [])
  | a, b, c :: t => if c.1 < b then
      (if b ≤ c.2 then ((if a < c.1 then [(a, c.1)] else []), c :: t)
       else ((if a < c.1 then [(a, c.1)] else []) ++ (cutA (max a c.2) b t).1, (cutA (max a c.2) b t).2))
    else ([(a, b)], c :: t)
def piecesF : List Sp → List Sp → List Sp
  | [], _ => []
  | s :: t, cs => (cutA s.1 s.2 cs).1 ++ piecesF t (cutA s.1 s.2 cs).2
theorem cut_facts : ∀ {z : Int} {cs : List Sp} {a b : Int}, Can z cs → a < b →
    Can a (cutA a b cs).1 ∧ (∀ x, inS (cutA a b cs).1 x → x < b) ∧ lastE a (cutA a b cs).1 ≤ b + 1 ∧ (∀ x, inS (cutA a b cs).1 x ↔ (a ≤ x ∧ x < b) ∧ ¬ inS cs x) ∧ (∃ z', Can z' (cutA a b cs).2) ∧ (∀ x, b ≤ x → (inS (cutA a b cs).2 x ↔ inS cs x))
  | z, [], a, b, _, hab => by
    rw [cutA]
    refine ⟨⟨Int.le_refl _, hab, trivial⟩, ?_, by simp [lastE], ?_, ⟨0, trivial⟩, fun x _ => Iff.rfl⟩
    · intro x hx
      rw [inS_cons] at hx
      rcases hx with h | h
      · exact h.2
      · exact absurd h (inS_nil x)
    · intro x
      rw [inS_cons]
      simp [inS_nil]
  | z, c :: t, a, b, hc, hab => by
    obtain ⟨c1, c2, c3⟩ := id hc
    have tlow : ∀ x, inS t x → c.2 + 1 ≤ x := fun x hx => c3.low hx
    rw [cutA]
    by_cases h1 : c.1 < b
    · rw [if_pos h1]
      by_cases h2 : b ≤ c.2
      · rw [if_pos h2]
        dsimp only
        refine ⟨?_, ?_, ?_, ?_, ⟨z, hc⟩, fun x _ => Iff.rfl⟩
        · split
          · exact ⟨Int.le_refl _, by assumption, trivial⟩
          · trivial
        · intro x hx
          split at hx
          · rw [inS_cons] at hx
            rcases hx with h | h
            · have := h.2; dsimp only at this; omega
            · exact absurd h (inS_nil x)
          · exact absurd hx (inS_nil x)
        · split
          · simp only [lastE]; omega
          · simp only [lastE]; omega
        · intro x
          rw [inS_cons c t]
          split
          · rw [inS_cons]
            simp only [inS_nil, or_false]
            constructor
            · rintro ⟨p, q⟩
              refine ⟨by omega, ?_⟩
              rintro (h | h)
              · omega
              · have := tlow x h; omega
            · rintro ⟨p, q⟩
              have : ¬ (c.1 ≤ x ∧ x < c.2) := fun h => q (.inl h)
              omega
          · constructor
            · intro h; exact absurd h (inS_nil x)
            · rintro ⟨p, q⟩
              exact absurd (.inl ⟨by omega, by omega⟩) q
      · rw [if_neg h2]
        dsimp only
        obtain ⟨i1, i2, i3, i4, i5, i6⟩ := cut_facts (a := max a c.2) (b := b) c3 (by omega)
        have ilow : ∀ x, inS (cutA (max a c.2) b t).1 x → max a c.2 ≤ x := fun x hx => i1.low hx
        refine ⟨?_, ?_, ?_, ?_, i5, ?_⟩
        · split
          · refine ⟨Int.le_refl _, by assumption, ?_⟩
            exact i1.mono (by show c.1 + 1 ≤ max a c.2; omega)
          · exact i1.mono (by omega)
        · intro x hx
          rw [inS_app] at hx
          rcases hx with hx | hx
          · split at hx
            · rw [inS_cons] at hx
              rcases hx with h | h
              · have := h.2; dsimp only at this; omega
              · exact absurd h (inS_nil x)
            · exact absurd hx (inS_nil x)
          · exact i2 x hx
        · have key : ∀ (l : List Sp) (p q : Int), lastE p l ≤ b + 1 → q ≤ b + 1 → lastE q l ≤ b + 1 := by
            intro l p q h1 h2
            cases l with
            | nil => exact h2
            | cons s t => exact h1
          rw [lastE_app]
          exact key _ _ _ i3 (by split <;> (simp only [lastE]; omega))
        · intro x
          rw [inS_app, i4, inS_cons c t]
          split
          · rw [inS_cons]
            simp only [inS_nil, or_false]
            constructor
            · rintro (⟨p, q⟩ | ⟨p, q⟩)
              · refine ⟨by omega, ?_⟩
                rintro (h | h)
                · omega
                · have := tlow x h; omega
              · refine ⟨by omega, ?_⟩
                rintro (h | h)
                · omega
                · exact q h
            · rintro ⟨p, q⟩
              have hn : ¬ (c.1 ≤ x ∧ x < c.2) := fun h => q (.inl h)
              rcases Int.lt_or_le x c.1 with h | h
              · exact .inl ⟨p.1, h⟩
              · exact .inr ⟨by omega, fun h => q (.inr h)⟩
          · simp only [inS_nil, false_or]
            constructor
            · rintro ⟨p, q⟩
              refine ⟨by omega, ?_⟩
              rintro (h | h)
              · omega
              · exact q h
            · rintro ⟨p, q⟩
              have hn : ¬ (c.1 ≤ x ∧ x < c.2) := fun h => q (.inl h)
              exact ⟨by omega, fun h => q (.inr h)⟩
        · intro x hx
          rw [i6 x hx, inS_cons]
          constructor
          · exact .inr
          · rintro (h | h)
            · omega
            · exact h
    · rw [if_neg h1]
      dsimp only
      refine ⟨⟨Int.le_refl _, hab, trivial⟩, ?_, by simp [lastE], ?_, ⟨z, hc⟩, fun x _ => Iff.rfl⟩
      · intro x hx
        rw [inS_cons] at hx
        rcases hx with h | h
        · exact h.2
        · exact absurd h (inS_nil x)
      · intro x
        rw [inS_cons, inS_cons c t]
        simp only [inS_nil, or_false]
        constructor
        · intro p
          refine ⟨p, ?_⟩
          rintro (h | h)
          · omega
          · have := tlow x h; omega
        · exact fun h => h.1
theorem pieces_can : ∀ {a z : Int} {l cs : List Sp}, Can a l → Can z cs → Can a (piecesF l cs) ∧ ∀ x, inS (piecesF l cs) x ↔ inS l x ∧ ¬ inS cs x
  | _, _, [], _, _, _ => ⟨trivial, fun x => by rw [piecesF]; simp [inS_nil]⟩
  | a, z, s :: t, cs, hl, hc => by
    obtain ⟨l1, l2, l3⟩ := hl
    obtain ⟨i1, i2, i3, i4, ⟨z', i5⟩, i6⟩ := cut_facts hc l2
    obtain ⟨j1, j2⟩ := pieces_can l3 i5
    have tlow : ∀ x, inS t x → s.2 + 1 ≤ x := fun x hx => l3.low hx
    rw [piecesF]
    refine ⟨can_app (i1.mono l1) (j1.mono ?_), fun x => ?_⟩
    · cases hq : (cutA s.1 s.2 cs).1 with
      | nil => simp only [lastE]; omega
      | cons v u => rw [hq] at i3; exact i3
    · rw [inS_app, i4, j2, inS_cons]
      constructor
      · rintro (⟨p, q⟩ | ⟨p, q⟩)
        · exact ⟨.inl p, q⟩
        · have := tlow x p
          exact ⟨.inr p, fun h => q ((i6 x (by omega)).2 h)⟩
      · rintro ⟨p | p, q⟩
        · exact .inl ⟨p, q⟩
        · have := tlow x p
          exact .inr ⟨p, fun h => q ((i6 x (by omega)).1 h)⟩

end Go.Proofs.Ytagkbpceiedikaa
