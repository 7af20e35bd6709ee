/-
  Texts of this claim, one behind the other: what each is about stands ahead of it.
-/

/-
  The plain mathematics of rectangles: no program in sight.
-/
namespace Go.Proofs.YtleoaanjcccooaaGreatDoor

structure Rc where
  x : Int
  y : Int
  w : Int
  h : Int

def I64 (n : Int) : Prop := -9223372036854775808 ≤ n ∧ n ≤ 9223372036854775807
def spanB (p n : Int) : Bool := decide (0 ≤ n) && (decide (-16384 ≤ p) && decide (n ≤ 16384 - p))
def mayB (x y w h : Int) : Bool := spanB x w && spanB y h
def chk (x y w h : Int) : Int := if mayB x y w h = true then 0 else 5
def emptyB (x y w h : Int) : Bool := !mayB x y w h || (w == 0 || h == 0)
def zr : Rc := ⟨0, 0, 0, 0⟩
def btw (lx ly hx hy : Int) : Rc := if hx ≤ lx ∨ hy ≤ ly then zr else ⟨lx, ly, hx - lx, hy - ly⟩
def witB (n lo hi : Int) : Bool := decide (lo ≤ n) && decide (n ≤ hi)
def cornB (x y : Int) : Bool := witB x (-16384) 16384 && witB y (-16384) 16384

theorem chain4 (p q r s : Bool) : p = false ∨ (p = true ∧ q = false) ∨ (p = true ∧ q = true ∧ r = false) ∨ (p = true ∧ q = true ∧ r = true ∧ s = false) ∨ (p = true ∧ q = true ∧ r = true ∧ s = true) := by
  cases p <;> cases q <;> cases r <;> cases s <;> simp

theorem span_iff {p n : Int} : spanB p n = true ↔ 0 ≤ n ∧ -16384 ≤ p ∧ n ≤ 16384 - p := by
  unfold spanB; simp
theorem may_iff {x y w h : Int} : mayB x y w h = true ↔ (0 ≤ w ∧ -16384 ≤ x ∧ w ≤ 16384 - x) ∧ (0 ≤ h ∧ -16384 ≤ y ∧ h ≤ 16384 - y) := by
  unfold mayB; rw [Bool.and_eq_true, span_iff, span_iff]
theorem wit_iff {n lo hi : Int} : witB n lo hi = true ↔ lo ≤ n ∧ n ≤ hi := by
  unfold witB; simp
theorem chk_ne (x y w h : Int) : (chk x y w h != 0) = !mayB x y w h := by
  unfold chk; cases mayB x y w h <;> rfl
theorem chk_eq (x y w h : Int) : (chk x y w h == 0) = mayB x y w h := by
  unfold chk; cases mayB x y w h <;> rfl
theorem btw_yes {lx ly hx hy : Int} (h1 : lx < hx) (h2 : ly < hy) : btw lx ly hx hy = ⟨lx, ly, hx - lx, hy - ly⟩ := by
  unfold btw; rw [if_neg (by omega)]
theorem btw_no {lx ly hx hy : Int} (h : hx ≤ lx ∨ hy ≤ ly) : btw lx ly hx hy = zr := by
  unfold btw; rw [if_pos h]

def meetR (ax ay aw ah bx by' bw bh : Int) : Rc :=
  if (emptyB ax ay aw ah || emptyB bx by' bw bh) = true then zr else btw (max ax bx) (max ay by') (min (ax + aw) (bx + bw)) (min (ay + ah) (by' + bh))
def hasB (x y w h px py : Int) : Bool := !emptyB x y w h && (decide (x ≤ px) && (decide (px < x + w) && (decide (y ≤ py) && decide (py < y + h))))
def areaI (x y w h : Int) : Int := if emptyB x y w h = true then 0 else w * h
theorem bounds_of {x y w h : Int} (e : emptyB x y w h = false) : -16384 ≤ x ∧ x ≤ 16384 ∧ -16384 ≤ y ∧ y ≤ 16384 ∧ 0 < w ∧ w ≤ 32768 ∧ 0 < h ∧ h ≤ 32768 ∧ x + w ≤ 16384 ∧ y + h ≤ 16384 := by
  unfold emptyB at e
  simp only [Bool.or_eq_false_iff, Bool.not_eq_false'] at e
  obtain ⟨e1, e2, e3⟩ := e
  rw [may_iff] at e1
  have e2 := beq_eq_false_iff_ne.1 e2
  have e3 := beq_eq_false_iff_ne.1 e3
  omega

theorem span_ref (p n : Int) (h : witB p (-16384) 16384 = true) (k : witB n 0 32768 = true) : spanB p n = decide (p + n ≤ 16384) := by
  rw [wit_iff] at h k
  rw [Bool.eq_iff_iff, span_iff]
  simp
  omega
theorem span_no1 (p n : Int) (h : witB p (-16384) 16384 = false) : spanB p n = false := by
  rw [Bool.eq_false_iff] at h ⊢
  intro e
  rw [span_iff] at e
  exact h (wit_iff.2 (by omega))
theorem span_no2 (p n : Int) (_h : witB p (-16384) 16384 = true) (k : witB n 0 32768 = false) : spanB p n = false := by
  rw [Bool.eq_false_iff] at k ⊢
  intro e
  rw [span_iff] at e
  exact k (wit_iff.2 (by omega))
def mkB (ax ay bx by' : Int) : Bool := cornB ax ay && cornB bx by'
def mkR (ax ay bx by' : Int) : Rc := if mkB ax ay bx by' = true then btw (min ax bx) (min ay by') (max ax bx) (max ay by') else zr
def mkE (ax ay bx by' : Int) : Int := if mkB ax ay bx by' = true then 0 else 2

def szR (o : Rc) : Rc := if mayB o.x o.y o.w o.h = true then o else zr
def szE (o : Rc) : Int := if mayB o.x o.y o.w o.h = true then 0 else 9
def insR (x y n m k : Int) : Rc := if (mayB x y n m && (witB k (-16384) 16384 && !emptyB x y n m)) = true then szR (btw (x + k) (y + k) (x + n - k) (y + m - k)) else zr
def insE (x y n m k : Int) : Int := if mayB x y n m = false then 5 else if witB k (-16384) 16384 = false then 2 else if emptyB x y n m = true then 0 else szE (btw (x + k) (y + k) (x + n - k) (y + m - k))
def movR (x y n m p q : Int) : Rc := if (!emptyB x y n m && (witB p (-32768) 32768 && witB q (-32768) 32768)) = true then szR ⟨x + p, y + q, n, m⟩ else zr
def movE (x y n m p q : Int) : Int := if mayB x y n m = false then 5 else if emptyB x y n m = true then 0 else if (witB p (-32768) 32768 && witB q (-32768) 32768) = true then szE ⟨x + p, y + q, n, m⟩ else 9
def begI (p room len way : Int) : Int := if way = 1 then p + (room - len) / 2 else if way = 2 then p + (room - len) else p
def aliB (n m ux uy : Int) : Bool := witB n 0 32768 && (witB m 0 32768 && (!decide (2 < ux) && !decide (2 < uy)))
def aliO (x y n m sw sh ux uy : Int) : Rc := ⟨begI x n sw ux, begI y m sh uy, sw, sh⟩
def aliR (x y n m sw sh ux uy : Int) : Rc := if (mayB x y n m && (aliB sw sh ux uy && (!(sw == 0) && !(sh == 0)))) = true then szR (aliO x y n m sw sh ux uy) else zr
def aliE (x y n m sw sh ux uy : Int) : Int := if mayB x y n m = false then 5 else if aliB sw sh ux uy = false then 2 else if (sw == 0 || sh == 0) = true then 0 else szE (aliO x y n m sw sh ux uy)
theorem may_of {x y w h : Int} (e : emptyB x y w h = false) : mayB x y w h = true := by
  unfold emptyB at e
  simp only [Bool.or_eq_false_iff, Bool.not_eq_false'] at e
  exact e.1
theorem may_bd {x y w h : Int} (e : mayB x y w h = true) : -16384 ≤ x ∧ x ≤ 16384 ∧ -16384 ≤ y ∧ y ≤ 16384 ∧ 0 ≤ w ∧ w ≤ 32768 ∧ 0 ≤ h ∧ h ≤ 32768 := by
  rw [may_iff] at e
  omega
theorem btw_bd (lx ly hx hy M : Int) (hM : 0 ≤ M) (a1 : -M ≤ lx) (a2 : lx ≤ M) (a3 : -M ≤ ly) (a4 : ly ≤ M) : -M ≤ (btw lx ly hx hy).x ∧ (btw lx ly hx hy).x ≤ M ∧ -M ≤ (btw lx ly hx hy).y ∧ (btw lx ly hx hy).y ≤ M := by
  unfold btw
  split
  · simp [zr]; omega
  · simp; omega

end Go.Proofs.YtleoaanjcccooaaGreatDoor

/-
  Spans of a row in plain lists: one form for each set of columns.
-/
namespace Go.Proofs.YtleoaanjcccooaaGreatDoor

abbrev Sp := Int × Int
/-- A column lies in one of the spans. -/
def inS (l : List Sp) (x : Int) : Prop := ∃ s ∈ l, s.1 ≤ x ∧ x < s.2
/-- Spans from the left, a gap between any two; all from a on. -/
def Can : Int → List Sp → Prop
  | _, [] => True
  | a, s :: t => a ≤ s.1 ∧ s.1 < s.2 ∧ Can (s.2 + 1) t
theorem Can.mono : ∀ {a b : Int} {l : List Sp}, Can a l → b ≤ a → Can b l
  | _, _, [], _, _ => trivial
  | _, _, _ :: _, h, hb => ⟨by have := h.1; omega, h.2⟩
theorem Can.ge : ∀ {a : Int} {l : List Sp}, Can a l → ∀ s ∈ l, a ≤ s.1 ∧ s.1 < s.2
  | a, s :: t, h, q, hq => by
    rcases List.mem_cons.1 hq with rfl | hq
    · exact ⟨h.1, h.2.1⟩
    · have := Can.ge h.2.2 q hq
      have h1 := h.1
      have h2 := h.2.1
      omega
theorem Can.low {a : Int} {l : List Sp} (h : Can a l) {x : Int} (hx : inS l x) : a ≤ x := by
  obtain ⟨s, hs, h1, _⟩ := hx
  have := (h.ge s hs).1
  omega
theorem inS_cons (s : Sp) (t : List Sp) (x : Int) : inS (s :: t) x ↔ (s.1 ≤ x ∧ x < s.2) ∨ inS t x := by
  unfold inS
  constructor
  · rintro ⟨q, hq, h⟩
    rcases List.mem_cons.1 hq with rfl | hq
    · exact .inl h
    · exact .inr ⟨q, hq, h⟩
  · rintro (h | ⟨q, hq, h⟩)
    · exact ⟨s, by simp, h⟩
    · exact ⟨q, by simp [hq], h⟩
theorem inS_app (l m : List Sp) (x : Int) : inS (l ++ m) x ↔ inS l x ∨ inS m x := by
  unfold inS
  simp only [List.mem_append]
  constructor
  · rintro ⟨s, hs | hs, h⟩
    · exact .inl ⟨s, hs, h⟩
    · exact .inr ⟨s, hs, h⟩
  · rintro (⟨s, hs, h⟩ | ⟨s, hs, h⟩)
    · exact ⟨s, .inl hs, h⟩
    · exact ⟨s, .inr hs, h⟩
theorem inS_nil (x : Int) : ¬ inS [] x := by rintro ⟨s, hs, _⟩; cases hs
/-- One form for each set of columns. -/
theorem can_unique : ∀ {a b : Int} {l m : List Sp}, Can a l → Can b m → (∀ x, inS l x ↔ inS m x) → l = m
  | _, _, [], [], _, _, _ => rfl
  | _, _, [], s :: t, _, hm, h => absurd ((h s.1).2 ((inS_cons s t s.1).2 (.inl ⟨Int.le_refl _, hm.2.1⟩))) (inS_nil _)
  | _, _, s :: t, [], hl, _, h => absurd ((h s.1).1 ((inS_cons s t s.1).2 (.inl ⟨Int.le_refl _, hl.2.1⟩))) (inS_nil _)
  | _, _, s :: t, q :: u, hl, hm, h => by
    obtain ⟨l1, l2, l3⟩ := hl
    obtain ⟨m1, m2, m3⟩ := hm
    have ts : ∀ x, inS t x → s.2 + 1 ≤ x := fun x hx => l3.low hx
    have tq : ∀ x, inS u x → q.2 + 1 ≤ x := fun x hx => m3.low hx
    have e1 : s.1 = q.1 := by
      have a1 := (inS_cons q u s.1).1 ((h s.1).1 ((inS_cons s t s.1).2 (.inl ⟨Int.le_refl _, l2⟩)))
      have a2 := (inS_cons s t q.1).1 ((h q.1).2 ((inS_cons q u q.1).2 (.inl ⟨Int.le_refl _, m2⟩)))
      rcases a1 with a1 | a1
      · rcases a2 with a2 | a2
        · omega
        · have := ts _ a2; omega
      · have := tq _ a1
        rcases a2 with a2 | a2
        · omega
        · have := ts _ a2; omega
    have e2 : s.2 = q.2 := by
      rcases Int.lt_trichotomy s.2 q.2 with hlt | he | hgt
      · have a := (inS_cons s t s.2).1 ((h s.2).2 ((inS_cons q u s.2).2 (.inl ⟨by omega, hlt⟩)))
        rcases a with a | a
        · omega
        · have := ts _ a; omega
      · exact he
      · have a := (inS_cons q u q.2).1 ((h q.2).1 ((inS_cons s t q.2).2 (.inl ⟨by omega, hgt⟩)))
        rcases a with a | a
        · omega
        · have := tq _ a; omega
    have e : s = q := Prod.ext e1 e2
    subst e
    congr 1
    refine can_unique l3 m3 fun x => ?_
    constructor
    · intro hx
      have := ts x hx
      rcases (inS_cons s u x).1 ((h x).1 ((inS_cons s t x).2 (.inr hx))) with a | a
      · omega
      · exact a
    · intro hx
      have := tq x hx
      rcases (inS_cons s t x).1 ((h x).2 ((inS_cons s u x).2 (.inr hx))) with a | a
      · omega
      · exact a

/-- Spans that end before z, from the left, a gap between any two. -/
def lastE : Int → List Sp → Int
  | a, [] => a
  | _, s :: t => lastE (s.2 + 1) t
theorem can_app : ∀ {a : Int} {l m : List Sp}, Can a l → Can (lastE a l) m → Can a (l ++ m)
  | _, [], _, _, h => h
  | _, s :: _, _, hl, h => ⟨hl.1, hl.2.1, can_app (a := s.2 + 1) hl.2.2 h⟩
theorem can_of_app : ∀ {a : Int} {l m : List Sp}, Can a (l ++ m) → Can a l ∧ Can (lastE a l) m
  | _, [], _, h => ⟨trivial, h⟩
  | _, _ :: _, _, h => ⟨⟨h.1, h.2.1, (can_of_app h.2.2).1⟩, (can_of_app h.2.2).2⟩
theorem lastE_app : ∀ (a : Int) (l m : List Sp), lastE a (l ++ m) = lastE (lastE a l) m
  | _, [], _ => rfl
  | _, s :: t, m => lastE_app (s.2 + 1) t m
theorem lastE_ge : ∀ {a : Int} {l : List Sp}, Can a l → a ≤ lastE a l
  | _, [], _ => Int.le_refl _
  | _, s :: t, h => by have := lastE_ge h.2.2; have := h.1; have := h.2.1; simp only [lastE]; omega
theorem lastE_hi : ∀ {a : Int} {l : List Sp}, Can a l → ∀ x, inS l x → x < lastE a l
  | _, [], _, x, hx => absurd hx (inS_nil x)
  | _, s :: t, h, x, hx => by
    have := lastE_ge h.2.2
    rcases (inS_cons s t x).1 hx with a | a
    · simp only [lastE]; omega
    · exact lastE_hi h.2.2 x a

/-- The columns that rectangles have in a row, from the left: the runs. -/
def runA : List Sp → Int → Int → List Sp
  | [], a, b => [(a, b)]
  | [s], a, b => if a ≤ s.2 then [(s.1, max s.2 b)] else [s, (a, b)]
  | s :: t, a, b => s :: runA t a b
def rowOf (r : Rc) (y : Int) : Prop := r.y ≤ y ∧ y < r.y + r.h
def runsF (y : Int) : List Rc → List Sp → List Sp
  | [], acc => acc
  | r :: t, acc => if y < r.y ∨ r.y + r.h ≤ y then runsF y t acc else runsF y t (runA acc r.x (r.x + r.w))
def colS (l : List Rc) (y x : Int) : Prop := ∃ r ∈ l, rowOf r y ∧ r.x ≤ x ∧ x < r.x + r.w
/-- Of spans the last begins at or before z. -/
def lastB : List Sp → Int → Prop
  | [], _ => True
  | [s], z => s.1 ≤ z
  | _ :: t, z => lastB t z
theorem runA_ne : ∀ (l : List Sp) (a b : Int), runA l a b ≠ []
  | [], _, _ => by simp [runA]
  | [s], a, b => by rw [runA]; split <;> simp
  | s :: q :: t, a, b => by rw [runA]; · simp
                            · intro h; cases h
theorem runA_can : ∀ {a0 : Int} {l : List Sp} {a b : Int}, Can a0 l → a0 ≤ a → a < b → lastB l a → Can a0 (runA l a b) ∧ lastB (runA l a b) a ∧ ∀ x, inS (runA l a b) x ↔ inS l x ∨ (a ≤ x ∧ x < b)
  | a0, [], a, b, _, ha, hab, _ => by
    refine ⟨⟨ha, hab, trivial⟩, Int.le_refl _, fun x => ?_⟩
    rw [runA, inS_cons]
    constructor
    · rintro (h | h)
      · exact .inr h
      · exact absurd h (inS_nil x)
    · rintro (h | h)
      · exact absurd h (inS_nil x)
      · exact .inl h
  | a0, [s], a, b, h, ha, hab, hl => by
    obtain ⟨h1, h2, _⟩ := h
    have hl' : s.1 ≤ a := hl
    rw [runA]
    by_cases c : a ≤ s.2
    · rw [if_pos c]
      refine ⟨⟨h1, by show s.1 < max s.2 b; omega, trivial⟩, hl', fun x => ?_⟩
      rw [inS_cons, inS_cons]
      simp only [inS_nil, or_false]
      omega
    · rw [if_neg c]
      refine ⟨⟨h1, h2, by show s.2 + 1 ≤ a; omega, hab, trivial⟩, Int.le_refl _, fun x => ?_⟩
      rw [inS_cons, inS_cons, inS_cons]
      simp only [inS_nil, or_false]
  | a0, s :: q :: t, a, b, h, ha, hab, hl => by
    obtain ⟨h1, h2, h3⟩ := h
    have hl' : lastB (q :: t) a := hl
    have hq : q.1 ≤ a := by
      have : ∀ {c : Int} (u : List Sp) (q : Sp), Can c (q :: u) → lastB (q :: u) a → q.1 ≤ a := by
        intro c u
        induction u generalizing c with
        | nil => intro q _ h; exact h
        | cons v u ih =>
          intro q hc hb
          have := ih v hc.2.2 hb
          have := hc.2.2.1
          have := hc.2.1
          omega
      exact this t q h3 hl'
    have hs : s.2 + 1 ≤ a := by have := h3.1; omega
    obtain ⟨i1, i2, i3⟩ := runA_can h3 hs hab hl'
    rw [runA]
    · refine ⟨⟨h1, h2, i1⟩, ?_, fun x => ?_⟩
      · cases hr : runA (q :: t) a b with
        | nil => exact absurd hr (runA_ne _ _ _)
        | cons v u => rw [hr] at i2; exact i2
      · rw [inS_cons, i3, inS_cons s (q :: t)]
        exact or_assoc.symm
    · intro h; cases h
theorem lastB_mono : ∀ {l : List Sp} {z z' : Int}, lastB l z → z ≤ z' → lastB l z'
  | [], _, _, _, _ => trivial
  | [_], _, _, h, hz => Int.le_trans h hz
  | _ :: q :: t, _, _, h, hz => lastB_mono (l := q :: t) h hz

/-- Rectangles with places, the leftmost first. -/
def SortX : Int → List Rc → Prop
  | _, [] => True
  | a, r :: t => a ≤ r.x ∧ 0 < r.w ∧ SortX r.x t
theorem runs_can (y a0 : Int) : ∀ {l : List Rc} {acc : List Sp} {a : Int}, SortX a l → Can a0 acc → a0 ≤ a → lastB acc a →
    Can a0 (runsF y l acc) ∧ ∀ x, inS (runsF y l acc) x ↔ inS acc x ∨ colS l y x
  | [], acc, a, _, hc, _, _ => by
    refine ⟨hc, fun x => ?_⟩
    rw [runsF]
    constructor
    · exact .inl
    · rintro (h | ⟨r, hr, _⟩)
      · exact h
      · cases hr
  | r :: t, acc, a, hs, hc, ha, hl => by
    obtain ⟨h1, h2, h3⟩ := hs
    have hcol : ∀ x, colS (r :: t) y x ↔ (rowOf r y ∧ r.x ≤ x ∧ x < r.x + r.w) ∨ colS t y x := by
      intro x
      unfold colS
      constructor
      · rintro ⟨q, hq, h⟩
        rcases List.mem_cons.1 hq with rfl | hq
        · exact .inl h
        · exact .inr ⟨q, hq, h⟩
      · rintro (h | ⟨q, hq, h⟩)
        · exact ⟨r, by simp, h⟩
        · exact ⟨q, by simp [hq], h⟩
    rw [runsF]
    by_cases c : y < r.y ∨ r.y + r.h ≤ y
    · rw [if_pos c]
      obtain ⟨i1, i2⟩ := runs_can y a0 (acc := acc) h3 hc (by omega) (lastB_mono hl h1)
      refine ⟨i1, fun x => ?_⟩
      rw [i2, hcol]
      have : ¬ rowOf r y := by unfold rowOf; omega
      simp [this]
    · rw [if_neg c]
      obtain ⟨j1, j2, j3⟩ := runA_can hc (show a0 ≤ r.x by omega) (show r.x < r.x + r.w by omega) (lastB_mono hl h1)
      obtain ⟨i1, i2⟩ := runs_can y a0 h3 j1 (by omega) j2
      refine ⟨i1, fun x => ?_⟩
      rw [i2, j3, hcol]
      have : rowOf r y := by unfold rowOf; omega
      simp only [this, true_and]
      exact or_assoc

/-- What is left of a span from a to b when spans are cut out, and of the cuts what is left for further spans. -/
def cutA : Int → Int → List Sp → List Sp × List Sp
  | a, b, [] => ([(a, b)], [])
  | a, b, c :: t => if c.1 < b then
      (if b ≤ c.2 then ((if a < c.1 then [(a, c.1)] else []), c :: t)
       else ((if a < c.1 then [(a, c.1)] else []) ++ (cutA (max a c.2) b t).1, (cutA (max a c.2) b t).2))
    else ([(a, b)], c :: t)
def piecesF : List Sp → List Sp → List Sp
  | [], _ => []
  | s :: t, cs => (cutA s.1 s.2 cs).1 ++ piecesF t (cutA s.1 s.2 cs).2
theorem cut_facts : ∀ {z : Int} {cs : List Sp} {a b : Int}, Can z cs → a < b →
    Can a (cutA a b cs).1 ∧ (∀ x, inS (cutA a b cs).1 x → x < b) ∧ lastE a (cutA a b cs).1 ≤ b + 1 ∧ (∀ x, inS (cutA a b cs).1 x ↔ (a ≤ x ∧ x < b) ∧ ¬ inS cs x) ∧ (∃ z', Can z' (cutA a b cs).2) ∧ (∀ x, b ≤ x → (inS (cutA a b cs).2 x ↔ inS cs x))
  | z, [], a, b, _, hab => by
    rw [cutA]
    refine ⟨⟨Int.le_refl _, hab, trivial⟩, ?_, by simp [lastE], ?_, ⟨0, trivial⟩, fun x _ => Iff.rfl⟩
    · intro x hx
      rw [inS_cons] at hx
      rcases hx with h | h
      · exact h.2
      · exact absurd h (inS_nil x)
    · intro x
      rw [inS_cons]
      simp [inS_nil]
  | z, c :: t, a, b, hc, hab => by
    obtain ⟨c1, c2, c3⟩ := id hc
    have tlow : ∀ x, inS t x → c.2 + 1 ≤ x := fun x hx => c3.low hx
    rw [cutA]
    by_cases h1 : c.1 < b
    · rw [if_pos h1]
      by_cases h2 : b ≤ c.2
      · rw [if_pos h2]
        dsimp only
        refine ⟨?_, ?_, ?_, ?_, ⟨z, hc⟩, fun x _ => Iff.rfl⟩
        · split
          · exact ⟨Int.le_refl _, by assumption, trivial⟩
          · trivial
        · intro x hx
          split at hx
          · rw [inS_cons] at hx
            rcases hx with h | h
            · have := h.2; dsimp only at this; omega
            · exact absurd h (inS_nil x)
          · exact absurd hx (inS_nil x)
        · split
          · simp only [lastE]; omega
          · simp only [lastE]; omega
        · intro x
          rw [inS_cons c t]
          split
          · rw [inS_cons]
            simp only [inS_nil, or_false]
            constructor
            · rintro ⟨p, q⟩
              refine ⟨by omega, ?_⟩
              rintro (h | h)
              · omega
              · have := tlow x h; omega
            · rintro ⟨p, q⟩
              have : ¬ (c.1 ≤ x ∧ x < c.2) := fun h => q (.inl h)
              omega
          · constructor
            · intro h; exact absurd h (inS_nil x)
            · rintro ⟨p, q⟩
              exact absurd (.inl ⟨by omega, by omega⟩) q
      · rw [if_neg h2]
        dsimp only
        obtain ⟨i1, i2, i3, i4, i5, i6⟩ := cut_facts (a := max a c.2) (b := b) c3 (by omega)
        have ilow : ∀ x, inS (cutA (max a c.2) b t).1 x → max a c.2 ≤ x := fun x hx => i1.low hx
        refine ⟨?_, ?_, ?_, ?_, i5, ?_⟩
        · split
          · refine ⟨Int.le_refl _, by assumption, ?_⟩
            exact i1.mono (by show c.1 + 1 ≤ max a c.2; omega)
          · exact i1.mono (by omega)
        · intro x hx
          rw [inS_app] at hx
          rcases hx with hx | hx
          · split at hx
            · rw [inS_cons] at hx
              rcases hx with h | h
              · have := h.2; dsimp only at this; omega
              · exact absurd h (inS_nil x)
            · exact absurd hx (inS_nil x)
          · exact i2 x hx
        · have key : ∀ (l : List Sp) (p q : Int), lastE p l ≤ b + 1 → q ≤ b + 1 → lastE q l ≤ b + 1 := by
            intro l p q h1 h2
            cases l with
            | nil => exact h2
            | cons s t => exact h1
          rw [lastE_app]
          exact key _ _ _ i3 (by split <;> (simp only [lastE]; omega))
        · intro x
          rw [inS_app, i4, inS_cons c t]
          split
          · rw [inS_cons]
            simp only [inS_nil, or_false]
            constructor
            · rintro (⟨p, q⟩ | ⟨p, q⟩)
              · refine ⟨by omega, ?_⟩
                rintro (h | h)
                · omega
                · have := tlow x h; omega
              · refine ⟨by omega, ?_⟩
                rintro (h | h)
                · omega
                · exact q h
            · rintro ⟨p, q⟩
              have hn : ¬ (c.1 ≤ x ∧ x < c.2) := fun h => q (.inl h)
              rcases Int.lt_or_le x c.1 with h | h
              · exact .inl ⟨p.1, h⟩
              · exact .inr ⟨by omega, fun h => q (.inr h)⟩
          · simp only [inS_nil, false_or]
            constructor
            · rintro ⟨p, q⟩
              refine ⟨by omega, ?_⟩
              rintro (h | h)
              · omega
              · exact q h
            · rintro ⟨p, q⟩
              have hn : ¬ (c.1 ≤ x ∧ x < c.2) := fun h => q (.inl h)
              exact ⟨by omega, fun h => q (.inr h)⟩
        · intro x hx
          rw [i6 x hx, inS_cons]
          constructor
          · exact .inr
          · rintro (h | h)
            · omega
            · exact h
    · rw [if_neg h1]
      dsimp only
      refine ⟨⟨Int.le_refl _, hab, trivial⟩, ?_, by simp [lastE], ?_, ⟨z, hc⟩, fun x _ => Iff.rfl⟩
      · intro x hx
        rw [inS_cons] at hx
        rcases hx with h | h
        · exact h.2
        · exact absurd h (inS_nil x)
      · intro x
        rw [inS_cons, inS_cons c t]
        simp only [inS_nil, or_false]
        constructor
        · intro p
          refine ⟨p, ?_⟩
          rintro (h | h)
          · omega
          · have := tlow x h; omega
        · exact fun h => h.1
theorem pieces_can : ∀ {a z : Int} {l cs : List Sp}, Can a l → Can z cs → Can a (piecesF l cs) ∧ ∀ x, inS (piecesF l cs) x ↔ inS l x ∧ ¬ inS cs x
  | _, _, [], _, _, _ => ⟨trivial, fun x => by rw [piecesF]; simp [inS_nil]⟩
  | a, z, s :: t, cs, hl, hc => by
    obtain ⟨l1, l2, l3⟩ := hl
    obtain ⟨i1, i2, i3, i4, ⟨z', i5⟩, i6⟩ := cut_facts hc l2
    obtain ⟨j1, j2⟩ := pieces_can l3 i5
    have tlow : ∀ x, inS t x → s.2 + 1 ≤ x := fun x hx => l3.low hx
    rw [piecesF]
    refine ⟨can_app (i1.mono l1) (j1.mono ?_), fun x => ?_⟩
    · cases hq : (cutA s.1 s.2 cs).1 with
      | nil => simp only [lastE]; omega
      | cons v u => rw [hq] at i3; exact i3
    · rw [inS_app, i4, j2, inS_cons]
      constructor
      · rintro (⟨p, q⟩ | ⟨p, q⟩)
        · exact ⟨.inl p, q⟩
        · have := tlow x p
          exact ⟨.inr p, fun h => q ((i6 x (by omega)).2 h)⟩
      · rintro ⟨p | p, q⟩
        · exact .inl ⟨p, q⟩
        · have := tlow x p
          exact .inr ⟨p, fun h => q ((i6 x (by omega)).1 h)⟩

end Go.Proofs.YtleoaanjcccooaaGreatDoor

/-
  Sets of places in plain lists: rows, edges, bands, the form; one form for each set.
-/
namespace Go.Proofs.YtleoaanjcccooaaGreatDoor

/-- A rectangle that has places. -/
def keepE (r : Rc) : Bool := !emptyB r.x r.y r.w r.h
theorem keepE_iff (r : Rc) : keepE r = true ↔ -16384 ≤ r.x ∧ 0 < r.w ∧ r.x + r.w ≤ 16384 ∧ -16384 ≤ r.y ∧ 0 < r.h ∧ r.y + r.h ≤ 16384 := by
  unfold keepE emptyB
  rw [Bool.not_eq_true', Bool.or_eq_false_iff, Bool.or_eq_false_iff, Bool.not_eq_false', may_iff]
  simp only [beq_eq_false_iff_ne]
  omega
/-- A place is one of a list's. -/
def cov (l : List Rc) (x y : Int) : Prop := ∃ r ∈ l, keepE r = true ∧ r.x ≤ x ∧ x < r.x + r.w ∧ r.y ≤ y ∧ y < r.y + r.h
def insX (r : Rc) : List Rc → List Rc
  | [] => [r]
  | q :: t => if r.x ≤ q.x then r :: q :: t else q :: insX r t
def solidF (l : List Rc) : List Rc := (l.filter keepE).foldr insX []
theorem insX_mem (r q : Rc) : ∀ l : List Rc, q ∈ insX r l ↔ q = r ∨ q ∈ l
  | [] => by simp [insX]
  | a :: t => by
    rw [insX]
    split
    · simp
    · rw [List.mem_cons, insX_mem r q t, List.mem_cons]
      constructor
      · rintro (h | h | h)
        · exact .inr (.inl h)
        · exact .inl h
        · exact .inr (.inr h)
      · rintro (h | h | h)
        · exact .inr (.inl h)
        · exact .inl h
        · exact .inr (.inr h)
theorem insX_sort (r : Rc) (hr : 0 < r.w) : ∀ {a : Int} {l : List Rc}, SortX a l → a ≤ r.x → SortX a (insX r l)
  | _, [], _, h => ⟨h, hr, trivial⟩
  | a, q :: t, hl, h => by
    rw [insX]
    split
    · next c => exact ⟨h, hr, c, hl.2⟩
    · next c => exact ⟨hl.1, hl.2.1, insX_sort r hr hl.2.2 (by omega)⟩
theorem fold_sort : ∀ (l : List Rc), (∀ r ∈ l, keepE r = true) → SortX (-16384) (l.foldr insX []) ∧ ∀ q, q ∈ l.foldr insX [] ↔ q ∈ l
  | [], _ => ⟨trivial, fun _ => Iff.rfl⟩
  | r :: t, h => by
    obtain ⟨i1, i2⟩ := fold_sort t (fun q hq => h q (by simp [hq]))
    have hr := (keepE_iff r).1 (h r (by simp))
    rw [List.foldr_cons]
    exact ⟨insX_sort r hr.2.1 i1 hr.1, fun q => by rw [insX_mem, i2, List.mem_cons]⟩
theorem solid_sort (l : List Rc) : SortX (-16384) (solidF l) ∧ ∀ q, q ∈ solidF l ↔ q ∈ l ∧ keepE q = true := by
  obtain ⟨h1, h2⟩ := fold_sort (l.filter keepE) (fun r hr => (List.mem_filter.1 hr).2)
  exact ⟨h1, fun q => by unfold solidF; rw [h2, List.mem_filter]⟩
/-- The runs of a list's row. -/
def rowF (l : List Rc) (y : Int) : List Sp := runsF y (solidF l) []
theorem row_any {l L : List Rc} (hs : SortX (-16384) L) (hm : ∀ q, q ∈ L ↔ q ∈ l ∧ keepE q = true) (y : Int) : Can (-16384) (runsF y L []) ∧ ∀ x, inS (runsF y L []) x ↔ cov l x y := by
  obtain ⟨h1, h2⟩ := runs_can y (-16384) (acc := []) hs trivial (Int.le_refl _) trivial
  refine ⟨h1, fun x => ?_⟩
  rw [h2]
  unfold colS cov rowOf
  simp only [inS_nil, false_or]
  constructor
  · rintro ⟨r, hr, ⟨p1, p2⟩, p3, p4⟩
    obtain ⟨q1, q2⟩ := (hm r).1 hr
    exact ⟨r, q1, q2, p3, p4, p1, p2⟩
  · rintro ⟨r, q1, q2, p3, p4, p1, p2⟩
    exact ⟨r, (hm r).2 ⟨q1, q2⟩, ⟨p1, p2⟩, p3, p4⟩
theorem row_can (l : List Rc) (y : Int) : Can (-16384) (rowF l y) ∧ ∀ x, inS (rowF l y) x ↔ cov l x y := row_any (solid_sort l).1 (solid_sort l).2 y
/-- However the rectangles are sorted by their left sides. -/
theorem row_eq {l L : List Rc} (hs : SortX (-16384) L) (hm : ∀ q, q ∈ L ↔ q ∈ l ∧ keepE q = true) (y : Int) : runsF y L [] = rowF l y := by
  obtain ⟨h1, h2⟩ := row_any hs hm y
  obtain ⟨h3, h4⟩ := row_can l y
  exact can_unique h1 h3 fun x => (h2 x).trans (h4 x).symm

/-- What is left of the spans of two rows: what both have, or what the one has without the other. -/
def wantF (k : Bool) (a b : List Sp) : List Sp := if k then piecesF a (piecesF a b) else piecesF a b
def keepP (k : Bool) (A B : Prop) : Prop := A ∧ (if k then B else ¬ B)
def rowW (k : Bool) (a b : List Rc) (y : Int) : List Sp := wantF k (rowF a y) (rowF b y)
theorem want_can {k : Bool} {z z' : Int} {a b : List Sp} (ha : Can z a) (hb : Can z' b) : Can z (wantF k a b) ∧ ∀ x, inS (wantF k a b) x ↔ keepP k (inS a x) (inS b x) := by
  obtain ⟨p1, p2⟩ := pieces_can ha hb
  unfold wantF keepP
  cases k with
  | false => exact ⟨p1, p2⟩
  | true =>
    obtain ⟨q1, q2⟩ := pieces_can ha p1
    refine ⟨q1, fun x => ?_⟩
    rw [if_pos rfl, q2, p2]
    simp only [if_true]
    constructor
    · rintro ⟨h1, h2⟩
      exact ⟨h1, Classical.byContradiction fun h3 => h2 ⟨h1, h3⟩⟩
    · rintro ⟨h1, h2⟩
      exact ⟨h1, fun h3 => h3.2 h2⟩
theorem rowW_can (k : Bool) (a b : List Rc) (y : Int) : Can (-16384) (rowW k a b y) ∧ ∀ x, inS (rowW k a b y) x ↔ keepP k (cov a x y) (cov b x y) := by
  obtain ⟨a1, a2⟩ := row_can a y
  obtain ⟨b1, b2⟩ := row_can b y
  obtain ⟨w1, w2⟩ := want_can (k := k) a1 b1
  refine ⟨w1, fun x => (w2 x).trans ?_⟩
  unfold keepP
  rw [a2]
  cases k <;> simp [b2]

/-- Edges, each once, rising. -/
def insU (n : Int) : List Int → List Int
  | [] => [n]
  | m :: t => if n < m then n :: m :: t else if n = m then m :: t else m :: insU n t
theorem insU_mem (n q : Int) : ∀ l : List Int, q ∈ insU n l ↔ q = n ∨ q ∈ l
  | [] => by simp [insU]
  | m :: t => by
    rw [insU]
    split
    · simp
    · split
      · next h => subst h; simp
      · rw [List.mem_cons, insU_mem n q t, List.mem_cons]
        constructor
        · rintro (h | h | h)
          · exact .inr (.inl h)
          · exact .inl h
          · exact .inr (.inr h)
        · rintro (h | h | h)
          · exact .inr (.inl h)
          · exact .inl h
          · exact .inr (.inr h)
/-- Numbers that rise. -/
def Inc : List Int → Prop
  | [] => True
  | a :: t => (∀ b ∈ t, a < b) ∧ Inc t
theorem insU_inc (n : Int) : ∀ {l : List Int}, Inc l → Inc (insU n l)
  | [], _ => ⟨by simp, trivial⟩
  | m :: t, h => by
    rw [insU]
    split
    · next c => exact ⟨fun b hb => by rcases List.mem_cons.1 hb with rfl | hb; exact c; have := h.1 b hb; omega, h⟩
    · next c =>
      split
      · exact h
      · next d => exact ⟨fun b hb => by rcases (insU_mem n b t).1 hb with rfl | hb; omega; exact h.1 b hb, insU_inc n h.2⟩
theorem inc_unique : ∀ {l m : List Int}, Inc l → Inc m → (∀ x, x ∈ l ↔ x ∈ m) → l = m
  | [], [], _, _, _ => rfl
  | [], b :: m, _, _, h => absurd ((h b).2 (by simp)) (by simp)
  | a :: l, [], _, _, h => absurd ((h a).1 (by simp)) (by simp)
  | a :: l, b :: m, hl, hm, h => by
    have e : a = b := by
      rcases List.mem_cons.1 ((h a).1 (by simp)) with e | e
      · exact e
      · rcases List.mem_cons.1 ((h b).2 (by simp)) with e' | e'
        · exact e'.symm
        · have := hm.1 a e; have := hl.1 b e'; omega
    subst e
    congr 1
    refine inc_unique hl.2 hm.2 fun x => ?_
    constructor
    · intro hx
      rcases List.mem_cons.1 ((h x).1 (by simp [hx])) with e | e
      · have := hl.1 x hx; omega
      · exact e
    · intro hx
      rcases List.mem_cons.1 ((h x).2 (by simp [hx])) with e | e
      · have := hm.1 x hx; omega
      · exact e
def edgesF (l : List Rc) : List Int := (l.filter keepE).foldr (fun r acc => insU r.y (insU (r.y + r.h) acc)) []
def isEdge (l : List Rc) (n : Int) : Prop := ∃ r ∈ l, keepE r = true ∧ (n = r.y ∨ n = r.y + r.h)
theorem edges_fold : ∀ (l : List Rc), Inc (l.foldr (fun r acc => insU r.y (insU (r.y + r.h) acc)) []) ∧ ∀ n, n ∈ l.foldr (fun r acc => insU r.y (insU (r.y + r.h) acc)) [] ↔ ∃ r ∈ l, n = r.y ∨ n = r.y + r.h
  | [] => ⟨trivial, fun n => by simp⟩
  | r :: t => by
    obtain ⟨i1, i2⟩ := edges_fold t
    rw [List.foldr_cons]
    refine ⟨insU_inc _ (insU_inc _ i1), fun n => ?_⟩
    rw [insU_mem, insU_mem, i2]
    constructor
    · rintro (h | h | ⟨q, hq, h⟩)
      · exact ⟨r, by simp, .inl h⟩
      · exact ⟨r, by simp, .inr h⟩
      · exact ⟨q, by simp [hq], h⟩
    · rintro ⟨q, hq, h⟩
      rcases List.mem_cons.1 hq with rfl | hq
      · rcases h with h | h
        · exact .inl h
        · exact .inr (.inl h)
      · exact .inr (.inr ⟨q, hq, h⟩)
theorem edges_inc (l : List Rc) : Inc (edgesF l) ∧ ∀ n, n ∈ edgesF l ↔ isEdge l n := by
  obtain ⟨h1, h2⟩ := edges_fold (l.filter keepE)
  refine ⟨h1, fun n => ?_⟩
  unfold edgesF isEdge
  rw [h2]
  constructor
  · rintro ⟨r, hr, h⟩
    obtain ⟨p, q⟩ := List.mem_filter.1 hr
    exact ⟨r, p, q, h⟩
  · rintro ⟨r, p, q, h⟩
    exact ⟨r, List.mem_filter.2 ⟨p, q⟩, h⟩

/-- Bands, the lowest first: its top, its bottom, its spans. -/
abbrev Bd := Int × Int × List Sp
def bandS (sp : List Sp) (t b : Int) : List Bd → List Bd
  | [] => if sp = [] then [] else [(t, b, sp)]
  | d :: ds => if sp = [] then d :: ds else if d.2.1 = t ∧ d.2.2 = sp then (d.1, b, d.2.2) :: ds else (t, b, sp) :: d :: ds
def bandsF (row : Int → List Sp) : List Int → List Bd → List Bd
  | t :: b :: rest, acc => bandsF row (b :: rest) (bandS (row t) t b acc)
  | _, acc => acc
/-- The spans of a row. -/
def fAt : List Bd → Int → List Sp
  | [], _ => []
  | d :: ds, y => if d.1 ≤ y ∧ y < d.2.1 then d.2.2 else fAt ds y
def notNext (d : Bd) : List Bd → Prop
  | [] => True
  | e :: _ => e.2.1 = d.1 → e.2.2 ≠ d.2.2
def BanR : Int → List Bd → Prop
  | _, [] => True
  | z, d :: ds => d.2.1 ≤ z ∧ d.1 < d.2.1 ∧ d.2.2 ≠ [] ∧ notNext d ds ∧ BanR d.1 ds
theorem BanR.mono : ∀ {z z' : Int} {l : List Bd}, BanR z l → z ≤ z' → BanR z' l
  | _, _, [], _, _ => trivial
  | _, _, _ :: _, h, hz => ⟨by have := h.1; omega, h.2⟩
theorem fAt_high : ∀ {z : Int} {l : List Bd}, BanR z l → ∀ y, z ≤ y → fAt l y = []
  | _, [], _, _, _ => rfl
  | z, d :: ds, h, y, hy => by
    obtain ⟨h1, h2, h3, h4, h5⟩ := h
    rw [fAt, if_neg (by omega)]
    exact fAt_high h5 y (by omega)
theorem fAt_next {d : Bd} {ds : List Bd} (hn : notNext d ds) (hb : BanR d.1 ds) (hd : d.2.2 ≠ []) : fAt ds (d.1 - 1) ≠ d.2.2 := by
  cases ds with
  | nil => exact fun h => hd h.symm
  | cons e es =>
    obtain ⟨h1, h2, h3, h4, h5⟩ := hb
    rw [fAt]
    by_cases c : e.2.1 = d.1
    · rw [if_pos (by omega)]
      exact hn c
    · rw [if_neg (by omega), fAt_high h5 _ (by omega)]
      exact fun h => hd h.symm
/-- One list of bands for each set of places. -/
theorem ban_unique : ∀ {z z' : Int} {l m : List Bd}, BanR z l → BanR z' m → (∀ y, fAt l y = fAt m y) → l = m
  | _, _, [], [], _, _, _ => rfl
  | _, _, [], e :: m, _, hm, h => by
    obtain ⟨h1, h2, h3, h4, h5⟩ := hm
    have := h e.1
    rw [fAt, fAt, if_pos (by omega)] at this
    exact absurd this.symm h3
  | _, _, d :: l, [], hl, _, h => by
    obtain ⟨h1, h2, h3, h4, h5⟩ := hl
    have := h d.1
    rw [fAt, fAt, if_pos (by omega)] at this
    exact absurd this h3
  | _, _, d :: l, e :: m, hl, hm, h => by
    have fl := fun y => fAt_high (show BanR d.2.1 (d :: l) from ⟨Int.le_refl _, hl.2⟩) y
    have fm := fun y => fAt_high (show BanR e.2.1 (e :: m) from ⟨Int.le_refl _, hm.2⟩) y
    obtain ⟨l1, l2, l3, l4, l5⟩ := hl
    obtain ⟨m1, m2, m3, m4, m5⟩ := hm
    have hd : ∀ y, d.1 ≤ y → y < d.2.1 → fAt (d :: l) y = d.2.2 := fun y a b => by rw [fAt, if_pos ⟨a, b⟩]
    have he : ∀ y, e.1 ≤ y → y < e.2.1 → fAt (e :: m) y = e.2.2 := fun y a b => by rw [fAt, if_pos ⟨a, b⟩]
    have e1 : d.2.1 = e.2.1 := by
      rcases Int.lt_trichotomy d.2.1 e.2.1 with c | c | c
      · have := h (e.2.1 - 1)
        rw [fl _ (by omega), he _ (by omega) (by omega)] at this
        exact absurd this.symm m3
      · exact c
      · have := h (d.2.1 - 1)
        rw [fm _ (by omega), hd _ (by omega) (by omega)] at this
        exact absurd this l3
    have e2 : d.2.2 = e.2.2 := by
      have := h (d.2.1 - 1)
      rwa [hd _ (by omega) (by omega), he _ (by omega) (by omega)] at this
    have e3 : d.1 = e.1 := by
      rcases Int.lt_trichotomy d.1 e.1 with c | c | c
      · have := h (e.1 - 1)
        rw [hd _ (by omega) (by omega), fAt, if_neg (by omega), e2] at this
        exact absurd this.symm (fAt_next m4 m5 m3)
      · exact c
      · have := h (d.1 - 1)
        rw [he _ (by omega) (by omega), fAt, if_neg (by omega), ← e2] at this
        exact absurd this (fAt_next l4 l5 l3)
    have ee : d = e := Prod.ext e3 (Prod.ext e1 e2)
    subst ee
    congr 1
    refine ban_unique l5 m5 fun y => ?_
    rcases Int.lt_or_le y d.1 with c | c
    · have := h y
      rwa [fAt, fAt, if_neg (by omega), if_neg (by omega)] at this
    · rw [fAt_high l5 y c, fAt_high m5 y c]

theorem bandS_ban {sp : List Sp} {t b : Int} (htb : t < b) : ∀ {l : List Bd}, BanR t l → BanR b (bandS sp t b l) ∧ ∀ y, fAt (bandS sp t b l) y = if t ≤ y ∧ y < b then sp else fAt l y
  | [], _ => by
    rw [bandS]
    by_cases c : sp = []
    · rw [if_pos c]
      refine ⟨trivial, fun y => ?_⟩
      rw [c]; simp [fAt]
    · rw [if_neg c]
      exact ⟨⟨Int.le_refl _, htb, c, trivial, trivial⟩, fun y => rfl⟩
  | d :: ds, h => by
    have hh := fAt_high h
    obtain ⟨h1, h2, h3, h4, h5⟩ := id h
    rw [bandS]
    by_cases c : sp = []
    · rw [if_pos c]
      refine ⟨h.mono (by omega), fun y => ?_⟩
      split
      · next p => rw [hh y p.1, c]
      · rfl
    · rw [if_neg c]
      by_cases c2 : d.2.1 = t ∧ d.2.2 = sp
      · rw [if_pos c2]
        refine ⟨⟨Int.le_refl _, by show d.1 < b; omega, h3, ?_, h5⟩, fun y => ?_⟩
        · cases ds with
          | nil => trivial
          | cons e es => exact h4
        · rw [fAt, fAt]
          dsimp only
          by_cases p : t ≤ y ∧ y < b
          · rw [if_pos p, if_pos (by omega), c2.2]
          · rw [if_neg p]
            by_cases q : d.1 ≤ y ∧ y < d.2.1
            · rw [if_pos q, if_pos (by omega)]
            · rw [if_neg q, if_neg (by omega)]
      · rw [if_neg c2]
        refine ⟨⟨Int.le_refl _, htb, c, fun p q => c2 ⟨p, q⟩, h⟩, fun y => rfl⟩
theorem bands_ban (row : Int → List Sp) : ∀ (ys : List Int) {z : Int} {acc : List Bd}, Inc (z :: ys) → BanR z acc →
    (∃ z', BanR z' (bandsF row (z :: ys) acc)) ∧ ∀ y, fAt (bandsF row (z :: ys) acc) y = if z ≤ y ∧ ∃ b ∈ ys, y < b then row ((z :: ys).foldl (fun m n => if n ≤ y then n else m) z) else fAt acc y
  | [], z, acc, _, ha => by
    refine ⟨⟨z, ha⟩, fun y => ?_⟩
    rw [bandsF]
    · simp
    · intro t b r h; cases h
  | b :: ys, z, acc, hi, ha => by
    have hzb : z < b := hi.1 b (by simp)
    obtain ⟨s1, s2⟩ := bandS_ban (sp := row z) hzb ha
    obtain ⟨i1, i2⟩ := bands_ban row ys hi.2 s1
    rw [bandsF]
    refine ⟨i1, fun y => ?_⟩
    rw [i2, s2]
    have hbig : ∀ n ∈ ys, b < n := hi.2.1
    have skip : ∀ (l : List Int) (m : Int), (∀ n ∈ l, y < n) → l.foldl (fun m n => if n ≤ y then n else m) m = m := by
      intro l
      induction l with
      | nil => intro m _; rfl
      | cons n t ih => intro m h; rw [List.foldl_cons, if_neg (by have := h n (by simp); omega)]; exact ih m (fun k hk => h k (by simp [hk]))
    by_cases p : b ≤ y
    · have f1 : (z :: b :: ys).foldl (fun m n => if n ≤ y then n else m) z = (b :: ys).foldl (fun m n => if n ≤ y then n else m) b := by
        simp only [List.foldl_cons]
        rw [if_pos (show z ≤ y by omega), if_pos p, ite_self]
      rw [f1]
      by_cases q : ∃ n ∈ ys, y < n
      · rw [if_pos ⟨p, q⟩, if_pos ⟨by omega, by obtain ⟨n, h1, h2⟩ := q; exact ⟨n, by simp [h1], h2⟩⟩]
      · rw [if_neg (fun h => q h.2), if_neg (by omega), if_neg ?_]
        rintro ⟨_, n, hn, h⟩
        rcases List.mem_cons.1 hn with rfl | hn
        · omega
        · exact q ⟨n, hn, h⟩
    · rw [if_neg (fun h => p h.1)]
      by_cases q : z ≤ y
      · rw [if_pos ⟨q, by omega⟩, if_pos ⟨q, b, by simp, by omega⟩]
        congr 1
        rw [List.foldl_cons, if_pos q]
        exact (skip (b :: ys) z (fun n hn => by rcases List.mem_cons.1 hn with rfl | hn; omega; have := hbig n hn; omega)).symm
      · rw [if_neg (fun h => q h.1), if_neg (fun h => q h.1)]

end Go.Proofs.YtleoaanjcccooaaGreatDoor

/-
  The form of what is left of two lists: its bands, its places; one form for each set of places.
-/
namespace Go.Proofs.YtleoaanjcccooaaGreatDoor

theorem fold_max (y : Int) : ∀ (l : List Int) (m : Int), Inc (m :: l) → m ≤ y → (l.foldl (fun m n => if n ≤ y then n else m) m = m ∨ l.foldl (fun m n => if n ≤ y then n else m) m ∈ l) ∧ l.foldl (fun m n => if n ≤ y then n else m) m ≤ y ∧
    m ≤ l.foldl (fun m n => if n ≤ y then n else m) m ∧ ∀ n ∈ l, n ≤ y → n ≤ l.foldl (fun m n => if n ≤ y then n else m) m
  | [], m, _, hm => ⟨.inl rfl, hm, Int.le_refl _, by simp⟩
  | n :: t, m, hi, hm => by
    have hmn : m < n := hi.1 n (by simp)
    rw [List.foldl_cons]
    by_cases c : n ≤ y
    · rw [if_pos c]
      obtain ⟨h1, h2, h3, h4⟩ := fold_max y t n hi.2 c
      refine ⟨.inr ?_, h2, by omega, fun k hk hky => ?_⟩
      · rcases h1 with h1 | h1
        · rw [h1]; simp
        · simp [h1]
      · rcases List.mem_cons.1 hk with rfl | hk
        · exact h3
        · exact h4 k hk hky
    · rw [if_neg c]
      obtain ⟨h1, h2, h3, h4⟩ := fold_max y t m ⟨fun b hb => hi.1 b (by simp [hb]), hi.2.2⟩ hm
      refine ⟨?_, h2, h3, fun k hk hky => ?_⟩
      · rcases h1 with h1 | h1
        · exact .inl h1
        · exact .inr (by simp [h1])
      · rcases List.mem_cons.1 hk with rfl | hk
        · omega
        · exact h4 k hk hky

theorem isEdge_app (a b : List Rc) (n : Int) : isEdge (a ++ b) n ↔ isEdge a n ∨ isEdge b n := by
  unfold isEdge
  constructor
  · rintro ⟨r, hr, h⟩
    rcases List.mem_append.1 hr with hr | hr
    · exact .inl ⟨r, hr, h⟩
    · exact .inr ⟨r, hr, h⟩
  · rintro (⟨r, hr, h⟩ | ⟨r, hr, h⟩)
    · exact ⟨r, by simp [hr], h⟩
    · exact ⟨r, by simp [hr], h⟩
theorem cov_app (a b : List Rc) (x y : Int) : cov (a ++ b) x y ↔ cov a x y ∨ cov b x y := by
  unfold cov
  constructor
  · rintro ⟨r, hr, h⟩
    rcases List.mem_append.1 hr with hr | hr
    · exact .inl ⟨r, hr, h⟩
    · exact .inr ⟨r, hr, h⟩
  · rintro (⟨r, hr, h⟩ | ⟨r, hr, h⟩)
    · exact ⟨r, by simp [hr], h⟩
    · exact ⟨r, by simp [hr], h⟩
/-- Between two edges all rows are alike. -/
theorem cov_step {l : List Rc} {m y : Int} (hm : m ≤ y) (h : ∀ n, isEdge l n → n ≤ y → n ≤ m) (x : Int) : cov l x m ↔ cov l x y := by
  unfold cov
  constructor
  · rintro ⟨r, hr, hk, p1, p2, p3, p4⟩
    refine ⟨r, hr, hk, p1, p2, by omega, ?_⟩
    rcases Int.lt_or_le y (r.y + r.h) with c | c
    · exact c
    · have := h (r.y + r.h) ⟨r, hr, hk, .inr rfl⟩ c; omega
  · rintro ⟨r, hr, hk, p1, p2, p3, p4⟩
    have := h r.y ⟨r, hr, hk, .inl rfl⟩ p3
    exact ⟨r, hr, hk, p1, p2, this, by omega⟩

def bandsR (k : Bool) (a b : List Rc) : List Bd := bandsF (rowW k a b) (edgesF (a ++ b)) []
theorem rowW_same {k k' : Bool} {a b a' b' : List Rc} {y y' : Int} (h : ∀ x, keepP k (cov a x y) (cov b x y) ↔ keepP k' (cov a' x y') (cov b' x y')) : rowW k a b y = rowW k' a' b' y' := by
  obtain ⟨h1, h2⟩ := rowW_can k a b y
  obtain ⟨h3, h4⟩ := rowW_can k' a' b' y'
  exact can_unique h1 h3 fun x => (h2 x).trans ((h x).trans (h4 x).symm)
theorem keepP_congr {k : Bool} {A B A' B' : Prop} (ha : A ↔ A') (hb : B ↔ B') : keepP k A B ↔ keepP k A' B' := by
  unfold keepP; rw [ha]; cases k <;> simp [hb]
theorem rowW_none {k : Bool} {a b : List Rc} {y : Int} (h : ∀ x, ¬ cov a x y) : rowW k a b y = [] := by
  obtain ⟨h1, h2⟩ := rowW_can k a b y
  refine can_unique h1 (b := 0) trivial fun x => ?_
  rw [h2]
  constructor
  · intro p; exact absurd p.1 (h x)
  · intro p; exact absurd p (inS_nil x)
theorem bands_any (k : Bool) (a b : List Rc) {ys : List Int} (hi : Inc ys) (hm : ∀ n, n ∈ ys ↔ isEdge (a ++ b) n) : (∃ z, BanR z (bandsF (rowW k a b) ys [])) ∧ ∀ y, fAt (bandsF (rowW k a b) ys []) y = rowW k a b y := by
  cases ys with
  | nil =>
    refine ⟨⟨0, by rw [bandsF]; trivial; intro t b r h; cases h⟩, fun y => ?_⟩
    rw [rowW_none]
    · rw [bandsF]
      · rfl
      · intro t b r h; cases h
    · rintro x ⟨r, hr, hk, _⟩
      exact absurd ((hm r.y).2 ⟨r, by simp [hr], hk, .inl rfl⟩) (by simp)
  | cons z ys =>
    obtain ⟨h1, h2⟩ := bands_ban (rowW k a b) ys hi (acc := []) (z := z) trivial
    refine ⟨h1, fun y => ?_⟩
    rw [h2]
    by_cases c : z ≤ y ∧ ∃ b ∈ ys, y < b
    · rw [if_pos c, List.foldl_cons, ite_self]
      obtain ⟨_, g2, g3, g4⟩ := fold_max y ys z hi c.1
      generalize ys.foldl (fun m n => if n ≤ y then n else m) z = m at *
      have step : ∀ n, isEdge (a ++ b) n → n ≤ y → n ≤ m := fun n hn hny => by
        rcases List.mem_cons.1 ((hm n).2 hn) with rfl | hn
        · exact g3
        · exact g4 n hn hny
      exact rowW_same fun x => keepP_congr (cov_step g2 (fun n hn => step n ((isEdge_app a b n).2 (.inl hn))) x) (cov_step g2 (fun n hn => step n ((isEdge_app a b n).2 (.inr hn))) x)
    · rw [if_neg c, rowW_none]
      · rfl
      · rintro x ⟨r, hr, hk, p1, p2, p3, p4⟩
        have e1 := (hm r.y).2 ⟨r, by simp [hr], hk, .inl rfl⟩
        have e2 := (hm (r.y + r.h)).2 ⟨r, by simp [hr], hk, .inr rfl⟩
        have hz : z ≤ r.y := by
          rcases List.mem_cons.1 e1 with e | e
          · omega
          · have := hi.1 _ e; omega
        refine c ⟨by omega, r.y + r.h, ?_, p4⟩
        rcases List.mem_cons.1 e2 with e | e
        · omega
        · exact e
theorem bandsR_ban (k : Bool) (a b : List Rc) : (∃ z, BanR z (bandsR k a b)) ∧ ∀ y, fAt (bandsR k a b) y = rowW k a b y :=
  bands_any k a b (edges_inc (a ++ b)).1 (edges_inc (a ++ b)).2
theorem bands_same {k k' : Bool} {a b a' b' : List Rc} (h : ∀ x y, keepP k (cov a x y) (cov b x y) ↔ keepP k' (cov a' x y) (cov b' x y)) : bandsR k a b = bandsR k' a' b' := by
  obtain ⟨⟨z, h1⟩, h2⟩ := bandsR_ban k a b
  obtain ⟨⟨z', h3⟩, h4⟩ := bandsR_ban k' a' b'
  exact ban_unique h1 h3 fun y => by rw [h2, h4]; exact rowW_same fun x => h x y

def rcts (d : Bd) : List Rc := d.2.2.map fun s => ⟨s.1, d.1, s.2 - s.1, d.2.1 - d.1⟩
def flatB (l : List Bd) : List Rc := (l.reverse.map rcts).flatten
/-- The form. -/
def formF (k : Bool) (a b : List Rc) : List Rc := flatB (bandsR k a b)
theorem form_same {k k' : Bool} {a b a' b' : List Rc} (h : ∀ x y, keepP k (cov a x y) (cov b x y) ↔ keepP k' (cov a' x y) (cov b' x y)) : formF k a b = formF k' a' b' := by
  unfold formF; rw [bands_same h]
theorem fAt_mem : ∀ {z : Int} {l : List Bd}, BanR z l → ∀ d ∈ l, ∀ y, d.1 ≤ y → y < d.2.1 → fAt l y = d.2.2
  | z, e :: es, h, d, hd, y, h1, h2 => by
    rcases List.mem_cons.1 hd with rfl | hd
    · rw [fAt, if_pos ⟨h1, h2⟩]
    · obtain ⟨g1, g2, g3, g4, g5⟩ := h
      have := fAt_mem g5 d hd y h1 h2
      have hne : y < e.1 := by
        rcases Int.lt_or_le y e.1 with c | c
        · exact c
        · have hh := fAt_high g5 y c
          rw [hh] at this
          have : ∀ {z : Int} {l : List Bd}, BanR z l → ∀ d ∈ l, d.2.2 ≠ [] := by
            intro z l
            induction l generalizing z with
            | nil => intro _ d hd; cases hd
            | cons e es ih =>
              intro h d hd
              rcases List.mem_cons.1 hd with rfl | hd
              · exact h.2.2.1
              · exact ih h.2.2.2.2 d hd
          exact absurd (by assumption : [] = d.2.2).symm (this g5 d hd)
      rw [fAt, if_neg (by omega)]
      exact this
theorem ban_mem : ∀ {z : Int} {l : List Bd}, BanR z l → ∀ d ∈ l, d.1 < d.2.1 ∧ d.2.2 ≠ []
  | z, e :: es, h, d, hd => by
    rcases List.mem_cons.1 hd with rfl | hd
    · exact ⟨h.2.1, h.2.2.1⟩
    · exact ban_mem h.2.2.2.2 d hd
theorem flat_mem (l : List Bd) (r : Rc) : r ∈ flatB l ↔ ∃ d ∈ l, ∃ s ∈ d.2.2, r = ⟨s.1, d.1, s.2 - s.1, d.2.1 - d.1⟩ := by
  unfold flatB rcts
  simp only [List.mem_flatten, List.mem_map, List.mem_reverse]
  constructor
  · rintro ⟨_, ⟨d, hd, rfl⟩, hr⟩
    obtain ⟨s, hs, rfl⟩ := List.mem_map.1 hr
    exact ⟨d, hd, s, hs, rfl⟩
  · rintro ⟨d, hd, s, hs, rfl⟩
    exact ⟨_, ⟨d, hd, rfl⟩, List.mem_map.2 ⟨s, hs, rfl⟩⟩
theorem cov_in {l : List Rc} {x y : Int} (h : cov l x y) : -16384 ≤ x ∧ x < 16384 ∧ -16384 ≤ y ∧ y < 16384 := by
  obtain ⟨r, _, hk, h1, h2, h3, h4⟩ := h
  have := (keepE_iff r).1 hk
  omega
/-- The rectangles of the form may be, and have places. -/
theorem form_keep (k : Bool) (a b : List Rc) : ∀ r ∈ formF k a b, keepE r = true := by
  intro r hr
  obtain ⟨d, hd, s, hs, rfl⟩ := (flat_mem _ _).1 hr
  obtain ⟨⟨z, h1⟩, h2⟩ := bandsR_ban k a b
  obtain ⟨b1, b2⟩ := ban_mem h1 d hd
  have hrow : ∀ y, d.1 ≤ y → y < d.2.1 → rowW k a b y = d.2.2 := fun y p q => by rw [← h2]; exact fAt_mem h1 d hd y p q
  have e := hrow d.1 (Int.le_refl _) b1
  have hc := (rowW_can k a b d.1).1
  rw [e] at hc
  have hs1 := (hc.ge s hs).2
  have in1 : ∀ y, d.1 ≤ y → y < d.2.1 → ∀ x, s.1 ≤ x → x < s.2 → cov a x y := fun y p q x u v => by
    have := (rowW_can k a b y).2 x
    rw [hrow y p q] at this
    exact (this.1 ⟨s, hs, u, v⟩).1
  have c1 := cov_in (in1 d.1 (Int.le_refl _) b1 s.1 (Int.le_refl _) hs1)
  have c2 := cov_in (in1 (d.2.1 - 1) (by omega) (by omega) (s.2 - 1) (by omega) (by omega))
  rw [keepE_iff]
  dsimp only
  omega
/-- The places of the form. -/
theorem form_cov (k : Bool) (a b : List Rc) (x y : Int) : cov (formF k a b) x y ↔ keepP k (cov a x y) (cov b x y) := by
  obtain ⟨⟨z, h1⟩, h2⟩ := bandsR_ban k a b
  rw [← (rowW_can k a b y).2, ← h2]
  constructor
  · rintro ⟨r, hr, hk, p1, p2, p3, p4⟩
    obtain ⟨d, hd, s, hs, rfl⟩ := (flat_mem _ _).1 hr
    dsimp only at p1 p2 p3 p4
    rw [fAt_mem h1 d hd y (by omega) (by omega)]
    exact ⟨s, hs, p1, by omega⟩
  · rintro ⟨s, hs, p1, p2⟩
    have : ∃ d ∈ bandsR k a b, d.1 ≤ y ∧ y < d.2.1 ∧ s ∈ d.2.2 := by
      generalize bandsR k a b = l at hs
      induction l with
      | nil => cases hs
      | cons e es ih =>
        rw [fAt] at hs
        split at hs
        · next c => exact ⟨e, by simp, c.1, c.2, hs⟩
        · obtain ⟨d, hd, q⟩ := ih hs
          exact ⟨d, by simp [hd], q⟩
    obtain ⟨d, hd, q1, q2, q3⟩ := this
    have hr : (⟨s.1, d.1, s.2 - s.1, d.2.1 - d.1⟩ : Rc) ∈ formF k a b := (flat_mem _ _).2 ⟨d, hd, s, q3, rfl⟩
    refine ⟨_, hr, form_keep k a b _ hr, p1, ?_, q1, ?_⟩
    · dsimp only; omega
    · dsimp only; omega
theorem cov_nil (x y : Int) : ¬ cov [] x y := by rintro ⟨r, hr, _⟩; cases hr
/-- A form is its own form. -/
theorem form_form (k : Bool) (a b : List Rc) : formF false (formF k a b) [] = formF k a b := by
  refine form_same fun x y => ?_
  rw [← form_cov k a b]
  unfold keepP
  simp [cov_nil]

end Go.Proofs.YtleoaanjcccooaaGreatDoor
