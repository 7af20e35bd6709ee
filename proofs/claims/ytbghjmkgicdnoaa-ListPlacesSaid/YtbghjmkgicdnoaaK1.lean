/-
  Texts of this claim, one behind the other: what each is about stands ahead of it.
-/
import Derived.Test.YtbghjmkgicdnoaaK0
import Derived.Test.YtbghjmkgicdnoaaRows
import Derived.WalkKit
import Derived.WalkSpells
import Derived.WalkLawsBesides
/-
  The form of what is left of two lists: its bands, its places; one form for each set of places.
-/
namespace Go.Proofs.Ytbghjmkgicdnoaa

theorem fold_max (y : Int) : ∀ (l : List Int) (m : Int), Inc (m :: l) → m ≤ y → (l.foldl (fun m n => if n ≤ y then n else m) m = m ∨ l.foldl (fun m n => if n ≤ y then n else m) m ∈ l) ∧ l.foldl (fun m n => if n ≤ y then n else m) m ≤ y ∧
    m ≤ l.foldl (fun m n => if n ≤ y then n else m) m ∧ ∀ n ∈ l, n ≤ y → n ≤ l.foldl (fun m n => if n ≤ y then n else m) m
  | [], m, _, hm => ⟨.inl rfl, hm, Int.le_refl _, by simp⟩
  | n :: t, m, hi, hm => by
    have hmn : m < n := hi.1 n (by simp)
    rw [List.foldl_cons]
    by_cases c : n ≤ y
    · rw [if_pos c]
      obtain ⟨h1, h2, h3, h4⟩ := fold_max y t n hi.2 c
      refine ⟨.inr ?_, h2, by omega, fun k hk hky => ?_⟩
      · rcases h1 with h1 | h1
        · rw [h1]; simp
        · simp [h1]
      · rcases List.mem_cons.1 hk with rfl | hk
        · exact h3
        · exact h4 k hk hky
    · rw [if_neg c]
      obtain ⟨h1, h2, h3, h4⟩ := fold_max y t m ⟨fun b hb => hi.1 b (by simp [hb]), hi.2.2⟩ hm
      refine ⟨?_, h2, h3, fun k hk hky => ?_⟩
      · rcases h1 with h1 | h1
        · exact .inl h1
        · exact .inr (by simp [h1])
      · rcases List.mem_cons.1 hk with rfl | hk
        · omega
        · exact h4 k hk hky

theorem isEdge_app (a b : List Rc) (n : Int) : isEdge (a ++ b) n ↔ isEdge a n ∨ isEdge b n := by
  unfold isEdge
  constructor
  · rintro ⟨r, hr, h⟩
    rcases List.mem_append.1 hr with hr | hr
    · exact .inl ⟨r, hr, h⟩
    · exact .inr ⟨r, hr, h⟩
  · rintro (⟨r, hr, h⟩ | ⟨r, hr, h⟩)
    · exact ⟨r, by simp [hr], h⟩
    · exact ⟨r, by simp [hr], h⟩
theorem cov_app (a b : List Rc) (x y : Int) : cov (a ++ b) x y ↔ cov a x y ∨ cov b x y := by
  unfold cov
  constructor
  · rintro ⟨r, hr, h⟩
    rcases List.mem_append.1 hr with hr | hr
    · exact .inl ⟨r, hr, h⟩
    · exact .inr ⟨r, hr, h⟩
  · rintro (⟨r, hr, h⟩ | ⟨r, hr, h⟩)
    · exact ⟨r, by simp [hr], h⟩
    · exact ⟨r, by simp [hr], h⟩
/-- Between two edges all rows are alike. -/
theorem cov_step {l : List Rc} {m y : Int} (hm : m ≤ y) (h : ∀ n, isEdge l n → n ≤ y → n ≤ m) (x : Int) : cov l x m ↔ cov l x y := by
  unfold cov
  constructor
  · rintro ⟨r, hr, hk, p1, p2, p3, p4⟩
    refine ⟨r, hr, hk, p1, p2, by omega, ?_⟩
    rcases Int.lt_or_le y (r.y + r.h) with c | c
    · exact c
    · have := h (r.y + r.h) ⟨r, hr, hk, .inr rfl⟩ c; omega
  · rintro ⟨r, hr, hk, p1, p2, p3, p4⟩
    have := h r.y ⟨r, hr, hk, .inl rfl⟩ p3
    exact ⟨r, hr, hk, p1, p2, this, by omega⟩

def bandsR (k : Bool) (a b : List Rc) : List Bd := bandsF (rowW k a b) (edgesF (a ++ b)) []
theorem rowW_same {k k' : Bool} {a b a' b' : List Rc} {y y' : Int} (h : ∀ x, keepP k (cov a x y) (cov b x y) ↔ keepP k' (cov a' x y') (cov b' x y')) : rowW k a b y = rowW k' a' b' y' := by
  obtain ⟨h1, h2⟩ := rowW_can k a b y
  obtain ⟨h3, h4⟩ := rowW_can k' a' b' y'
  exact can_unique h1 h3 fun x => (h2 x).trans ((h x).trans (h4 x).symm)
theorem keepP_congr {k : Bool} {A B A' B' : Prop} (ha : A ↔ A') (hb : B ↔ B') : keepP k A B ↔ keepP k A' B' := by
  unfold keepP; rw [ha]; cases k <;> simp [hb]
theorem rowW_none {k : Bool} {a b : List Rc} {y : Int} (h : ∀ x, ¬ cov a x y) : rowW k a b y = [] := by
  obtain ⟨h1, h2⟩ := rowW_can k a b y
  refine can_unique h1 (b := 0) trivial fun x => ?_
  rw [h2]
  constructor
  · intro p; exact absurd p.1 (h x)
  · intro p; exact absurd p (inS_nil x)
theorem bands_any (k : Bool) (a b : List Rc) {ys : List Int} (hi : Inc ys) (hm : ∀ n, n ∈ ys ↔ isEdge (a ++ b) n) : (∃ z, BanR z (bandsF (rowW k a b) ys [])) ∧ ∀ y, fAt (bandsF (rowW k a b) ys []) y = rowW k a b y := by
  cases ys with
  | nil =>
    refine ⟨⟨0, by rw [bandsF]; trivial; intro t b r h; cases h⟩, fun y => ?_⟩
    rw [rowW_none]
    · rw [bandsF]
      · rfl
      · intro t b r h; cases h
    · rintro x ⟨r, hr, hk, _⟩
      exact absurd ((hm r.y).2 ⟨r, by simp [hr], hk, .inl rfl⟩) (by simp)
  | cons z ys =>
    obtain ⟨h1, h2⟩ := bands_ban (rowW k a b) ys hi (acc := []) (z := z) trivial
    refine ⟨h1, fun y => ?_⟩
    rw [h2]
    by_cases c : z ≤ y ∧ ∃ b ∈ ys, y < b
    · rw [if_pos c, List.foldl_cons, ite_self]
      obtain ⟨_, g2, g3, g4⟩ := fold_max y ys z hi c.1
      generalize ys.foldl (fun m n => if n ≤ y then n else m) z = m at *
      have step : ∀ n, isEdge (a ++ b) n → n ≤ y → n ≤ m := fun n hn hny => by
        rcases List.mem_cons.1 ((hm n).2 hn) with rfl | hn
        · exact g3
        · exact g4 n hn hny
      exact rowW_same fun x => keepP_congr (cov_step g2 (fun n hn => step n ((isEdge_app a b n).2 (.inl hn))) x) (cov_step g2 (fun n hn => step n ((isEdge_app a b n).2 (.inr hn))) x)
    · rw [if_neg c, rowW_none]
      · rfl
      · rintro x ⟨r, hr, hk, p1, p2, p3, p4⟩
        have e1 := (hm r.y).2 ⟨r, by simp [hr], hk, .inl rfl⟩
        have e2 := (hm (r.y + r.h)).2 ⟨r, by simp [hr], hk, .inr rfl⟩
        have hz : z ≤ r.y := by
          rcases List.mem_cons.1 e1 with e | e
          · omega
          · have := hi.1 _ e; omega
        refine c ⟨by omega, r.y + r.h, ?_, p4⟩
        rcases List.mem_cons.1 e2 with e | e
        · omega
        · exact e
theorem bandsR_ban (k : Bool) (a b : List Rc) : (∃ z, BanR z (bandsR k a b)) ∧ ∀ y, fAt (bandsR k a b) y = rowW k a b y :=
  bands_any k a b (edges_inc (a ++ b)).1 (edges_inc (a ++ b)).2
theorem bands_same {k k' : Bool} {a b a' b' : List Rc} (h : ∀ x y, keepP k (cov a x y) (cov b x y) ↔ keepP k' (cov a' x y) (cov b' x y)) : bandsR k a b = bandsR k' a' b' := by
  obtain ⟨⟨z, h1⟩, h2⟩ := bandsR_ban k a b
  obtain ⟨⟨z', h3⟩, h4⟩ := bandsR_ban k' a' b'
  exact ban_unique h1 h3 fun y => by rw [h2, h4]; exact rowW_same fun x => h x y

def rcts (d : Bd) : List Rc := d.2.2.map fun s => ⟨s.1, d.1, s.2 - s.1, d.2.1 - d.1⟩
def flatB (l : List Bd) : List Rc := (l.reverse.map rcts).flatten
/-- The form. -/
def formF (k : Bool) (a b : List Rc) : List Rc := flatB (bandsR k a b)
theorem form_same {k k' : Bool} {a b a' b' : List Rc} (h : ∀ x y, keepP k (cov a x y) (cov b x y) ↔ keepP k' (cov a' x y) (cov b' x y)) : formF k a b = formF k' a' b' := by
  unfold formF; rw [bands_same h]
theorem fAt_mem : ∀ {z : Int} {l : List Bd}, BanR z l → ∀ d ∈ l, ∀ y, d.1 ≤ y → y < d.2.1 → fAt l y = d.2.2
  | z, e :: es, h, d, hd, y, h1, h2 => by
    rcases List.mem_cons.1 hd with rfl | hd
    · rw [fAt, if_pos ⟨h1, h2⟩]
    · obtain ⟨g1, g2, g3, g4, g5⟩ := h
      have := fAt_mem g5 d hd y h1 h2
      have hne : y < e.1 := by
        rcases Int.lt_or_le y e.1 with c | c
        · exact c
        · have hh := fAt_high g5 y c
          rw [hh] at this
          have : ∀ {z : Int} {l : List Bd}, BanR z l → ∀ d ∈ l, d.2.2 ≠ [] := by
            intro z l
            induction l generalizing z with
            | nil => intro _ d hd; cases hd
            | cons e es ih =>
              intro h d hd
              rcases List.mem_cons.1 hd with rfl | hd
              · exact h.2.2.1
              · exact ih h.2.2.2.2 d hd
          exact absurd (by assumption : [] = d.2.2).symm (this g5 d hd)
      rw [fAt, if_neg (by omega)]
      exact this
theorem ban_mem : ∀ {z : Int} {l : List Bd}, BanR z l → ∀ d ∈ l, d.1 < d.2.1 ∧ d.2.2 ≠ []
  | z, e :: es, h, d, hd => by
    rcases List.mem_cons.1 hd with rfl | hd
    · exact ⟨h.2.1, h.2.2.1⟩
    · exact ban_mem h.2.2.2.2 d hd
theorem flat_mem (l : List Bd) (r : Rc) : r ∈ flatB l ↔ ∃ d ∈ l, ∃ s ∈ d.2.2, r = ⟨s.1, d.1, s.2 - s.1, d.2.1 - d.1⟩ := by
  unfold flatB rcts
  simp only [List.mem_flatten, List.mem_map, List.mem_reverse]
  constructor
  · rintro ⟨_, ⟨d, hd, rfl⟩, hr⟩
    obtain ⟨s, hs, rfl⟩ := List.mem_map.1 hr
    exact ⟨d, hd, s, hs, rfl⟩
  · rintro ⟨d, hd, s, hs, rfl⟩
    exact ⟨_, ⟨d, hd, rfl⟩, List.mem_map.2 ⟨s, hs, rfl⟩⟩
theorem cov_in {l : List Rc} {x y : Int} (h : cov l x y) : -16384 ≤ x ∧ x < 16384 ∧ -16384 ≤ y ∧ y < 16384 := by
  obtain ⟨r, _, hk, h1, h2, h3, h4⟩ := h
  have := (keepE_iff r).1 hk
  omega
/-- The rectangles of the form may be, and have places. -/
theorem form_keep (k : Bool) (a b : List Rc) : ∀ r ∈ formF k a b, keepE r = true := by
  intro r hr
  obtain ⟨d, hd, s, hs, rfl⟩ := (flat_mem _ _).1 hr
  obtain ⟨⟨z, h1⟩, h2⟩ := bandsR_ban k a b
  obtain ⟨b1, b2⟩ := ban_mem h1 d hd
  have hrow : ∀ y, d.1 ≤ y → y < d.2.1 → rowW k a b y = d.2.2 := fun y p q => by rw [← h2]; exact fAt_mem h1 d hd y p q
  have e := hrow d.1 (Int.le_refl _) b1
  have hc := (rowW_can k a b d.1).1
  rw [e] at hc
  have hs1 := (hc.ge s hs).2
  have in1 : ∀ y, d.1 ≤ y → y < d.2.1 → ∀ x, s.1 ≤ x → x < s.2 → cov a x y := fun y p q x u v => by
    have := (rowW_can k a b y).2 x
    rw [hrow y p q] at this
    exact (this.1 ⟨s, hs, u, v⟩).1
  have c1 := cov_in (in1 d.1 (Int.le_refl _) b1 s.1 (Int.le_refl _) hs1)
  have c2 := cov_in (in1 (d.2.1 - 1) (by omega) (by omega) (s.2 - 1) (by omega) (by omega))
  rw [keepE_iff]
  dsimp only
  omega
/-- The places of the form. -/
theorem form_cov (k : Bool) (a b : List Rc) (x y : Int) : cov (formF k a b) x y ↔ keepP k (cov a x y) (cov b x y) := by
  obtain ⟨⟨z, h1⟩, h2⟩ := bandsR_ban k a b
  rw [← (rowW_can k a b y).2, ← h2]
  constructor
  · rintro ⟨r, hr, hk, p1, p2, p3, p4⟩
    obtain ⟨d, hd, s, hs, rfl⟩ := (flat_mem _ _).1 hr
    dsimp only at p1 p2 p3 p4
    rw [fAt_mem h1 d hd y (by omega) (by omega)]
    exact ⟨s, hs, p1, by omega⟩
  · rintro ⟨s, hs, p1, p2⟩
    have : ∃ d ∈ bandsR k a b, d.1 ≤ y ∧ y < d.2.1 ∧ s ∈ d.2.2 := by
      generalize bandsR k a b = l at hs
      induction l with
      | nil => cases hs
      | cons e es ih =>
        rw [fAt] at hs
        split at hs
        · next c => exact ⟨e, by simp, c.1, c.2, hs⟩
        · obtain ⟨d, hd, q⟩ := ih hs
          exact ⟨d, by simp [hd], q⟩
    obtain ⟨d, hd, q1, q2, q3⟩ := this
    have hr : (⟨s.1, d.1, s.2 - s.1, d.2.1 - d.1⟩ : Rc) ∈ formF k a b := (flat_mem _ _).2 ⟨d, hd, s, q3, rfl⟩
    refine ⟨_, hr, form_keep k a b _ hr, p1, ?_, q1, ?_⟩
    · dsimp only; omega
    · dsimp only; omega
theorem cov_nil (x y : Int) : ¬ cov [] x y := by rintro ⟨r, hr, _⟩; cases hr
/-- A form is its own form. -/
theorem form_form (k : Bool) (a b : List Rc) : formF false (formF k a b) [] = formF k a b := by
  refine form_same fun x y => ?_
  rw [← form_cov k a b]
  unfold keepP
  simp [cov_nil]

end Go.Proofs.Ytbghjmkgicdnoaa

/-
  Contracts of the leaves of package geom: what each call answers; of what was there nothing turns.
-/
namespace Go.Proofs.Ytbghjmkgicdnoaa
open Go.RowKit

theorem bcell {W w1 : World} (hb : Below W.heap.size W w1) : (∀ b o, b < W.heap.size → w1.cell? ⟨b, o, none⟩ = W.cell? ⟨b, o, none⟩) ∧ (∀ b o, b < W.heap.size → w1.frozen? ⟨b, o, none⟩ = W.frozen? ⟨b, o, none⟩) :=
  ⟨fun b o h => hb.cell (p := ⟨b, o, none⟩) h, fun b o h => hb.frozen (p := ⟨b, o, none⟩) h⟩

theorem ret_bool {a b : Bool} (h : a = true ↔ b = true) : Ending.returned (.bool a) = .returned (.bool b) := by rw [Bool.eq_iff_iff.2 h]
theorem ret_int {a b : Int} (h : a = b) : Ending.returned (.int .i64 a) = .returned (.int .i64 b) := by rw [h]

/-- The builtin max, min, as the walk writes them. -/
theorem ite_max (x y : Int) : (if x < y then y else x) = max x y := by omega
theorem ite_min (x y : Int) : (if y < x then y else x) = min x y := by omega

/-- Sizes of worlds, for the walk's own reckoning. -/
theorem lt_s {a b : Nat} (h : a < b) : (a < b + 1) = True := by simp; omega
theorem le_s {a b : Nat} (h : a ≤ b) : (a ≤ b + 1) = True := by simp; omega
theorem le_lt {a b : Nat} (h : a < b) : (a ≤ b) = True := by simp; omega

/-- A block that holds a rectangle; a point. -/
def At4 (w : World) (b : Nat) (x y n m : Int) : Prop := w.cell? ⟨b, 0, none⟩ = some (.int .i64 x) ∧ w.cell? ⟨b, 1, none⟩ = some (.int .i64 y) ∧ w.cell? ⟨b, 2, none⟩ = some (.int .i64 n) ∧ w.cell? ⟨b, 3, none⟩ = some (.int .i64 m)
def At2 (w : World) (b : Nat) (x y : Int) : Prop := w.cell? ⟨b, 0, none⟩ = some (.int .i64 x) ∧ w.cell? ⟨b, 1, none⟩ = some (.int .i64 y)
theorem lt_of_cell {w : World} {b o : Nat} {u : Value} (h : w.cell? ⟨b, o, none⟩ = some u) : b < w.heap.size := World.block_lt_of_cell? w ⟨b, o, none⟩ h
theorem keepAt {W w1 : World} (hb : Below W.heap.size W w1) {b o0 : Nat} {u : Value} (h : W.cell? ⟨b, o0, none⟩ = some u) : ∀ o, w1.cell? ⟨b, o, none⟩ = W.cell? ⟨b, o, none⟩ :=
  fun o => hb.cell (p := ⟨b, o, none⟩) (lt_of_cell h)
theorem over_alloc {w : World} {b o : Nat} {u : Value} (h : w.cell? ⟨b, o, none⟩ = some u) (ob : Obj) : (w.alloc ob).cell? ⟨b, o, none⟩ = some u :=
  (keepAt ((Below.refl _ _).alloc (Nat.le_refl _) ob) h o).trans h
theorem over_drew {w : World} {b o : Nat} {u : Value} (h : w.cell? ⟨b, o, none⟩ = some u) : w.drew.cell? ⟨b, o, none⟩ = some u := h
theorem At4.drew {w : World} {b : Nat} {x y n m : Int} (h : At4 w b x y n m) : At4 w.drew b x y n m := h
theorem At2.drew {w : World} {b : Nat} {x y : Int} (h : At2 w b x y) : At2 w.drew b x y := h
theorem At4.lt {w : World} {b : Nat} {x y n m : Int} (h : At4 w b x y n m) : b < w.heap.size := lt_of_cell h.1
theorem At2.lt {w : World} {b : Nat} {x y : Int} (h : At2 w b x y) : b < w.heap.size := lt_of_cell h.1
theorem At4.below {W w1 : World} {b : Nat} {x y n m : Int} (h : At4 W b x y n m) (hb : Below W.heap.size W w1) : At4 w1 b x y n m := by
  have k := keepAt hb h.1
  exact ⟨(k 0).trans h.1, (k 1).trans h.2.1, (k 2).trans h.2.2.1, (k 3).trans h.2.2.2⟩
theorem At2.below {W w1 : World} {b : Nat} {x y : Int} (h : At2 W b x y) (hb : Below W.heap.size W w1) : At2 w1 b x y := by
  have k := keepAt hb h.1
  exact ⟨(k 0).trans h.1, (k 1).trans h.2⟩
theorem At4.alloc {w : World} {b : Nat} {x y n m : Int} (h : At4 w b x y n m) (o : Obj) : At4 (w.alloc o) b x y n m := h.below ((Below.refl _ _).alloc (Nat.le_refl _) o)
theorem At2.alloc {w : World} {b : Nat} {x y : Int} (h : At2 w b x y) (o : Obj) : At2 (w.alloc o) b x y := h.below ((Below.refl _ _).alloc (Nat.le_refl _) o)
theorem At4.new (w : World) (x y n m : Int) (t : TypeId) : At4 (w.alloc (.cells #[.int .i64 x, .int .i64 y, .int .i64 n, .int .i64 m] t)) w.heap.size x y n m := by
  unfold At4; simp
theorem At2.new (w : World) (x y : Int) (t : TypeId) : At2 (w.alloc (.cells #[.int .i64 x, .int .i64 y] t)) w.heap.size x y := by
  unfold At2; simp
theorem At2.new' (w : World) (b : Nat) (x y : Int) (t : TypeId) (h : b = w.heap.size) : At2 (w.alloc (.cells #[.int .i64 x, .int .i64 y] t)) b x y := by
  rw [h]; exact At2.new w x y t
theorem At4.new' (w : World) (b : Nat) (x y n m : Int) (t : TypeId) (h : b = w.heap.size) : At4 (w.alloc (.cells #[.int .i64 x, .int .i64 y, .int .i64 n, .int .i64 m] t)) b x y n m := by
  rw [h]; exact At4.new w x y n m t
theorem At4.set {w : World} {b : Nat} {x y n m : Int} (h : At4 w b x y n m) {p : Addr} (v : Value) (hp : p.block ≠ b) : At4 (w.setCell p v) b x y n m := by
  have k : ∀ o, (w.setCell p v).cell? ⟨b, o, none⟩ = w.cell? ⟨b, o, none⟩ := fun o => World.cell?_setCell_other w p ⟨b, o, none⟩ v (fun e => hp (by rw [e]))
  exact ⟨(k 0).trans h.1, (k 1).trans h.2.1, (k 2).trans h.2.2.1, (k 3).trans h.2.2.2⟩
theorem At2.set {w : World} {b : Nat} {x y : Int} (h : At2 w b x y) {p : Addr} (v : Value) (hp : p.block ≠ b) : At2 (w.setCell p v) b x y := by
  have k : ∀ o, (w.setCell p v).cell? ⟨b, o, none⟩ = w.cell? ⟨b, o, none⟩ := fun o => World.cell?_setCell_other w p ⟨b, o, none⟩ v (fun e => hp (by rw [e]))
  exact ⟨(k 0).trans h.1, (k 1).trans h.2⟩

theorem At2.put {w : World} {b : Nat} {u v : Int} (h : At2 w b u v) (x y : Int) : At2 ((w.setCell ⟨b, 0, none⟩ (.int .i64 x)).setCell ⟨b, 1, none⟩ (.int .i64 y)) b x y := by
  obtain ⟨h0, h1⟩ := h
  unfold At2
  simp [go_sem, h0, h1]
theorem At4.put {w : World} {b : Nat} {u0 u1 u2 u3 : Int} (h : At4 w b u0 u1 u2 u3) (x y n m : Int) : At4 ((((w.setCell ⟨b, 0, none⟩ (.int .i64 x)).setCell ⟨b, 1, none⟩ (.int .i64 y)).setCell ⟨b, 2, none⟩ (.int .i64 n)).setCell ⟨b, 3, none⟩ (.int .i64 m)) b x y n m := by
  obtain ⟨h0, h1, h2, h3⟩ := h
  unfold At4
  simp [go_sem, h0, h1, h2, h3]

/-- A block that may be written. -/
def Fr (w : World) (b : Nat) : Prop := b < w.heap.size ∧ ∀ o, w.frozen? ⟨b, o, none⟩ = false
theorem Fr.below {W w1 : World} {b : Nat} (h : Fr W b) (hb : Below W.heap.size W w1) : Fr w1 b :=
  ⟨Nat.lt_of_lt_of_le h.1 hb.size, fun o => (hb.frozen (p := ⟨b, o, none⟩) h.1).trans (h.2 o)⟩
theorem Fr.alloc {w : World} {b : Nat} (h : Fr w b) (o : Obj) : Fr (w.alloc o) b := h.below ((Below.refl _ _).alloc (Nat.le_refl _) o)
theorem Fr.set {w : World} {b : Nat} (h : Fr w b) (p : Addr) (v : Value) : Fr (w.setCell p v) b := ⟨by simpa [World.setCell] using h.1, fun o => by rw [World.frozen?_setCell]; exact h.2 o⟩
theorem Fr.drew {w : World} {b : Nat} (h : Fr w b) : Fr w.drew b := h
theorem Fr.new (w : World) (c : Array Value) (t : TypeId) : Fr (w.alloc (.cells c t)) w.heap.size := ⟨by simp, fun o => by simp⟩
theorem fr1 (w : World) (o1 : Obj) (c : Array Value) (t : TypeId) : Fr ((w.alloc o1).alloc (.cells c t)) (w.heap.size + 1) := by
  have h := Fr.new (w.alloc o1) c t
  rwa [World.size_alloc] at h
theorem fr2 (w : World) (o1 o2 : Obj) (c : Array Value) (t : TypeId) : Fr (((w.alloc o1).alloc o2).alloc (.cells c t)) (w.heap.size + 1 + 1) := by
  have h := Fr.new ((w.alloc o1).alloc o2) c t
  rwa [World.size_alloc, World.size_alloc] at h
/-- A rectangle stored into a block of the call's own. -/
theorem set4_below {B b : Nat} {w w1 : World} (L : Below B w w1) (h : B ≤ b) (v0 v1 v2 v3 : Value) : Below B w ((((w1.setCell ⟨b, 0, none⟩ v0).setCell ⟨b, 1, none⟩ v1).setCell ⟨b, 2, none⟩ v2).setCell ⟨b, 3, none⟩ v3) :=
  (((L.setCell h v0).setCell h v1).setCell h v2).setCell h v3
theorem boxes_r (w : World) (x y n m : Int) (t : TypeId) : At4 (w.alloc (.cells #[.int .i64 x, .int .i64 y, .int .i64 n, .int .i64 m] t)) w.heap.size x y n m ∧
    Below w.heap.size w (w.alloc (.cells #[.int .i64 x, .int .i64 y, .int .i64 n, .int .i64 m] t)) :=
  ⟨At4.new w x y n m t, (Below.refl _ w).alloc (Nat.le_refl _) _⟩
theorem boxes_rp (w : World) (x y n m px py : Int) (t t' : TypeId) : At4 ((w.alloc (.cells #[.int .i64 x, .int .i64 y, .int .i64 n, .int .i64 m] t)).alloc (.cells #[.int .i64 px, .int .i64 py] t')) w.heap.size x y n m ∧
    At2 ((w.alloc (.cells #[.int .i64 x, .int .i64 y, .int .i64 n, .int .i64 m] t)).alloc (.cells #[.int .i64 px, .int .i64 py] t')) (w.heap.size + 1) px py ∧
    Below w.heap.size w ((w.alloc (.cells #[.int .i64 x, .int .i64 y, .int .i64 n, .int .i64 m] t)).alloc (.cells #[.int .i64 px, .int .i64 py] t')) := by
  have B := At2.new (w.alloc (.cells #[.int .i64 x, .int .i64 y, .int .i64 n, .int .i64 m] t)) px py t'
  simp only [World.size_alloc] at B
  exact ⟨(At4.new w x y n m t).alloc _, B, ((Below.refl _ w).alloc (Nat.le_refl _) _).alloc (by simp) _⟩
theorem boxes_rr (w : World) (ax ay aw ah bx by' bw bh : Int) (t t' : TypeId) : At4 ((w.alloc (.cells #[.int .i64 ax, .int .i64 ay, .int .i64 aw, .int .i64 ah] t)).alloc (.cells #[.int .i64 bx, .int .i64 by', .int .i64 bw, .int .i64 bh] t')) w.heap.size ax ay aw ah ∧
    At4 ((w.alloc (.cells #[.int .i64 ax, .int .i64 ay, .int .i64 aw, .int .i64 ah] t)).alloc (.cells #[.int .i64 bx, .int .i64 by', .int .i64 bw, .int .i64 bh] t')) (w.heap.size + 1) bx by' bw bh ∧
    Below w.heap.size w ((w.alloc (.cells #[.int .i64 ax, .int .i64 ay, .int .i64 aw, .int .i64 ah] t)).alloc (.cells #[.int .i64 bx, .int .i64 by', .int .i64 bw, .int .i64 bh] t')) := by
  have B := At4.new (w.alloc (.cells #[.int .i64 ax, .int .i64 ay, .int .i64 aw, .int .i64 ah] t)) bx by' bw bh t'
  simp only [World.size_alloc] at B
  exact ⟨(At4.new w ax ay aw ah t).alloc _, B, ((Below.refl _ w).alloc (Nat.le_refl _) _).alloc (by simp) _⟩

theorem boxes_ppr (w : World) (ax ay bx by' : Int) (t t' t'' : TypeId) : At2 (((w.alloc (.cells #[.int .i64 ax, .int .i64 ay] t)).alloc (.cells #[.int .i64 bx, .int .i64 by'] t')).alloc (.cells #[.int .i64 0, .int .i64 0, .int .i64 0, .int .i64 0] t'')) w.heap.size ax ay ∧
    At2 (((w.alloc (.cells #[.int .i64 ax, .int .i64 ay] t)).alloc (.cells #[.int .i64 bx, .int .i64 by'] t')).alloc (.cells #[.int .i64 0, .int .i64 0, .int .i64 0, .int .i64 0] t'')) (w.heap.size + 1) bx by' ∧
    At4 (((w.alloc (.cells #[.int .i64 ax, .int .i64 ay] t)).alloc (.cells #[.int .i64 bx, .int .i64 by'] t')).alloc (.cells #[.int .i64 0, .int .i64 0, .int .i64 0, .int .i64 0] t'')) (w.heap.size + 1 + 1) 0 0 0 0 ∧
    Below w.heap.size w (((w.alloc (.cells #[.int .i64 ax, .int .i64 ay] t)).alloc (.cells #[.int .i64 bx, .int .i64 by'] t')).alloc (.cells #[.int .i64 0, .int .i64 0, .int .i64 0, .int .i64 0] t'')) := by
  have B := (At2.new (w.alloc (.cells #[.int .i64 ax, .int .i64 ay] t)) bx by' t').alloc (.cells #[.int .i64 0, .int .i64 0, .int .i64 0, .int .i64 0] t'')
  have C := At4.new ((w.alloc (.cells #[.int .i64 ax, .int .i64 ay] t)).alloc (.cells #[.int .i64 bx, .int .i64 by'] t')) 0 0 0 0 t''
  simp only [World.size_alloc] at B C
  exact ⟨((At2.new w ax ay t).alloc _).alloc _, B, C, (((Below.refl _ w).alloc (Nat.le_refl _) _).alloc (by simp) _).alloc (by simp; omega) _⟩

/-- What a call that takes two rectangles and answers one has laid when it begins. -/
theorem boxes_rrr (w : World) (ax ay aw ah bx by' bw bh : Int) (t t' t'' : TypeId) : At4 (((w.alloc (.cells #[.int .i64 ax, .int .i64 ay, .int .i64 aw, .int .i64 ah] t)).alloc (.cells #[.int .i64 bx, .int .i64 by', .int .i64 bw, .int .i64 bh] t')).alloc (.cells #[.int .i64 0, .int .i64 0, .int .i64 0, .int .i64 0] t'')) w.heap.size ax ay aw ah ∧
    At4 (((w.alloc (.cells #[.int .i64 ax, .int .i64 ay, .int .i64 aw, .int .i64 ah] t)).alloc (.cells #[.int .i64 bx, .int .i64 by', .int .i64 bw, .int .i64 bh] t')).alloc (.cells #[.int .i64 0, .int .i64 0, .int .i64 0, .int .i64 0] t'')) (w.heap.size + 1) bx by' bw bh ∧
    At4 (((w.alloc (.cells #[.int .i64 ax, .int .i64 ay, .int .i64 aw, .int .i64 ah] t)).alloc (.cells #[.int .i64 bx, .int .i64 by', .int .i64 bw, .int .i64 bh] t')).alloc (.cells #[.int .i64 0, .int .i64 0, .int .i64 0, .int .i64 0] t'')) (w.heap.size + 1 + 1) 0 0 0 0 ∧
    Below w.heap.size w (((w.alloc (.cells #[.int .i64 ax, .int .i64 ay, .int .i64 aw, .int .i64 ah] t)).alloc (.cells #[.int .i64 bx, .int .i64 by', .int .i64 bw, .int .i64 bh] t')).alloc (.cells #[.int .i64 0, .int .i64 0, .int .i64 0, .int .i64 0] t'')) := by
  have B := (At4.new (w.alloc (.cells #[.int .i64 ax, .int .i64 ay, .int .i64 aw, .int .i64 ah] t)) bx by' bw bh t').alloc (.cells #[.int .i64 0, .int .i64 0, .int .i64 0, .int .i64 0] t'')
  have C := At4.new ((w.alloc (.cells #[.int .i64 ax, .int .i64 ay, .int .i64 aw, .int .i64 ah] t)).alloc (.cells #[.int .i64 bx, .int .i64 by', .int .i64 bw, .int .i64 bh] t')) 0 0 0 0 t''
  simp only [World.size_alloc] at B C
  exact ⟨((At4.new w ax ay aw ah t).alloc _).alloc _, B, C, (((Below.refl _ w).alloc (Nat.le_refl _) _).alloc (by simp) _).alloc (by simp; omega) _⟩

set_option maxHeartbeats 400000 in
theorem span_any (p n : Int) (w : World) (hp : I64 p) :
    Calls Try.prog 75 #[.int .i64 p, .int .i64 n] w fun e w' => e = .returned (.bool (spanB p n)) ∧ w' = w := by
  obtain ⟨h1, h2⟩ := hp
  by_cases c1 : 0 ≤ n
  · by_cases c2 : -16384 ≤ p
    · go_enter Try.func75, Try.ntmps75
      go_wp2
      go_ret
      exact ⟨by simp [spanB, c1, c2], rfl⟩
    · go_enter Try.func75, Try.ntmps75
      go_wp2
      go_ret
      exact ⟨by simp [spanB]; omega, rfl⟩
  · go_enter Try.func75, Try.ntmps75
    go_wp2
    go_ret
    exact ⟨by simp [spanB]; omega, rfl⟩

set_option maxHeartbeats 400000 in
theorem check_any (x y n m : Int) (w : World) (hx : I64 x) (hy : I64 y) :
    Calls Try.prog 49 #[.agg #[.int .i64 x, .int .i64 y, .int .i64 n, .int .i64 m]] w fun e w' => e = .returned (.int .i64 (chk x y n m)) ∧ Below w.heap.size w w' := by
  cases h1 : spanB x n
  · go_enter Try.func49, Try.ntmps49
    go_wp2_with (go_at_call 75; refine (span_any _ _ _ (by assumption)).mono ?_; rintro e w' ⟨rfl, rfl⟩)
    go_ret
    exact ⟨by simp [chk, mayB, h1], (Below.refl _ _).alloc (Nat.le_refl _) _⟩
  · cases h2 : spanB y m
    · go_enter Try.func49, Try.ntmps49
      go_wp2_with (go_at_call 75; refine (span_any _ _ _ (by assumption)).mono ?_; rintro e w' ⟨rfl, rfl⟩)
      go_ret
      exact ⟨by simp [chk, mayB, h2], (Below.refl _ _).alloc (Nat.le_refl _) _⟩
    · go_enter Try.func49, Try.ntmps49
      go_wp2_with (go_at_call 75; refine (span_any _ _ _ (by assumption)).mono ?_; rintro e w' ⟨rfl, rfl⟩)
      go_ret
      exact ⟨by simp [chk, mayB, h1, h2], (Below.refl _ _).alloc (Nat.le_refl _) _⟩

set_option maxHeartbeats 400000 in
theorem empty_any (x y n m : Int) (w : World) (hx : I64 x) (hy : I64 y) :
    Calls Try.prog 50 #[.agg #[.int .i64 x, .int .i64 y, .int .i64 n, .int .i64 m]] w fun e w' => e = .returned (.bool (emptyB x y n m)) ∧ Below w.heap.size w w' := by
  have hk := chk_ne x y n m
  cases h1 : mayB x y n m
  · go_enter Try.func50, Try.ntmps50
    go_wp2_with fail
    refine (check_any _ _ _ _ _ (by assumption) (by assumption)).mono ?_
    rintro e w1 ⟨rfl, hb⟩
    obtain ⟨hc, hf⟩ := bcell hb
    go_wp2
    go_ret
    exact ⟨by simp [emptyB, h1], ((Below.refl _ _).alloc (Nat.le_refl _) _).trans (hb.mono (by simp))⟩
  · by_cases c1 : (n == 0) = true
    · go_enter Try.func50, Try.ntmps50
      go_wp2_with fail
      refine (check_any _ _ _ _ _ (by assumption) (by assumption)).mono ?_
      rintro e w1 ⟨rfl, hb⟩
      obtain ⟨hc, hf⟩ := bcell hb
      go_wp2
      go_ret
      exact ⟨by simp [emptyB, c1], ((Below.refl _ _).alloc (Nat.le_refl _) _).trans (hb.mono (by simp))⟩
    · have c1 : (n == 0) = false := by simpa using c1
      go_enter Try.func50, Try.ntmps50
      go_wp2_with fail
      refine (check_any _ _ _ _ _ (by assumption) (by assumption)).mono ?_
      rintro e w1 ⟨rfl, hb⟩
      obtain ⟨hc, hf⟩ := bcell hb
      go_wp2
      go_ret
      exact ⟨by simp [emptyB, h1, c1], ((Below.refl _ _).alloc (Nat.le_refl _) _).trans (hb.mono (by simp))⟩

set_option maxHeartbeats 400000 in
theorem between_any (lx ly hx hy : Int) (w : World) (b1 : -1000000 ≤ lx) (b2 : lx ≤ 1000000) (b3 : -1000000 ≤ ly) (b4 : ly ≤ 1000000) (b5 : -1000000 ≤ hx) (b6 : hx ≤ 1000000) (b7 : -1000000 ≤ hy) (b8 : hy ≤ 1000000) :
    Calls Try.prog 78 #[.agg #[.int .i64 lx, .int .i64 ly], .agg #[.int .i64 hx, .int .i64 hy]] w fun e w' => e = .returned (.agg #[.int .i64 (btw lx ly hx hy).x, .int .i64 (btw lx ly hx hy).y, .int .i64 (btw lx ly hx hy).w, .int .i64 (btw lx ly hx hy).h]) ∧ Below w.heap.size w w' := by
  by_cases c1 : hx ≤ lx
  · rw [btw_no (.inl c1)]
    go_enter Try.func78, Try.ntmps78
    go_wp2
    exact bodyPost_ret (v := .agg #[.int .i64 0, .int .i64 0, .int .i64 0, .int .i64 0]) (by simp [results, Try.results78, go_sem]) rfl ⟨rfl, (((Below.refl _ _).alloc (Nat.le_refl _) _).alloc (by simp) _).alloc (by simp; omega) _⟩
  · by_cases c2 : hy ≤ ly
    · rw [btw_no (.inr c2)]
      go_enter Try.func78, Try.ntmps78
      go_wp2
      exact bodyPost_ret (v := .agg #[.int .i64 0, .int .i64 0, .int .i64 0, .int .i64 0]) (by simp [results, Try.results78, go_sem]) rfl ⟨rfl, (((Below.refl _ _).alloc (Nat.le_refl _) _).alloc (by simp) _).alloc (by simp; omega) _⟩
    · rw [btw_yes (by omega) (by omega)]
      go_enter Try.func78, Try.ntmps78
      go_wp2
      exact bodyPost_ret (v := .agg #[.int .i64 lx, .int .i64 ly, .int .i64 (hx - lx), .int .i64 (hy - ly)]) (by simp [results, Try.results78, go_sem]) rfl ⟨rfl, (((Below.refl _ _).alloc (Nat.le_refl _) _).alloc (by simp) _).alloc (by simp; omega) _⟩

set_option maxHeartbeats 400000 in
theorem end_x (x y n m : Int) (w : World) (b1 : -1000000 ≤ x) (b2 : x ≤ 1000000) (b3 : -1000000 ≤ y) (b4 : y ≤ 1000000) (b5 : -1000000 ≤ n) (b6 : n ≤ 1000000) (b7 : -1000000 ≤ m) (b8 : m ≤ 1000000) :
    Calls Try.prog 51 #[.agg #[.int .i64 x, .int .i64 y, .int .i64 n, .int .i64 m]] w fun e w' => e = .returned (.agg #[.int .i64 (x + n), .int .i64 (y + m)]) ∧ w' = (w.alloc (.cells #[.int .i64 x, .int .i64 y, .int .i64 n, .int .i64 m] 27)).alloc (.cells #[.int .i64 (x + n), .int .i64 (y + m)] 23) := by
  go_enter Try.func51, Try.ntmps51
  go_wp2
  exact bodyPost_ret (v := .agg #[.int .i64 (x + n), .int .i64 (y + m)]) (by simp [results, Try.results51, go_sem]) rfl ⟨rfl, rfl⟩

set_option maxHeartbeats 400000 in
theorem end_any (x y n m : Int) (w : World) (b1 : -1000000 ≤ x) (b2 : x ≤ 1000000) (b3 : -1000000 ≤ y) (b4 : y ≤ 1000000) (b5 : -1000000 ≤ n) (b6 : n ≤ 1000000) (b7 : -1000000 ≤ m) (b8 : m ≤ 1000000) :
    Calls Try.prog 51 #[.agg #[.int .i64 x, .int .i64 y, .int .i64 n, .int .i64 m]] w fun e w' => e = .returned (.agg #[.int .i64 (x + n), .int .i64 (y + m)]) ∧ Below w.heap.size w w' := by
  go_enter Try.func51, Try.ntmps51
  go_wp2
  exact bodyPost_ret (v := .agg #[.int .i64 (x + n), .int .i64 (y + m)]) (by simp [results, Try.results51, go_sem]) rfl ⟨rfl, ((Below.refl _ _).alloc (Nat.le_refl _) _).alloc (by simp) _⟩

end Go.Proofs.Ytbghjmkgicdnoaa

/-
  Contracts of package geom: areas, places, what two have together.
-/
namespace Go.Proofs.Ytbghjmkgicdnoaa
open Go.RowKit

set_option maxHeartbeats 800000 in
theorem has_any (x y n m px py : Int) (w : World) (hx : I64 x) (hy : I64 y) :
    Calls Try.prog 30 #[.agg #[.int .i64 x, .int .i64 y, .int .i64 n, .int .i64 m], .agg #[.int .i64 px, .int .i64 py]] w fun e w' => e = .returned (.bool (hasB x y n m px py)) ∧ Below w.heap.size w w' := by
  cases h1 : emptyB x y n m
  · obtain ⟨b1, b2, b3, b4, b5, b6, b7, b8, b9, b10⟩ := bounds_of h1
    have cs : ¬ x ≤ px ∨ (x ≤ px ∧ ¬ px < x + n) ∨ (x ≤ px ∧ px < x + n ∧ ¬ y ≤ py) ∨ (x ≤ px ∧ px < x + n ∧ y ≤ py ∧ ¬ py < y + m) ∨ (x ≤ px ∧ px < x + n ∧ y ≤ py ∧ py < y + m) := by omega
    rcases cs with c1 | ⟨c1, c2⟩ | ⟨c1, c2, c3⟩ | ⟨c1, c2, c3, c4⟩ | ⟨c1, c2, c3, c4⟩
    all_goals
      go_enter Try.func30, Try.ntmps30
      go_wp2_with fail
      obtain ⟨A, B, L⟩ := boxes_rp w x y n m px py 27 23
      refine (empty_any _ _ _ _ _ (by assumption) (by assumption)).mono ?_
      rintro e w1 ⟨rfl, hb⟩
      replace L := L.trans (hb.mono L.size)
      replace A := A.below hb
      replace B := B.below hb
      clear hb
      obtain ⟨d0, d1, d2, d3⟩ := id A
      go_wp2_with fail
      clear d0 d1 d2 d3
      refine (end_any _ _ _ _ _ (by omega) (by omega) (by omega) (by omega) (by omega) (by omega) (by omega) (by omega)).mono ?_
      rintro e w2 ⟨rfl, hb⟩
      replace L := L.trans (hb.mono L.size)
      replace A := A.below hb
      replace B := B.below hb
      clear hb
      have la := A.lt
      have lb := B.lt
      obtain ⟨d0, d1, d2, d3⟩ := A
      obtain ⟨e0, e1⟩ := B
      go_wp2
      go_ret
      refine ⟨ret_bool ?_, L.alloc L.size _⟩
      simp [hasB, h1]
      try omega
  · go_enter Try.func30, Try.ntmps30
    go_wp2_with fail
    refine (empty_any _ _ _ _ _ (by assumption) (by assumption)).mono ?_
    rintro e w1 ⟨rfl, hb⟩
    go_wp2
    go_ret
    exact ⟨by simp [hasB, h1], (((Below.refl _ _).alloc (Nat.le_refl _) _).alloc (by simp) _).trans (hb.mono (by simp; omega))⟩

end Go.Proofs.Ytbghjmkgicdnoaa

/-
  More of the plain mathematics of rectangles: what joins two, what is left of one, lists of them.
-/
namespace Go.Proofs.Ytbghjmkgicdnoaa

def joinR (ax ay aw ah bx by' bw bh : Int) : Rc :=
  if emptyB ax ay aw ah = true then (if emptyB bx by' bw bh = true then zr else ⟨bx, by', bw, bh⟩)
  else if emptyB bx by' bw bh = true then ⟨ax, ay, aw, ah⟩
  else btw (min ax bx) (min ay by') (max (ax + aw) (bx + bw)) (max (ay + ah) (by' + bh))
def eqB (r : Rc) (x y w h : Int) : Bool := (r.x == x) && ((r.y == y) && ((r.w == w) && (r.h == h)))
def inB (ax ay aw ah bx by' bw bh : Int) : Bool := emptyB ax ay aw ah || eqB (meetR ax ay aw ah bx by' bw bh) ax ay aw ah
def overB (ax ay aw ah bx by' bw bh : Int) : Bool := !eqB (meetR ax ay aw ah bx by' bw bh) 0 0 0 0

end Go.Proofs.Ytbghjmkgicdnoaa

/-
  What is left of a rectangle, as a list; a list of rectangles as cells.
-/
namespace Go.Proofs.Ytbghjmkgicdnoaa

def keepB (r : Rc) : Bool := !eqB r 0 0 0 0
def pcs (ax ay aw ah mx my mw mh : Int) : List Rc := [btw ax ay (ax + aw) my, btw ax my mx (my + mh), btw (mx + mw) my (ax + aw) (my + mh), btw ax (my + mh) (ax + aw) (ay + ah)]
def lesL (ax ay aw ah bx by' bw bh : Int) : List Rc :=
  if (mayB ax ay aw ah && (mayB bx by' bw bh && !emptyB ax ay aw ah)) = true then
    (if eqB (meetR ax ay aw ah bx by' bw bh) 0 0 0 0 = true then [⟨ax, ay, aw, ah⟩]
     else (pcs ax ay aw ah (meetR ax ay aw ah bx by' bw bh).x (meetR ax ay aw ah bx by' bw bh).y (meetR ax ay aw ah bx by' bw bh).w (meetR ax ay aw ah bx by' bw bh).h).filter keepB)
  else []
def lesE (ax ay aw ah bx by' bw bh : Int) : Int := if (mayB ax ay aw ah && mayB bx by' bw bh) = true then 0 else 5
def cel (r : Rc) : List Value := [.int .i64 r.x, .int .i64 r.y, .int .i64 r.w, .int .i64 r.h]
def flat : List Rc → List Value
  | [] => []
  | r :: l => cel r ++ flat l
theorem flat_length (l : List Rc) : (flat l).length = l.length * 4 := by
  induction l with
  | nil => rfl
  | cons r l ih => simp [flat, cel, ih]; omega
theorem flat_append (l k : List Rc) : flat (l ++ k) = flat l ++ flat k := by
  induction l with
  | nil => rfl
  | cons r l ih => simp [flat, ih]
theorem flat_one (r : Rc) : flat [r] = cel r := by simp [flat]

theorem meet_bd {ax ay aw ah bx by' bw bh : Int} (e : emptyB ax ay aw ah = false) :
    -16384 ≤ (meetR ax ay aw ah bx by' bw bh).x ∧ (meetR ax ay aw ah bx by' bw bh).x ≤ 16384 ∧ -16384 ≤ (meetR ax ay aw ah bx by' bw bh).y ∧ (meetR ax ay aw ah bx by' bw bh).y ≤ 16384 ∧
    0 ≤ (meetR ax ay aw ah bx by' bw bh).w ∧ (meetR ax ay aw ah bx by' bw bh).w ≤ 32768 ∧ 0 ≤ (meetR ax ay aw ah bx by' bw bh).h ∧ (meetR ax ay aw ah bx by' bw bh).h ≤ 32768 := by
  obtain ⟨a1, a2, a3, a4, a5, a6, a7, a8, a9, a10⟩ := bounds_of e
  unfold meetR
  cases h2 : emptyB bx by' bw bh
  · obtain ⟨b1, b2, b3, b4, b5, b6, b7, b8, b9, b10⟩ := bounds_of h2
    simp only [e, Bool.or_self, Bool.false_eq_true, if_false]
    unfold btw
    split
    · simp [zr]
    · simp only; omega
  · simp [zr]

end Go.Proofs.Ytbghjmkgicdnoaa
