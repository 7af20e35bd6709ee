/-
  Place by place: the plain mathematics of GeomPlaces: what is at one place, what was gone over so far, what it comes to.
-/
import Derived.Test.YtpeppbfkbijdiaaPlain6
namespace Go.Proofs.Ytpeppbfkbijdiaa

/-- A place by a rectangle's numbers. -/
def plB (x y w h px py : Int) : Bool := decide (x ≤ px) && (decide (px < x + w) && (decide (y ≤ py) && decide (py < y + h)))
theorem pl_iff {x y w h px py : Int} : plB x y w h px py = true ↔ x ≤ px ∧ px < x + w ∧ y ≤ py ∧ py < y + h := by
  unfold plB; simp
theorem pl_no {x y w h px py : Int} : plB x y w h px py = false ↔ ¬ (x ≤ px ∧ px < x + w ∧ y ≤ py ∧ py < y + h) := by
  rw [← pl_iff]; simp
theorem empty_iff {x y w h : Int} (hm : mayB x y w h = true) : emptyB x y w h = true ↔ (w = 0 ∨ h = 0) := by
  unfold emptyB; rw [hm]; simp
theorem empty_no {x y w h : Int} (hm : mayB x y w h = true) : emptyB x y w h = false ↔ (w ≠ 0 ∧ h ≠ 0) := by
  unfold emptyB; rw [hm]; simp
theorem pl_empty {x y w h px py : Int} (hm : mayB x y w h = true) (he : emptyB x y w h = true) : plB x y w h px py = false := by
  rw [pl_no]
  have := (empty_iff hm).1 he
  have := may_iff.1 hm
  omega
theorem has_pl {x y w h : Int} (px py : Int) (hm : mayB x y w h = true) : hasB x y w h px py = plB x y w h px py := by
  cases he : emptyB x y w h
  · simp [hasB, he, plB]
  · rw [pl_empty hm he]; simp [hasB, he]
theorem pl_btw (lx ly hx hy px py : Int) : plB (btw lx ly hx hy).x (btw lx ly hx hy).y (btw lx ly hx hy).w (btw lx ly hx hy).h px py = true ↔ (lx ≤ px ∧ px < hx ∧ ly ≤ py ∧ py < hy) := by
  by_cases c : hx ≤ lx ∨ hy ≤ ly
  · rw [btw_no c, pl_iff]; simp only [zr]; omega
  · rw [btw_yes (by omega) (by omega), pl_iff]; simp only; omega
theorem pl_zr (px py : Int) : plB zr.x zr.y zr.w zr.h px py = false := by
  rw [pl_no]; simp only [zr]; omega
theorem pl_meet {ax ay aw ah bx by' bw bh : Int} (px py : Int) (ha : mayB ax ay aw ah = true) (hb : mayB bx by' bw bh = true) :
    plB (meetR ax ay aw ah bx by' bw bh).x (meetR ax ay aw ah bx by' bw bh).y (meetR ax ay aw ah bx by' bw bh).w (meetR ax ay aw ah bx by' bw bh).h px py = (plB ax ay aw ah px py && plB bx by' bw bh px py) := by
  cases h1 : emptyB ax ay aw ah
  · cases h2 : emptyB bx by' bw bh
    · have hm : meetR ax ay aw ah bx by' bw bh = btw (max ax bx) (max ay by') (min (ax + aw) (bx + bw)) (min (ay + ah) (by' + bh)) := by simp [meetR, h1, h2]
      rw [hm, Bool.eq_iff_iff, pl_btw, Bool.and_eq_true, pl_iff, pl_iff]
      omega
    · have hm : meetR ax ay aw ah bx by' bw bh = zr := by simp [meetR, h2]
      rw [hm, pl_zr, pl_empty hb h2, Bool.and_false]
  · have hm : meetR ax ay aw ah bx by' bw bh = zr := by simp [meetR, h1]
    rw [hm, pl_zr, pl_empty ha h1, Bool.false_and]
theorem pl_join {ax ay aw ah bx by' bw bh : Int} (px py : Int) (ha : mayB ax ay aw ah = true) (hb : mayB bx by' bw bh = true) (h : (plB ax ay aw ah px py || plB bx by' bw bh px py) = true) :
    plB (joinR ax ay aw ah bx by' bw bh).x (joinR ax ay aw ah bx by' bw bh).y (joinR ax ay aw ah bx by' bw bh).w (joinR ax ay aw ah bx by' bw bh).h px py = true := by
  cases h1 : emptyB ax ay aw ah
  · cases h2 : emptyB bx by' bw bh
    · have hm : joinR ax ay aw ah bx by' bw bh = btw (min ax bx) (min ay by') (max (ax + aw) (bx + bw)) (max (ay + ah) (by' + bh)) := by simp [joinR, h1, h2]
      rw [Bool.or_eq_true, pl_iff, pl_iff] at h
      rw [hm, pl_btw]
      omega
    · rw [pl_empty hb h2, Bool.or_false] at h
      have hm : joinR ax ay aw ah bx by' bw bh = ⟨ax, ay, aw, ah⟩ := by simp [joinR, h1, h2]
      rw [hm]; exact h
  · rw [pl_empty ha h1, Bool.false_or] at h
    cases h2 : emptyB bx by' bw bh
    · have hm : joinR ax ay aw ah bx by' bw bh = ⟨bx, by', bw, bh⟩ := by simp [joinR, h1, h2]
      rw [hm]; exact h
    · rw [pl_empty hb h2] at h; simp at h

/-- How many of some rectangles have a place. -/
def cnt (px py : Int) : List Rc → Int
  | [] => 0
  | r :: l => (if plB r.x r.y r.w r.h px py = true then 1 else 0) + cnt px py l
theorem cnt_append (px py : Int) (l k : List Rc) : cnt px py (l ++ k) = cnt px py l + cnt px py k := by
  induction l with
  | nil => show _ = 0 + _; rw [Int.zero_add]; rfl
  | cons r l ih =>
    show _ + cnt px py (l ++ k) = _ + cnt px py l + cnt px py k
    rw [ih]; omega
theorem cnt_bd (px py : Int) (l : List Rc) : 0 ≤ cnt px py l ∧ cnt px py l ≤ l.length := by
  induction l with
  | nil => exact ⟨Int.le_refl _, Int.le_refl _⟩
  | cons r l ih =>
    rw [List.length_cons]
    unfold cnt
    split <;> omega
theorem cnt_keep (px py : Int) (l : List Rc) (h : ∀ r ∈ l, keepB r = false → plB r.x r.y r.w r.h px py = false) : cnt px py (l.filter keepB) = cnt px py l := by
  induction l with
  | nil => rfl
  | cons r l ih =>
    have ih := ih fun s hs => h s (List.mem_cons_of_mem _ hs)
    rw [List.filter_cons]
    cases hk : keepB r
    · rw [if_neg (by simp)]
      show _ = _ + cnt px py l
      rw [ih, h r (List.mem_cons_self ..) hk]; simp
    · rw [if_pos rfl]
      show _ + cnt px py (l.filter keepB) = _ + cnt px py l
      rw [ih]
theorem cnt_btw (px py lx ly hx hy : Int) : (if plB (btw lx ly hx hy).x (btw lx ly hx hy).y (btw lx ly hx hy).w (btw lx ly hx hy).h px py = true then (1 : Int) else 0) = if lx ≤ px ∧ px < hx ∧ ly ≤ py ∧ py < hy then 1 else 0 := by
  have := pl_btw lx ly hx hy px py
  split <;> split <;> first | rfl | (exfalso; omega) | (exfalso; simp_all)
theorem cnt_take (px py : Int) (l : List Rc) (k : Nat) (h : k < l.length) : cnt px py (l.take (k + 1)) = cnt px py (l.take k) + (if plB l[k].x l[k].y l[k].w l[k].h px py = true then 1 else 0) := by
  rw [List.take_succ_eq_append_getElem h, cnt_append]
  show _ + (_ + 0) = _
  omega
/-- Each place of a that is none of b lies in just one piece; no other place does. -/
theorem cnt_less {ax ay aw ah bx by' bw bh : Int} (px py : Int) (ha : mayB ax ay aw ah = true) (hb : mayB bx by' bw bh = true) :
    cnt px py (lesL ax ay aw ah bx by' bw bh) = if (plB ax ay aw ah px py && !plB bx by' bw bh px py) = true then 1 else 0 := by
  cases h1 : emptyB ax ay aw ah
  case true =>
    have hl : lesL ax ay aw ah bx by' bw bh = [] := by simp [lesL, h1]
    rw [hl, pl_empty ha h1]; rfl
  case false =>
  have apart : (emptyB bx by' bw bh = true ∨ ax + aw ≤ bx ∨ bx + bw ≤ ax ∨ ay + ah ≤ by' ∨ by' + bh ≤ ay) → meetR ax ay aw ah bx by' bw bh = zr → cnt px py (lesL ax ay aw ah bx by' bw bh) = if (plB ax ay aw ah px py && !plB bx by' bw bh px py) = true then 1 else 0 := by
    intro hd hm
    have hl : lesL ax ay aw ah bx by' bw bh = [⟨ax, ay, aw, ah⟩] := by
      have : eqB zr 0 0 0 0 = true := rfl
      simp [lesL, h1, ha, hb, hm, this]
    rw [hl]
    show _ + 0 = _
    rw [Int.add_zero]
    have hno : plB ax ay aw ah px py = true → plB bx by' bw bh px py = false := by
      intro hp
      rcases hd with hd | hd
      · exact pl_empty hb hd
      · rw [pl_no]; rw [pl_iff] at hp; omega
    cases hp : plB ax ay aw ah px py
    · simp
    · rw [hno hp]; simp
  cases h2 : emptyB bx by' bw bh
  case true => exact apart (.inl h2) (by simp [meetR, h2])
  case false =>
  obtain ⟨a1, a2, a3, a4, a5, a6, a7, a8, a9, a10⟩ := bounds_of h1
  obtain ⟨b1, b2, b3, b4, b5, b6, b7, b8, b9, b10⟩ := bounds_of h2
  have hm0 : meetR ax ay aw ah bx by' bw bh = btw (max ax bx) (max ay by') (min (ax + aw) (bx + bw)) (min (ay + ah) (by' + bh)) := by simp [meetR, h1, h2]
  by_cases hc : min (ax + aw) (bx + bw) ≤ max ax bx ∨ min (ay + ah) (by' + bh) ≤ max ay by'
  · exact apart (.inr (by omega)) (by rw [hm0]; exact btw_no hc)
  · rw [btw_yes (by omega) (by omega)] at hm0
    obtain ⟨mx, hmx⟩ : ∃ v, v = max ax bx := ⟨_, rfl⟩
    obtain ⟨my, hmy⟩ : ∃ v, v = max ay by' := ⟨_, rfl⟩
    obtain ⟨ex, hex⟩ : ∃ v, v = min (ax + aw) (bx + bw) := ⟨_, rfl⟩
    obtain ⟨ey, hey⟩ : ∃ v, v = min (ay + ah) (by' + bh) := ⟨_, rfl⟩
    rw [← hmx, ← hmy, ← hex, ← hey] at hm0
    have hl : lesL ax ay aw ah bx by' bw bh = (pcs ax ay aw ah mx my (ex - mx) (ey - my)).filter keepB := by
      have : eqB ⟨mx, my, ex - mx, ey - my⟩ 0 0 0 0 = false := by
        have : ((ex - mx) == (0 : Int)) = false := beq_eq_false_iff_ne.2 (by omega)
        simp only [eqB, this]; simp
      simp only [lesL, h1, ha, hb, hm0, this]; simp
    have e1 : mx + (ex - mx) = ex := by omega
    have e2 : my + (ey - my) = ey := by omega
    have hp : pcs ax ay aw ah mx my (ex - mx) (ey - my) = [btw ax ay (ax + aw) my, btw ax my mx ey, btw ex my (ax + aw) ey, btw ax ey (ax + aw) (ay + ah)] := by
      unfold pcs; rw [e1, e2]
    have gone : ∀ lx ly hx hy : Int, keepB (btw lx ly hx hy) = false → plB (btw lx ly hx hy).x (btw lx ly hx hy).y (btw lx ly hx hy).w (btw lx ly hx hy).h px py = false := by
      intro lx ly hx hy hk
      have hk' : ¬ (lx < hx ∧ ly < hy) := by rw [← keep_btw lx ly hx hy, hk]; simp
      rw [btw_no (by omega)]; exact pl_zr _ _
    rw [hl, hp, cnt_keep _ _ _ (fun r hr hk => by
        simp only [List.mem_cons, List.not_mem_nil, or_false] at hr
        rcases hr with rfl | rfl | rfl | rfl <;> exact gone _ _ _ _ hk)]
    show _ + (_ + (_ + (_ + 0))) = _
    rw [cnt_btw, cnt_btw, cnt_btw, cnt_btw]
    have hb' : (plB ax ay aw ah px py && !plB bx by' bw bh px py) = true ↔ ((ax ≤ px ∧ px < ax + aw ∧ ay ≤ py ∧ py < ay + ah) ∧ ¬ (bx ≤ px ∧ px < bx + bw ∧ by' ≤ py ∧ py < by' + bh)) := by
      rw [Bool.and_eq_true, Bool.not_eq_true', pl_iff, pl_no]
    rw [show (if (plB ax ay aw ah px py && !plB bx by' bw bh px py) = true then (1 : Int) else 0) = if ((ax ≤ px ∧ px < ax + aw ∧ ay ≤ py ∧ py < ay + ah) ∧ ¬ (bx ≤ px ∧ px < bx + bw ∧ by' ≤ py ∧ py < by' + bh)) then 1 else 0 from by
      split <;> split <;> first | rfl | (exfalso; simp_all)]
    clear hb' gone hp hl e1 e2 hm0 apart
    split <;> split <;> split <;> split <;> split <;> omega

/-- What was gone over, row by row. -/
def Sc (y x px py : Int) : Prop := -18 ≤ py ∧ -18 ≤ px ∧ px < 34 ∧ (py < y ∨ (py = y ∧ px < x))
/-- What the walk knows of two sets of places A and B when it has gone over so far. -/
structure Seen (A B : Int → Int → Bool) (y x : Int) (any all over : Bool) (l r u d : Int) : Prop where
  ov : over = true ↔ ∃ p q, Sc y x p q ∧ (A p q && B p q) = true
  al : all = true ↔ ∀ p q, Sc y x p q → A p q = true → B p q = true
  an : any = true ↔ ∃ p q, Sc y x p q ∧ (A p q || B p q) = true
  bd : ∀ p q, Sc y x p q → (A p q || B p q) = true → l ≤ p ∧ p ≤ r ∧ u ≤ q ∧ q ≤ d
  el : any = true → ∃ q, Sc y x l q ∧ (A l q || B l q) = true
  er : any = true → ∃ q, Sc y x r q ∧ (A r q || B r q) = true
  eu : any = true → ∃ p, Sc y x p u ∧ (A p u || B p u) = true
  ed : any = true → ∃ p, Sc y x p d ∧ (A p d || B p d) = true
  no : any = false → l = 99 ∧ r = -99 ∧ u = 99 ∧ d = -99
theorem sc_succ {y x p q : Int} (h1 : -18 ≤ x) (h2 : x < 34) (h3 : -18 ≤ y) : Sc y (x + 1) p q ↔ (Sc y x p q ∨ (p = x ∧ q = y)) := by
  unfold Sc; omega
theorem sc_row {y p q : Int} : Sc y 34 p q ↔ Sc (y + 1) (-18) p q := by
  unfold Sc; omega
theorem seen_start (A B : Int → Int → Bool) : Seen A B (-18) (-18) false true false 99 (-99) 99 (-99) := by
  have n : ∀ p q, ¬ Sc (-18) (-18) p q := fun p q h => by unfold Sc at h; omega
  refine ⟨⟨fun h => by simp at h, fun ⟨p, q, h, _⟩ => absurd h (n p q)⟩, ⟨fun _ p q h => absurd h (n p q), fun _ => rfl⟩, ⟨fun h => by simp at h, fun ⟨p, q, h, _⟩ => absurd h (n p q)⟩, fun p q h => absurd h (n p q), fun h => by simp at h, fun h => by simp at h, fun h => by simp at h, fun h => by simp at h, fun _ => ⟨rfl, rfl, rfl, rfl⟩⟩
theorem seen_row {A B : Int → Int → Bool} {y : Int} {any all over : Bool} {l r u d : Int} (h : Seen A B y 34 any all over l r u d) : Seen A B (y + 1) (-18) any all over l r u d := by
  obtain ⟨h1, h2, h3, h4, h5, h6, h7, h8, h9⟩ := h
  constructor
  · simpa only [sc_row] using h1
  · simpa only [sc_row] using h2
  · simpa only [sc_row] using h3
  · simpa only [sc_row] using h4
  · simpa only [sc_row] using h5
  · simpa only [sc_row] using h6
  · simpa only [sc_row] using h7
  · simpa only [sc_row] using h8
  · exact h9
theorem seen_step {A B : Int → Int → Bool} {y x : Int} {any all over : Bool} {l r u d : Int} (h1 : -18 ≤ x) (h2 : x < 34) (h3 : -18 ≤ y) (h4 : y < 34) (h : Seen A B y x any all over l r u d) :
    Seen A B y (x + 1) (any || (A x y || B x y)) (all && (!A x y || B x y)) (over || (A x y && B x y))
      (if (A x y || B x y) = true then min l x else l) (if (A x y || B x y) = true then max r x else r) (if (A x y || B x y) = true then min u y else u) (if (A x y || B x y) = true then max d y else d) := by
  obtain ⟨g1, g2, g3, g4, g5, g6, g7, g8, g9⟩ := h
  have sc := fun p q => @sc_succ y x p q h1 h2 h3
  have me : Sc y (x + 1) x y := (sc x y).2 (.inr ⟨rfl, rfl⟩)
  have up : ∀ {p q}, Sc y x p q → Sc y (x + 1) p q := fun h => (sc _ _).2 (.inl h)
  constructor
  · rw [Bool.or_eq_true, g1]
    constructor
    · rintro (⟨p, q, hs, hc⟩ | hc)
      · exact ⟨p, q, up hs, hc⟩
      · exact ⟨x, y, me, hc⟩
    · rintro ⟨p, q, hs, hc⟩
      rcases (sc p q).1 hs with hs | ⟨rfl, rfl⟩
      · exact .inl ⟨p, q, hs, hc⟩
      · exact .inr hc
  · rw [Bool.and_eq_true, g2]
    constructor
    · rintro ⟨ha, hn⟩ p q hs hA
      rcases (sc p q).1 hs with hs | ⟨rfl, rfl⟩
      · exact ha p q hs hA
      · rw [hA] at hn; simpa using hn
    · intro ha
      refine ⟨fun p q hs => ha p q (up hs), ?_⟩
      cases hA : A x y
      · simp
      · rw [ha x y me hA]; rfl
  · rw [Bool.or_eq_true, g3]
    constructor
    · rintro (⟨p, q, hs, hc⟩ | hc)
      · exact ⟨p, q, up hs, hc⟩
      · exact ⟨x, y, me, hc⟩
    · rintro ⟨p, q, hs, hc⟩
      rcases (sc p q).1 hs with hs | ⟨rfl, rfl⟩
      · exact .inl ⟨p, q, hs, hc⟩
      · exact .inr hc
  · intro p q hs hc
    rcases (sc p q).1 hs with hs | ⟨rfl, rfl⟩
    · have := g4 p q hs hc
      split <;> omega
    · rw [if_pos hc, if_pos hc, if_pos hc, if_pos hc]; omega
  all_goals
    cases hc : (A x y || B x y)
    · rw [if_neg (by simp), Bool.or_false]
      intro ha
      first
        | (obtain ⟨q, hs, hc⟩ := g5 ha; exact ⟨q, up hs, hc⟩)
        | (obtain ⟨q, hs, hc⟩ := g6 ha; exact ⟨q, up hs, hc⟩)
        | (obtain ⟨q, hs, hc⟩ := g7 ha; exact ⟨q, up hs, hc⟩)
        | (obtain ⟨q, hs, hc⟩ := g8 ha; exact ⟨q, up hs, hc⟩)
        | (rw [if_neg (by simp), if_neg (by simp), if_neg (by simp)]; exact g9 ha)
  · rw [if_pos rfl]; intro _
    by_cases hl : l ≤ x
    · rw [Int.min_eq_left hl]
      cases hy : any
      · exact absurd (g9 hy).1 (by omega)
      · obtain ⟨q, hs, hc⟩ := g5 hy; exact ⟨q, up hs, hc⟩
    · rw [Int.min_eq_right (by omega)]; exact ⟨y, me, hc⟩
  · rw [if_pos rfl]; intro _
    by_cases hl : x ≤ r
    · rw [Int.max_eq_left hl]
      cases hy : any
      · exact absurd (g9 hy).2.1 (by omega)
      · obtain ⟨q, hs, hc⟩ := g6 hy; exact ⟨q, up hs, hc⟩
    · rw [Int.max_eq_right (by omega)]; exact ⟨y, me, hc⟩
  · rw [if_pos rfl]; intro _
    by_cases hl : u ≤ y
    · rw [Int.min_eq_left hl]
      cases hy : any
      · exact absurd (g9 hy).2.2.1 (by omega)
      · obtain ⟨q, hs, hc⟩ := g7 hy; exact ⟨q, up hs, hc⟩
    · rw [Int.min_eq_right (by omega)]; exact ⟨x, me, hc⟩
  · rw [if_pos rfl]; intro _
    by_cases hl : y ≤ d
    · rw [Int.max_eq_left hl]
      cases hy : any
      · exact absurd (g9 hy).2.2.2 (by omega)
      · obtain ⟨q, hs, hc⟩ := g8 hy; exact ⟨q, up hs, hc⟩
    · rw [Int.max_eq_right (by omega)]; exact ⟨x, me, hc⟩
  · rw [Bool.or_true]; intro h; simp at h

/-- A small rectangle: the numbers that the law draws. -/
def small (x y w h : Int) : Prop := -16 ≤ x ∧ x ≤ 15 ∧ -16 ≤ y ∧ y ≤ 15 ∧ 0 ≤ w ∧ w ≤ 15 ∧ 0 ≤ h ∧ h ≤ 15
theorem small_may {x y w h : Int} (s : small x y w h) : mayB x y w h = true := by unfold small at s; exact may_mk (by omega) (by omega)
theorem small_sc {x y w h p q : Int} (s : small x y w h) (hp : plB x y w h p q = true) : Sc 34 (-18) p q := by
  unfold small at s; rw [pl_iff] at hp; unfold Sc; omega
theorem meet_turn {ax ay aw ah bx by' bw bh : Int} : meetR bx by' bw bh ax ay aw ah = meetR ax ay aw ah bx by' bw bh := by
  unfold meetR
  rw [Bool.or_comm, Int.max_comm bx ax, Int.max_comm by' ay, Int.min_comm (bx + bw) (ax + aw), Int.min_comm (by' + bh) (ay + ah)]
theorem meet_lim {ax ay aw ah bx by' bw bh : Int} (ha : mayB ax ay aw ah = true) (hb : mayB bx by' bw bh = true) : -100000 ≤ (meetR ax ay aw ah bx by' bw bh).x ∧ (meetR ax ay aw ah bx by' bw bh).x ≤ 100000 ∧ -100000 ≤ (meetR ax ay aw ah bx by' bw bh).y ∧ (meetR ax ay aw ah bx by' bw bh).y ≤ 100000 ∧
    -100000 ≤ (meetR ax ay aw ah bx by' bw bh).w ∧ (meetR ax ay aw ah bx by' bw bh).w ≤ 100000 ∧ -100000 ≤ (meetR ax ay aw ah bx by' bw bh).h ∧ (meetR ax ay aw ah bx by' bw bh).h ≤ 100000 := by
  have a1 := may_bd ha
  have b1 := may_bd hb
  unfold meetR
  split
  · simp [zr]
  · unfold btw
    split
    · simp [zr]
    · simp only; omega
theorem seen_end {ax ay aw ah bx by' bw bh : Int} {any all over : Bool} {l r u d : Int} (sa : small ax ay aw ah) (sb : small bx by' bw bh)
    (h : Seen (plB ax ay aw ah) (plB bx by' bw bh) 34 (-18) any all over l r u d) :
    overB ax ay aw ah bx by' bw bh = over ∧ overB bx by' bw bh ax ay aw ah = over ∧ inB ax ay aw ah bx by' bw bh = all ∧
    (any = true → joinR ax ay aw ah bx by' bw bh = ⟨l, u, r - l + 1, d - u + 1⟩ ∧ -18 ≤ l ∧ l ≤ 34 ∧ -18 ≤ r ∧ r ≤ 34 ∧ -18 ≤ u ∧ u ≤ 34 ∧ -18 ≤ d ∧ d ≤ 34) ∧ (any = false → joinR ax ay aw ah bx by' bw bh = zr) := by
  obtain ⟨g1, g2, g3, g4, g5, g6, g7, g8, g9⟩ := h
  have ma := small_may sa
  have mb := small_may sb
  have o1 : overB ax ay aw ah bx by' bw bh = over := by
    rw [Bool.eq_iff_iff, g1]
    constructor
    · intro ho
      cases e1 : emptyB ax ay aw ah
      · cases e2 : emptyB bx by' bw bh
        · have n := mt (@over_no ax ay aw ah bx by' bw bh) (by rw [ho]; simp)
          rw [e1, e2] at n
          simp at n
          obtain ⟨a1, a2, a3, a4, a5, a6, a7, a8, a9, a10⟩ := bounds_of e1
          obtain ⟨b1, b2, b3, b4, b5, b6, b7, b8, b9, b10⟩ := bounds_of e2
          have hp : plB ax ay aw ah (max ax bx) (max ay by') = true := pl_iff.2 (by omega)
          refine ⟨max ax bx, max ay by', small_sc sa hp, ?_⟩
          rw [Bool.and_eq_true]
          exact ⟨hp, pl_iff.2 (by omega)⟩
        · rw [over_no (.inr (.inl e2))] at ho; simp at ho
      · rw [over_no (.inl e1)] at ho; simp at ho
    · rintro ⟨p, q, _, hc⟩
      rw [← pl_meet p q ma mb] at hc
      cases ho : overB ax ay aw ah bx by' bw bh
      · exfalso
        unfold overB at ho
        rw [Bool.not_eq_false'] at ho
        unfold eqB at ho
        simp at ho
        obtain ⟨e1, e2, e3, e4⟩ := ho
        rw [pl_iff, e1, e2, e3, e4] at hc
        omega
      · rfl
  refine ⟨o1, ?_, ?_, ?_, ?_⟩
  · have : overB bx by' bw bh ax ay aw ah = overB ax ay aw ah bx by' bw bh := by unfold overB; rw [meet_turn]
    rw [this, o1]
  · rw [Bool.eq_iff_iff, g2]
    cases e1 : emptyB ax ay aw ah
    · obtain ⟨a1, a2, a3, a4, a5, a6, a7, a8, a9, a10⟩ := bounds_of e1
      have c1 : plB ax ay aw ah ax ay = true := pl_iff.2 (by omega)
      have c2 : plB ax ay aw ah (ax + aw - 1) (ay + ah - 1) = true := pl_iff.2 (by omega)
      cases e2 : emptyB bx by' bw bh
      · rw [in_iff e2 e1]
        constructor
        · rintro ⟨q1, q2, q3, q4⟩ p q _ hp
          rw [pl_iff] at hp ⊢
          omega
        · intro ha
          have d1 := pl_iff.1 (ha _ _ (small_sc sa c1) c1)
          have d2 := pl_iff.1 (ha _ _ (small_sc sa c2) c2)
          omega
      · constructor
        · intro hi
          exfalso
          have hm : meetR ax ay aw ah bx by' bw bh = zr := by simp [meetR, e2]
          unfold inB at hi
          rw [e1, hm] at hi
          simp [eqB, zr] at hi
          omega
        · intro ha
          have := ha _ _ (small_sc sa c1) c1
          rw [pl_empty mb e2] at this; simp at this
    · rw [in_empty e1]
      refine ⟨fun _ p q _ hp => ?_, fun _ => rfl⟩
      rw [pl_empty ma e1] at hp; simp at hp
  · intro ha
    obtain ⟨q1, s1, c1⟩ := g5 ha
    obtain ⟨q2, s2, c2⟩ := g6 ha
    obtain ⟨q3, s3, c3⟩ := g7 ha
    obtain ⟨q4, s4, c4⟩ := g8 ha
    have rg : -18 ≤ l ∧ l ≤ 34 ∧ -18 ≤ r ∧ r ≤ 34 ∧ -18 ≤ u ∧ u ≤ 34 ∧ -18 ≤ d ∧ d ≤ 34 := by unfold Sc at s1 s2 s3 s4; omega
    refine ⟨?_, rg⟩
    clear rg
    have cA : emptyB ax ay aw ah = false → (l ≤ ax ∧ ax + aw - 1 ≤ r) ∧ (u ≤ ay ∧ ay + ah - 1 ≤ d) := by
      intro e1
      obtain ⟨a1, a2, a3, a4, a5, a6, a7, a8, a9, a10⟩ := bounds_of e1
      have c1 : plB ax ay aw ah ax ay = true := pl_iff.2 (by omega)
      have c2 : plB ax ay aw ah (ax + aw - 1) (ay + ah - 1) = true := pl_iff.2 (by omega)
      have d1 := g4 _ _ (small_sc sa c1) (by rw [c1]; rfl)
      have d2 := g4 _ _ (small_sc sa c2) (by rw [c2]; rfl)
      omega
    have cB : emptyB bx by' bw bh = false → (l ≤ bx ∧ bx + bw - 1 ≤ r) ∧ (u ≤ by' ∧ by' + bh - 1 ≤ d) := by
      intro e1
      obtain ⟨a1, a2, a3, a4, a5, a6, a7, a8, a9, a10⟩ := bounds_of e1
      have c1 : plB bx by' bw bh bx by' = true := pl_iff.2 (by omega)
      have c2 : plB bx by' bw bh (bx + bw - 1) (by' + bh - 1) = true := pl_iff.2 (by omega)
      have d1 := g4 _ _ (small_sc sb c1) (by rw [c1, Bool.or_true])
      have d2 := g4 _ _ (small_sc sb c2) (by rw [c2, Bool.or_true])
      omega
    have inc : ∀ p q, (plB ax ay aw ah p q || plB bx by' bw bh p q) = true → (emptyB ax ay aw ah = false ∧ ax ≤ p ∧ p < ax + aw ∧ ay ≤ q ∧ q < ay + ah) ∨ (emptyB bx by' bw bh = false ∧ bx ≤ p ∧ p < bx + bw ∧ by' ≤ q ∧ q < by' + bh) := by
      intro p q hc
      rw [Bool.or_eq_true] at hc
      rcases hc with hc | hc
      · refine .inl ⟨?_, pl_iff.1 hc⟩
        cases e : emptyB ax ay aw ah
        · rfl
        · rw [pl_empty ma e] at hc; simp at hc
      · refine .inr ⟨?_, pl_iff.1 hc⟩
        cases e : emptyB bx by' bw bh
        · rfl
        · rw [pl_empty mb e] at hc; simp at hc
    have i1 := inc _ _ c1
    have i2 := inc _ _ c2
    have i3 := inc _ _ c3
    have i4 := inc _ _ c4
    cases e1 : emptyB ax ay aw ah
    · have cA := cA e1
      obtain ⟨a1, a2, a3, a4, a5, a6, a7, a8, a9, a10⟩ := bounds_of e1
      cases e2 : emptyB bx by' bw bh
      · have cB := cB e2
        obtain ⟨b1, b2, b3, b4, b5, b6, b7, b8, b9, b10⟩ := bounds_of e2
        have hm : joinR ax ay aw ah bx by' bw bh = btw (min ax bx) (min ay by') (max (ax + aw) (bx + bw)) (max (ay + ah) (by' + bh)) := by simp [joinR, e1, e2]
        rw [hm, btw_yes (by omega) (by omega)]
        congr 1 <;> omega
      · have hm : joinR ax ay aw ah bx by' bw bh = ⟨ax, ay, aw, ah⟩ := by simp [joinR, e1, e2]
        rw [hm]
        simp only [e2] at i1 i2 i3 i4
        simp at i1 i2 i3 i4
        congr 1 <;> omega
    · simp only [e1] at i1 i2 i3 i4
      simp at i1 i2 i3 i4
      have cB := cB i1.1
      have hm : joinR ax ay aw ah bx by' bw bh = ⟨bx, by', bw, bh⟩ := by simp [joinR, e1, i1.1]
      rw [hm]
      congr 1 <;> omega
  · intro ha
    have no : ∀ p q, Sc 34 (-18) p q → (plB ax ay aw ah p q || plB bx by' bw bh p q) = false := by
      intro p q hs
      cases hc : (plB ax ay aw ah p q || plB bx by' bw bh p q)
      · rfl
      · rw [g3.2 ⟨p, q, hs, hc⟩] at ha; simp at ha
    have eA : emptyB ax ay aw ah = true := by
      cases e1 : emptyB ax ay aw ah
      · obtain ⟨a1, a2, a3, a4, a5, a6, a7, a8, a9, a10⟩ := bounds_of e1
        have c1 : plB ax ay aw ah ax ay = true := pl_iff.2 (by omega)
        have := no _ _ (small_sc sa c1)
        rw [c1] at this; simp at this
      · rfl
    have eB : emptyB bx by' bw bh = true := by
      cases e1 : emptyB bx by' bw bh
      · obtain ⟨a1, a2, a3, a4, a5, a6, a7, a8, a9, a10⟩ := bounds_of e1
        have c1 : plB bx by' bw bh bx by' = true := pl_iff.2 (by omega)
        have := no _ _ (small_sc sb c1)
        rw [c1] at this; simp at this
      · rfl
    simp [joinR, eA, eB]

end Go.Proofs.Ytpeppbfkbijdiaa
