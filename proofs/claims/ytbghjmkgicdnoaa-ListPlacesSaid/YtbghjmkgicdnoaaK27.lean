/-
  Texts of this claim, one behind the other: what each is about stands ahead of it.
-/
import Derived.Test.YtbghjmkgicdnoaaK26
import Derived.Test.YtbghjmkgicdnoaaK19
import Derived.Test.YtbghjmkgicdnoaaK18
import Derived.Test.YtbghjmkgicdnoaaK12
import Derived.Deep.CutBlock
import Derived.Deep.DeepCutAuto
/-
  The plain law of GeomAreas.
-/
namespace Go.Proofs.Ytbghjmkgicdnoaa

theorem in_empty {x y n m bx by' bw bh : Int} (h : emptyB x y n m = true) : inB x y n m bx by' bw bh = true := by simp [inB, h]
theorem in_self (x y n m : Int) : inB x y n m x y n m = true := by
  cases h : emptyB x y n m
  · exact in_mk h h (by omega) (by omega) (by omega) (by omega)
  · exact in_empty h
theorem area_empty {x y n m : Int} (h : emptyB x y n m = true) : areaI x y n m = 0 := by simp [areaI, h]
theorem area_full {x y n m : Int} (h : emptyB x y n m = false) : areaI x y n m = n * m := by simp [areaI, h]

/-- Both lie in their Join, which may be. -/
theorem join_ok {ax ay aw ah bx by' bw bh : Int} (ha : mayB ax ay aw ah = true) (hb : mayB bx by' bw bh = true) :
    inB ax ay aw ah (joinR ax ay aw ah bx by' bw bh).x (joinR ax ay aw ah bx by' bw bh).y (joinR ax ay aw ah bx by' bw bh).w (joinR ax ay aw ah bx by' bw bh).h = true ∧
    inB bx by' bw bh (joinR ax ay aw ah bx by' bw bh).x (joinR ax ay aw ah bx by' bw bh).y (joinR ax ay aw ah bx by' bw bh).w (joinR ax ay aw ah bx by' bw bh).h = true ∧
    mayB (joinR ax ay aw ah bx by' bw bh).x (joinR ax ay aw ah bx by' bw bh).y (joinR ax ay aw ah bx by' bw bh).w (joinR ax ay aw ah bx by' bw bh).h = true := by
  cases h1 : emptyB ax ay aw ah
  · cases h2 : emptyB bx by' bw bh
    · obtain ⟨a1, a2, a3, a4, a5, a6, a7, a8, a9, a10⟩ := bounds_of h1
      obtain ⟨b1, b2, b3, b4, b5, b6, b7, b8, b9, b10⟩ := bounds_of h2
      have hj : joinR ax ay aw ah bx by' bw bh = ⟨min ax bx, min ay by', max (ax + aw) (bx + bw) - min ax bx, max (ay + ah) (by' + bh) - min ay by'⟩ := by
        simp only [joinR, h1, h2, Bool.false_eq_true, if_false]
        exact btw_yes (by omega) (by omega)
      rw [hj]
      have e : emptyB (min ax bx) (min ay by') (max (ax + aw) (bx + bw) - min ax bx) (max (ay + ah) (by' + bh) - min ay by') = false := empty_mk (by omega) (by omega)
      refine ⟨in_mk e h1 ?_ ?_ ?_ ?_, in_mk e h2 ?_ ?_ ?_ ?_, may_of e⟩ <;> simp only <;> omega
    · have hj : joinR ax ay aw ah bx by' bw bh = ⟨ax, ay, aw, ah⟩ := by simp [joinR, h1, h2]
      rw [hj]
      exact ⟨in_self _ _ _ _, in_empty h2, ha⟩
  · cases h2 : emptyB bx by' bw bh
    · have hj : joinR ax ay aw ah bx by' bw bh = ⟨bx, by', bw, bh⟩ := by simp [joinR, h1, h2]
      rw [hj]
      exact ⟨in_empty h1, in_self _ _ _ _, hb⟩
    · have hj : joinR ax ay aw ah bx by' bw bh = zr := by simp [joinR, h1, h2]
      rw [hj]
      exact ⟨in_empty h1, in_empty h2, rfl⟩

/-- The pieces, what both have, and how many there are. -/
theorem less_ok {ax ay aw ah bx by' bw bh : Int} (ha : mayB ax ay aw ah = true) (hb : mayB bx by' bw bh = true) :
    (∀ r ∈ lesL ax ay aw ah bx by' bw bh, pieceOK ax ay aw ah bx by' bw bh r) ∧
    areaI (meetR ax ay aw ah bx by' bw bh).x (meetR ax ay aw ah bx by' bw bh).y (meetR ax ay aw ah bx by' bw bh).w (meetR ax ay aw ah bx by' bw bh).h + areaS (lesL ax ay aw ah bx by' bw bh) = areaI ax ay aw ah ∧
    inB ax ay aw ah bx by' bw bh = decide ((lesL ax ay aw ah bx by' bw bh).length = 0) := by
  cases h1 : emptyB ax ay aw ah
  case true =>
    have hl : lesL ax ay aw ah bx by' bw bh = [] := by simp [lesL, h1]
    have hm : meetR ax ay aw ah bx by' bw bh = zr := by simp [meetR, h1]
    rw [hl, hm, area_empty h1, in_empty h1]
    exact ⟨fun r hr => by simp at hr, rfl, rfl⟩
  case false =>
  obtain ⟨a1, a2, a3, a4, a5, a6, a7, a8, a9, a10⟩ := bounds_of h1
  -- where they have nothing together, the first one is the only piece
  have apart : (emptyB bx by' bw bh = true ∨ ax + aw ≤ bx ∨ bx + bw ≤ ax ∨ ay + ah ≤ by' ∨ by' + bh ≤ ay) → meetR ax ay aw ah bx by' bw bh = zr → (∀ r ∈ lesL ax ay aw ah bx by' bw bh, pieceOK ax ay aw ah bx by' bw bh r) ∧
      areaI (meetR ax ay aw ah bx by' bw bh).x (meetR ax ay aw ah bx by' bw bh).y (meetR ax ay aw ah bx by' bw bh).w (meetR ax ay aw ah bx by' bw bh).h + areaS (lesL ax ay aw ah bx by' bw bh) = areaI ax ay aw ah ∧
      inB ax ay aw ah bx by' bw bh = decide ((lesL ax ay aw ah bx by' bw bh).length = 0) := by
    intro hd hm
    have hl : lesL ax ay aw ah bx by' bw bh = [⟨ax, ay, aw, ah⟩] := by
      have : eqB zr 0 0 0 0 = true := rfl
      simp [lesL, h1, ha, hb, hm, this]
    have hi : inB ax ay aw ah bx by' bw bh = false := by
      simp only [inB, h1, hm, eqB, zr, Bool.false_or]
      have : ((0 : Int) == aw) = false := beq_eq_false_iff_ne.2 (by omega)
      rw [this]; simp
    rw [hl, hm, hi]
    refine ⟨fun r hr => ?_, ?_, rfl⟩
    · have : r = ⟨ax, ay, aw, ah⟩ := by simpa using hr
      subst this
      exact ⟨h1, in_self _ _ _ _, over_no (.inr hd)⟩
    · show areaI zr.x zr.y zr.w zr.h + (areaI ax ay aw ah + 0) = _
      rw [show areaI zr.x zr.y zr.w zr.h = 0 from rfl]; omega
  cases h2 : emptyB bx by' bw bh
  case true => exact apart (.inl h2) (by simp [meetR, h2])
  case false =>
  obtain ⟨b1, b2, b3, b4, b5, b6, b7, b8, b9, b10⟩ := bounds_of h2
  have hm0 : meetR ax ay aw ah bx by' bw bh = btw (max ax bx) (max ay by') (min (ax + aw) (bx + bw)) (min (ay + ah) (by' + bh)) := by simp [meetR, h1, h2]
  by_cases hc : min (ax + aw) (bx + bw) ≤ max ax bx ∨ min (ay + ah) (by' + bh) ≤ max ay by'
  · exact apart (.inr (by omega)) (by rw [hm0]; exact btw_no hc)
  · rw [btw_yes (by omega) (by omega)] at hm0
    obtain ⟨mx, hmx⟩ : ∃ v, v = max ax bx := ⟨_, rfl⟩
    obtain ⟨my, hmy⟩ : ∃ v, v = max ay by' := ⟨_, rfl⟩
    obtain ⟨ex, hex⟩ : ∃ v, v = min (ax + aw) (bx + bw) := ⟨_, rfl⟩
    obtain ⟨ey, hey⟩ : ∃ v, v = min (ay + ah) (by' + bh) := ⟨_, rfl⟩
    rw [← hmx, ← hmy, ← hex, ← hey] at hm0
    have hl : lesL ax ay aw ah bx by' bw bh = (pcs ax ay aw ah mx my (ex - mx) (ey - my)).filter keepB := by
      have : eqB ⟨mx, my, ex - mx, ey - my⟩ 0 0 0 0 = false := by
        have : ((ex - mx) == (0 : Int)) = false := beq_eq_false_iff_ne.2 (by omega)
        simp only [eqB, this]; simp
      simp only [lesL, h1, ha, hb, hm0, this]; simp
    have e1 : mx + (ex - mx) = ex := by omega
    have e2 : my + (ey - my) = ey := by omega
    have hp : pcs ax ay aw ah mx my (ex - mx) (ey - my) = [btw ax ay (ax + aw) my, btw ax my mx ey, btw ex my (ax + aw) ey, btw ax ey (ax + aw) (ay + ah)] := by
      unfold pcs; rw [e1, e2]
    rw [hl, hp, hm0]
    have ok : ∀ lx ly hx hy : Int, ax ≤ lx → hx ≤ ax + aw → ay ≤ ly → hy ≤ ay + ah → (hx ≤ bx ∨ bx + bw ≤ lx ∨ hy ≤ by' ∨ by' + bh ≤ ly) → keepB (btw lx ly hx hy) = true → pieceOK ax ay aw ah bx by' bw bh (btw lx ly hx hy) := by
      intro lx ly hx hy q1 q2 q3 q4 q5 hk
      obtain ⟨k1, k2⟩ := (keep_btw lx ly hx hy).1 hk
      rw [btw_yes k1 k2]
      have e : emptyB lx ly (hx - lx) (hy - ly) = false := empty_mk (by omega) (by omega)
      have i1 : inB lx ly (hx - lx) (hy - ly) ax ay aw ah = true := in_mk h1 e (by omega) (by omega) (by omega) (by omega)
      have i2 : overB lx ly (hx - lx) (hy - ly) bx by' bw bh = false := over_no (.inr (.inr (by omega)))
      exact ⟨e, i1, i2⟩
    refine ⟨fun r hr => ?_, ?_, ?_⟩
    · rw [List.mem_filter] at hr
      obtain ⟨hr, hk⟩ := hr
      simp only [List.mem_cons, List.not_mem_nil, or_false] at hr
      rcases hr with rfl | rfl | rfl | rfl
      · exact ok _ _ _ _ (by omega) (by omega) (by omega) (by omega) (by have := (keep_btw _ _ _ _).1 hk; omega) hk
      · exact ok _ _ _ _ (by omega) (by omega) (by omega) (by omega) (by have := (keep_btw _ _ _ _).1 hk; omega) hk
      · exact ok _ _ _ _ (by omega) (by omega) (by omega) (by omega) (by have := (keep_btw _ _ _ _).1 hk; omega) hk
      · exact ok _ _ _ _ (by omega) (by omega) (by omega) (by omega) (by have := (keep_btw _ _ _ _).1 hk; omega) hk
    · rw [areaS_keep _ (fun r hr hk => by
        simp only [List.mem_cons, List.not_mem_nil, or_false] at hr
        rcases hr with rfl | rfl | rfl | rfl <;> exact drop_zero _ _ _ _ hk)]
      show areaI mx my (ex - mx) (ey - my) + (areaI _ _ _ _ + (areaI _ _ _ _ + (areaI _ _ _ _ + (areaI _ _ _ _ + 0)))) = _
      rw [area_btw (by omega) (by omega) (by omega) (by omega) (by omega) (by omega), area_btw (by omega) (by omega) (by omega) (by omega) (by omega) (by omega), area_btw (by omega) (by omega) (by omega) (by omega) (by omega) (by omega), area_btw (by omega) (by omega) (by omega) (by omega) (by omega) (by omega), area_full h1, area_full (empty_mk (by omega) (by omega))]
      have := cut_sum (mx - ax) (ax + aw - ex) (ex - mx) (my - ay) (ay + ah - ey) (ey - my)
      rw [show mx - ax + (ex - mx) + (ax + aw - ex) = aw by omega, show my - ay + (ey - my) + (ay + ah - ey) = ah by omega] at this
      rw [show ax + aw - ax = aw by omega, Int.add_zero]
      exact this
    · rw [Bool.eq_iff_iff, in_iff h2 h1]
      simp only [decide_eq_true_eq, List.length_eq_zero_iff, List.filter_eq_nil_iff, List.mem_cons, List.not_mem_nil, or_false]
      constructor
      · rintro ⟨q1, q2, q3, q4⟩ r hr hk
        rcases hr with rfl | rfl | rfl | rfl <;> (have := (keep_btw _ _ _ _).1 hk; omega)
      · intro hq
        have k0 : ¬ (ax < ax + aw ∧ ay < my) := fun h => hq _ (.inl rfl) ((keep_btw ax ay (ax + aw) my).2 h)
        have k1 : ¬ (ax < mx ∧ my < ey) := fun h => hq _ (.inr (.inl rfl)) ((keep_btw ax my mx ey).2 h)
        have k2 : ¬ (ex < ax + aw ∧ my < ey) := fun h => hq _ (.inr (.inr (.inl rfl))) ((keep_btw ex my (ax + aw) ey).2 h)
        have k3 : ¬ (ax < ax + aw ∧ ey < ay + ah) := fun h => hq _ (.inr (.inr (.inr rfl))) ((keep_btw ax ey (ax + aw) (ay + ah)).2 h)
        omega

end Go.Proofs.Ytbghjmkgicdnoaa

/-
  ListBack in plain lists: a list moved there and back, flat, joined.
-/
namespace Go.Proofs.Ytbghjmkgicdnoaa
open Go.RowKit

theorem mov_k (p q : Int) (s : St) : (movS p q s).k = s.k := by
  unfold movS
  split <;> rfl
theorem mov_opn (p q : Int) (s : St) (n : Nat) : opn n (movS p q s) = opn n s := by
  unfold opn
  rw [mov_k]
theorem mov_one {p q : Int} {s : St} (h : oneE s = 0) (hm : zMa (movS p q s).r = true) : oneE (movS p q s) = 0 := by
  by_cases h5 : s.k = 5
  · have : movS p q s = s := by unfold movS; rw [if_pos h5]
    rw [this]; exact h
  · have e : movS p q s = ⟨s.k, ⟨s.r.x + p, s.r.y + q, s.r.w, s.r.h⟩, s.c, s.b, s.t, s.n⟩ := by unfold movS; rw [if_neg h5]
    have hn : (wroK s || wroF s) = false := by
      cases hh : (wroK s || wroF s)
      · rfl
      · unfold oneE at h; rw [if_pos hh] at h; cases h
    have k1 : wroK (movS p q s) = wroK s := by rw [e]; rfl
    have h5' : (s.k == 5) = false := by simpa using h5
    have k2 : wroF (movS p q s) = wroF s := by rw [e]; unfold wroF; simp only [h5', Bool.false_and, Bool.or_false]
    unfold oneE
    rw [k1, k2, hn, if_neg (by decide), if_pos hm]
theorem mov_clp {p q : Int} : ∀ (l : List St) (n : Nat), clpE n l = 0 → (∀ s ∈ l, zMa (movS p q s).r = true) → clpE n (l.map (movS p q)) = 0
  | [], n, h, _ => h
  | s :: l, n, h, hm => by
    obtain ⟨h1, h2, h3⟩ := clpE_cons h
    refine clpE_mk (mov_one h1 (hm s List.mem_cons_self)) (by rw [mov_k]; exact h2) ?_
    rw [mov_opn]
    exact mov_clp l _ h3 fun x hx => hm x (List.mem_cons_of_mem _ hx)
theorem mov_back (p q : Int) (s : St) : movS (-p) (-q) (movS p q s) = s := by
  by_cases h5 : s.k = 5
  · unfold movS; rw [if_pos h5, if_pos h5]
  · have e : movS p q s = ⟨s.k, ⟨s.r.x + p, s.r.y + q, s.r.w, s.r.h⟩, s.c, s.b, s.t, s.n⟩ := by unfold movS; rw [if_neg h5]
    rw [e]
    unfold movS
    rw [if_neg h5]
    show (⟨s.k, ⟨s.r.x + p + -p, s.r.y + q + -q, s.r.w, s.r.h⟩, s.c, s.b, s.t, s.n⟩ : St) = s
    rw [Int.add_neg_cancel_right, Int.add_neg_cancel_right]
theorem movF_cases {l : List St} (h : chkS l = 0) (p q : Int) : movF l p q = 0 ∨ movF l p q = 9 := by
  unfold movF
  rw [if_pos h]
  split
  · exact .inl rfl
  · exact .inr rfl
theorem movF_ok {l : List St} {p q : Int} (h : chkS l = 0) (hm : movF l p q = 0) : movG l p q = l.map (movS p q) ∧ ∀ s ∈ l, zMa (movS p q s).r = true := by
  refine ⟨by unfold movG; rw [if_pos hm], fun s hs => ?_⟩
  unfold movF at hm
  rw [if_pos h] at hm
  split at hm
  · next k => exact List.all_eq_true.1 k s hs
  · cases hm
/-- The way is short. -/
theorem mov_short {l : List St} {p q : Int} (h : chkS l = 0) (hm : movF l p q = 0) (hl : 0 < l.length) : (-32768 ≤ p ∧ p ≤ 32768) ∧ (-32768 ≤ q ∧ q ≤ 32768) := by
  obtain ⟨_, ha⟩ := movF_ok h hm
  cases l with
  | nil => cases hl
  | cons s l =>
    obtain ⟨h1, h2, _⟩ := clpE_cons (chkS_zero h).2
    have h5 : s.k ≠ 5 := fun c => h2 ⟨c, rfl⟩
    have hk := ha s List.mem_cons_self
    unfold movS at hk
    rw [if_neg h5] at hk
    have a := may_iff.1 (oneE_zero h1).1
    have b := may_iff.1 hk
    simp only at b
    omega
theorem mov_there {l : List St} {p q : Int} (h : chkS l = 0) (hm : movF l p q = 0) : chkS (movG l p q) = 0 ∧ movF (movG l p q) (-p) (-q) = 0 ∧ movG (movG l p q) (-p) (-q) = l := by
  obtain ⟨e, ha⟩ := movF_ok h hm
  obtain ⟨z1, z2⟩ := chkS_zero h
  have c : chkS (movG l p q) = 0 := by
    rw [e]
    unfold chkS
    rw [List.length_map, if_neg (by omega)]
    exact mov_clp l 0 z2 ha
  have mm : (l.map (movS p q)).map (movS (-p) (-q)) = l := by
    rw [List.map_map]
    conv => rhs; rw [← List.map_id l]
    exact List.map_congr_left fun s _ => mov_back p q s
  have m0 : movF (movG l p q) (-p) (-q) = 0 := by
    unfold movF
    rw [if_pos c, if_pos]
    unfold movO
    rw [e, List.all_map, List.all_eq_true]
    intro s hs
    show zMa (movS (-p) (-q) (movS p q s)).r = true
    rw [mov_back]
    exact (oneE_zero (clp_ones l 0 z2 s hs)).1
  refine ⟨c, m0, ?_⟩
  unfold movG at m0 ⊢
  rw [if_pos m0, if_pos hm, mm]
theorem mov_wfs {l : List St} {p q : Int} (h : chkS l = 0) (hm : movF l p q = 0) (hw : Wfs l) : Wfs (movG l p q) := by
  obtain ⟨e, ha⟩ := movF_ok h hm
  rw [e]
  intro s hs
  obtain ⟨x, hx, rfl⟩ := List.mem_map.1 hs
  have hk := ha x hx
  obtain ⟨w1, w2, w3, w4, w5, w6⟩ := hw x hx
  have b := may_iff.1 hk
  unfold movS at b ⊢
  by_cases h5 : x.k = 5
  · rw [if_pos h5]
    exact ⟨w1, w2, w3, w4, w5, w6⟩
  · rw [if_neg h5] at b ⊢
    simp only at b
    exact ⟨w1, ⟨⟨by show _ ≤ x.r.x + p; omega, by show x.r.x + p ≤ _; omega⟩, ⟨by show _ ≤ x.r.y + q; omega, by show x.r.y + q ≤ _; omega⟩, w2.2.2.1, w2.2.2.2⟩, w3, w4, w5, w6⟩

/-- A stroke shows within its own rectangle. -/
theorem shR_in (cs : List Rc) (s : St) : zIn (shR cs s) s.r = true := by
  unfold shR
  split
  · exact in_empty (by decide)
  · next h =>
    cases cs with
    | nil => exact in_self _ _ _ _
    | cons c cs =>
      have h : zEm (zMe s.r c) = false := by
        cases e : zEm (zMe s.r c)
        · rfl
        · exact absurd e h
      show zIn (zMe s.r c) s.r = true
      unfold zMe meetR at h ⊢
      split at h
      · exact absurd h (by decide)
      · next e =>
        rw [if_neg e]
        have ea : emptyB s.r.x s.r.y s.r.w s.r.h = false := by
          cases e1 : emptyB s.r.x s.r.y s.r.w s.r.h
          · rfl
          · exact absurd (by rw [e1]; rfl) e
        unfold btw at h ⊢
        split at h
        · exact absurd h (by decide)
        · next g =>
          rw [if_neg g]
          refine in_mk ea h ?_ ?_ ?_ ?_ <;> simp only <;> omega
/-- The next stroke that draws, in what is flat. -/
theorem fla_at (a b : List St) (s : St) (h : drw s = true) : (flaL (a ++ s :: b))[(flaL a).length]? = some (s, shR (endC [] a) s) := by
  unfold flaL
  rw [ann_app, List.filter_append]
  show (_ ++ ((s, shR (endC [] a) s) :: ann (nxC (endC [] a) s) b).filter _)[_]? = _
  rw [List.getElem?_append_right (Nat.le_refl _), Nat.sub_self, List.filter_cons_of_pos (by exact h)]
  rfl
theorem fla_step (a : List St) (s : St) : (flaL (a ++ [s])).length = (flaL a).length + if drw s = true then 1 else 0 := by
  unfold flaL
  rw [ann_app, List.filter_append, List.length_append]
  show _ + (((s, shR (endC [] a) s) :: []).filter _).length = _
  by_cases h : drw s = true
  · rw [List.filter_cons_of_pos (by exact h), if_pos h]; rfl
  · rw [List.filter_cons_of_neg (by exact h), if_neg h]; rfl

end Go.Proofs.Ytbghjmkgicdnoaa

/-
  Parts of a row of strokes that a call made; what ListBack asks of a list's flat strokes.
-/
namespace Go.Proofs.Ytbghjmkgicdnoaa
open Go.RowKit

theorem row_take {lo : Nat} {w : World} {oa : Option Addr} {n cap : Nat} {l m : List St} (h : OwS lo w (.slice oa n cap) (l ++ m)) : LsS w (.slice oa l.length cap) l := by
  obtain ⟨ob, cb, e, hc, hg⟩ := h.lss
  injection e with e1 e2 e3
  subst e1; subst e3
  have hla : (l ++ m).length = l.length + m.length := List.length_append
  refine ⟨_, _, rfl, by omega, fun hp => ?_⟩
  obtain ⟨g, o, e1, g1, g2⟩ := hg (by omega)
  refine ⟨g, o, e1, g1, fun i hi => ?_⟩
  have := g2 i (by omega)
  rwa [List.getElem_append_left hi] at this
theorem row_drop {lo : Nat} {w : World} {g n cap : Nat} {l m : List St} (h : OwS lo w (.slice (some ⟨g, 0, none⟩) n cap) (l ++ m)) : LsS w (.slice (some ⟨g, l.length * 15, none⟩) m.length (cap - l.length)) m := by
  obtain ⟨ob, cb, e, hc, hg⟩ := h.lss
  injection e with e1 e2 e3
  subst e3
  have hla : (l ++ m).length = l.length + m.length := List.length_append
  refine ⟨_, _, rfl, by omega, fun hp => ?_⟩
  obtain ⟨g', o, e4, g1, g2⟩ := hg (by omega)
  rw [e4] at e1
  injection e1 with e1
  injection e1 with e5 e6 e7
  subst e5; subst e6
  refine ⟨g, l.length * 15, rfl, g1, fun i hi => ?_⟩
  have := g2 (l.length + i) (by omega)
  rw [List.getElem_append_right (by omega)] at this
  simp only [Nat.add_sub_cancel_left] at this
  rwa [show 0 + (l.length + i) * 15 = l.length * 15 + i * 15 by omega] at this
theorem lss_none (w : World) (oa : Option Addr) (cap : Nat) : LsS w (.slice oa 0 cap) [] := ⟨oa, cap, rfl, Nat.zero_le _, fun h => absurd h (Nat.lt_irrefl 0)⟩

theorem shR_i64 (cs : List Rc) (s : St) : I64 (shR cs s).x ∧ I64 (shR cs s).y := by
  unfold shR
  split
  · exact ⟨⟨by decide, by decide⟩, ⟨by decide, by decide⟩⟩
  · next h =>
    have h : zEm (topR cs s.r) = false := by
      cases e : zEm (topR cs s.r)
      · rfl
      · exact absurd e h
    have := (em_iff _).1 h
    exact ⟨⟨by omega, by omega⟩, ⟨by omega, by omega⟩⟩
/-- What is flat of a list, stroke by stroke. -/
theorem fla_both {l : List St} (h : chkS l = 0) (i : Nat) (hi : i < l.length) (hd : drw l[i] = true) :
    (fla1 l)[(flaL (l.take i)).length]? = some l[i] ∧ ∃ q, (fla2 l)[(flaL (l.take i)).length]? = some q ∧ zIn q l[i].r = true ∧ I64 q.x ∧ I64 q.y := by
  have e : l = l.take i ++ l[i] :: l.drop (i + 1) := by
    rw [← List.drop_eq_getElem_cons hi, List.take_append_drop]
  have k := fla_at (l.take i) (l.drop (i + 1)) l[i] hd
  rw [← e] at k
  unfold fla1 fla2
  rw [if_pos h, if_pos h, List.getElem?_map, List.getElem?_map, k]
  exact ⟨rfl, _, rfl, shR_in _ _, shR_i64 _ _⟩
theorem fla_next (l : List St) (i : Nat) (hi : i < l.length) : (flaL (l.take (i + 1))).length = (flaL (l.take i)).length + if drw l[i] = true then 1 else 0 := by
  rw [← fla_step, List.take_append_getElem hi]
theorem fla_whole {l : List St} (h : chkS l = 0) : (fla1 l).length = (flaL l).length ∧ (fla2 l).length = (flaL l).length := by
  unfold fla1 fla2
  rw [if_pos h, if_pos h, List.length_map, List.length_map]
  exact ⟨rfl, rfl⟩
theorem fla_le (l : List St) : (flaL l).length ≤ l.length := by
  unfold flaL
  have := List.length_filter_le (fun p : St × Rc => drw p.1) (ann [] l)
  rw [ann_len] at this
  exact this
theorem lss_at {w : World} {oa : Option Addr} {n cap : Nat} {l : List St} (h : LsS w (.slice oa n cap) l) (hp : 0 < l.length) : ∃ g o, oa = some ⟨g, o, none⟩ ∧ g < w.heap.size ∧ ∀ i (h : i < l.length), StAt w g (o + i * 15) l[i] := by
  obtain ⟨ob, cb, e, _, hg⟩ := h
  injection e with e1 _ _
  subst e1
  exact hg hp
theorem joi_small {l m : List St} (hl : chkS l = 0) (hm : chkS m = 0) (h1 : l.length ≤ 3000) (h2 : m.length ≤ 3000) : joiE l m = 0 ∧ joiL l m = l ++ m := by
  have e : joiE l m = 0 := by unfold joiE; rw [if_pos hl, if_pos hm, if_neg (by omega)]
  exact ⟨e, by unfold joiL; rw [if_pos e]⟩
theorem sam_app (l m : List St) : samZ l (l ++ m) = decide (m.length = 0) := by
  cases m with
  | nil => rw [List.append_nil, samZ_self]; rfl
  | cons s m =>
    rw [samZ_no]
    · rfl
    · intro e
      have := congrArg List.length e
      rw [List.length_append, List.length_cons] at this
      omega
theorem mov_i64 {l : List St} {p q : Int} (h : chkS l = 0) (hm : movF l p q = 0) (hl : 0 < l.length) : I64 (-p) ∧ I64 (-q) := by
  have := mov_short h hm hl
  exact ⟨⟨by omega, by omega⟩, ⟨by omega, by omega⟩⟩
theorem forall_and15 {α : Type} {p0 p1 p2 p3 p4 p5 p6 p7 p8 p9 p10 p11 p12 p13 p14 : α → Prop} (h : ∀ t, p0 t ∧ p1 t ∧ p2 t ∧ p3 t ∧ p4 t ∧ p5 t ∧ p6 t ∧ p7 t ∧ p8 t ∧ p9 t ∧ p10 t ∧ p11 t ∧ p12 t ∧ p13 t ∧ p14 t) : (∀ t, p0 t) ∧ (∀ t, p1 t) ∧ (∀ t, p2 t) ∧ (∀ t, p3 t) ∧ (∀ t, p4 t) ∧ (∀ t, p5 t) ∧ (∀ t, p6 t) ∧ (∀ t, p7 t) ∧ (∀ t, p8 t) ∧ (∀ t, p9 t) ∧ (∀ t, p10 t) ∧ (∀ t, p11 t) ∧ (∀ t, p12 t) ∧ (∀ t, p13 t) ∧ (∀ t, p14 t) := ⟨fun t => (h t).1, fun t => (h t).2.1, fun t => (h t).2.2.1, fun t => (h t).2.2.2.1, fun t => (h t).2.2.2.2.1, fun t => (h t).2.2.2.2.2.1, fun t => (h t).2.2.2.2.2.2.1, fun t => (h t).2.2.2.2.2.2.2.1, fun t => (h t).2.2.2.2.2.2.2.2.1, fun t => (h t).2.2.2.2.2.2.2.2.2.1, fun t => (h t).2.2.2.2.2.2.2.2.2.2.1, fun t => (h t).2.2.2.2.2.2.2.2.2.2.2.1, fun t => (h t).2.2.2.2.2.2.2.2.2.2.2.2.1, fun t => (h t).2.2.2.2.2.2.2.2.2.2.2.2.2.1, fun t => (h t).2.2.2.2.2.2.2.2.2.2.2.2.2.2⟩
theorem forall_and4 {α : Type} {p0 p1 p2 p3 : α → Prop} (h : ∀ t, p0 t ∧ p1 t ∧ p2 t ∧ p3 t) : (∀ t, p0 t) ∧ (∀ t, p1 t) ∧ (∀ t, p2 t) ∧ (∀ t, p3 t) := ⟨fun t => (h t).1, fun t => (h t).2.1, fun t => (h t).2.2.1, fun t => (h t).2.2.2⟩

end Go.Proofs.Ytbghjmkgicdnoaa

/-
  The walk of ListBack.
-/
namespace Go.Proofs.Ytbghjmkgicdnoaa
open Go.RowKit

/-- What lies there. -/
structure BaS (bx : Nat) (w : World) (v vm a : Value) (l m : List St) (px py : Int) (W : World) : Prop where
  fl : LsS W v l
  fm : LsS W vm m
  fb : Bk W bx #[.int .i64 px, .int .i64 py] 23
  fa : OwS 0 W a (movG l px py)
  fw : Below w.heap.size w W
theorem BaS.below {bx : Nat} {w : World} {v vm a : Value} {l m : List St} {px py : Int} {W W' : World} (h : BaS bx w v vm a l m px py W) (hb : Below W.heap.size W W') : BaS bx w v vm a l m px py W' :=
  ⟨h.fl.below hb, h.fm.below hb, h.fb.below hb, h.fa.below hb, h.fw.trans (hb.mono h.fw.size)⟩
theorem ows_nn {lo : Nat} {W : World} {v : Value} {l : List St} (h : OwS lo W v l) : NoNil v := fun c hc => by
  obtain ⟨hl, ⟨rfl, h0⟩ | ⟨g, cap, cur, rfl, _⟩⟩ := id h
  · injection hc with _ _ h3; exact h3.symm
  · injection hc with h1 _ _; cases h1

/-- What lies there while the flat strokes are looked at. -/
structure BbS (w : World) (v vm u q : Value) (l m : List St) (W : World) : Prop where
  fl : LsS W v l
  fm : LsS W vm m
  fu : OwS 0 W u (fla1 l)
  fq : OwR 0 W q (fla2 l)
  fw : Below w.heap.size w W
theorem BbS.below {w : World} {v vm u q : Value} {l m : List St} {W W' : World} (h : BbS w v vm u q l m W) (hb : Below W.heap.size W W') : BbS w v vm u q l m W' :=
  ⟨h.fl.below hb, h.fm.below hb, h.fu.below hb, h.fq.below hb, h.fw.trans (hb.mono h.fw.size)⟩
/-- The flat stroke that belongs to a stroke of the list, and its rectangle, in memory. -/
theorem BbS.both {w : World} {v vm : Value} {ou oq : Option Addr} {nu cu nq cq : Nat} {l m : List St} {W : World} (h : BbS w v vm (.slice ou nu cu) (.slice oq nq cq) l m W) (h0 : chkS l = 0) (i : Nat) (hi : i < l.length) (hd : drw l[i] = true) :
    ∃ gu gq q, ou = some ⟨gu, 0, none⟩ ∧ oq = some ⟨gq, 0, none⟩ ∧ (flaL (l.take i)).length < (flaL l).length ∧ gu < W.heap.size ∧ gq < W.heap.size ∧ StAt W gu ((flaL (l.take i)).length * 15) l[i] ∧ RcAt W gq ((flaL (l.take i)).length * 4) q ∧ zIn q l[i].r = true ∧ I64 q.x ∧ I64 q.y := by
  obtain ⟨f1, q, f2, f3, f4, f5⟩ := fla_both h0 i hi hd
  obtain ⟨k1, e1⟩ := List.getElem?_eq_some_iff.1 f1
  obtain ⟨k2, e2⟩ := List.getElem?_eq_some_iff.1 f2
  have hw := (fla_whole h0).1
  obtain ⟨ou', cu', eu, _, hu⟩ := row_val h.fu
  injection eu with eu1 eu2 eu3
  subst eu1
  obtain ⟨gu, rfl, _, hgu⟩ := hu (by omega)
  obtain ⟨oq', cq', eq, _, hq⟩ := row_val h.fq
  injection eq with eq1 eq2 eq3
  subst eq1
  obtain ⟨gq, rfl, _, hgq⟩ := hq (by omega)
  refine ⟨gu, gq, q, rfl, rfl, by omega, hgu, hgq, ?_, ?_, f3, f4, f5⟩
  · obtain ⟨g, o, e, _, hat⟩ := lss_at h.fu.lss (by omega)
    injection e with e
    injection e with e3 e4 _
    subst e3 e4
    have := hat _ k1
    rwa [Nat.zero_add, e1] at this
  · obtain ⟨ob, cb, e, _, hg⟩ := lsr_own h.fq
    injection e with e3 _ _
    obtain ⟨g, o, e4, _, hat⟩ := hg (by omega)
    rw [e4] at e3
    injection e3 with e3
    injection e3 with e5 e6 _
    subst e5 e6
    have := hat _ k2
    rwa [Nat.zero_add, e2] at this

set_option maxRecDepth 20000 in
set_option maxHeartbeats 16000000 in
theorem back_walk (CC : LCheck) (CF : LFlat) (CN : LNorm) (CJ : LJoin) (CM : LMoved) (CS : LSame) (l m : List St) (px py : Int) (v vm : Value) (w : World) (hv : LsS w v l) (hn : NoNil v) (hw : Wfs l) (hv2 : LsS w vm m) (hn2 : NoNil vm) (hw2 : Wfs m) (hpx : I64 px) (hpy : I64 py) :
    Calls Try.prog 6 #[v, vm, .agg #[.int .i64 px, .int .i64 py]] w fun e w' => e = .returned (.bool true) ∧ Below w.heap.size w w' := by
  have HC : Hid (LCheck ∧ LFlat ∧ LJoin ∧ LMoved ∧ LSame) := ⟨CC, CF, CJ, CM, CS⟩
  have HAl : Hid (∀ W, Calls Try.prog 20 #[] W fun e w' => e = .returned (.bool true) ∧ Below W.heap.size W w') := fun W => alive13_any CF CN W
  have HW : Hid ((Wfs l ∧ LsS w v l ∧ NoNil v) ∧ (Wfs m ∧ LsS w vm m ∧ NoNil vm) ∧ I64 px ∧ I64 py) := ⟨⟨hw, hv, hn⟩, ⟨hw2, hv2, hn2⟩, hpx, hpy⟩
  obtain ⟨oa, cap, rfl, hc, _⟩ := hv
  obtain ⟨ob, cbm, rfl, hcm, _⟩ := hv2
  obtain ⟨n, hnn⟩ : ∃ n, n = l.length := ⟨_, rfl⟩
  obtain ⟨nm, hnm⟩ : ∃ nm, nm = m.length := ⟨_, rfl⟩
  have HN : Hid (n = l.length ∧ nm = m.length) := ⟨hnn, hnm⟩
  rw [← hnn] at hc
  rw [← hnm] at hcm
  rw [← hnn, ← hnm] at HW ⊢
  clear CC CF CN CJ CM CS hn hw hnn hn2 hw2 hnm hpx hpy
  obtain ⟨bx, hbx⟩ : ∃ bx, bx = w.heap.size := ⟨_, rfl⟩
  have HB0 : Hid (Bk (w.alloc (.cells #[.int .i64 px, .int .i64 py] 23)) bx #[.int .i64 px, .int .i64 py] 23 ∧ Below w.heap.size w (w.alloc (.cells #[.int .i64 px, .int .i64 py] 23))) := ⟨by rw [hbx]; exact Bk.new _ _ _, (Below.refl _ _).alloc (Nat.le_refl _) _⟩
  go_enter Try.func6, Try.ntmps6
  go_wp2_with fail
  rw [← hbx]
  clear hbx
  generalize w.alloc (.cells #[.int .i64 px, .int .i64 py] 23) = W0 at *
  refine (HAl.out W0).mono ?_
  rintro e w1 ⟨rfl, hb⟩
  have H1 : Hid (Below w.heap.size w w1 ∧ Bk w1 bx #[.int .i64 px, .int .i64 py] 23) := ⟨HB0.out.2.trans (hb.mono HB0.out.2.size), HB0.out.1.below hb⟩
  clear hb HB0 HAl
  by_cases h1 : 3000 < n
  · have j1 : (3000 : Int) < n := by omega
    go_wp2
    go_ret
    exact ⟨rfl, H1.out.1⟩
  by_cases h2 : 3000 < nm
  · have j1 : ¬ (3000 : Int) < n := by omega
    have j2 : (3000 : Int) < nm := by omega
    go_wp2
    go_ret
    exact ⟨rfl, H1.out.1⟩
  have j1 : ¬ (3000 : Int) < n := by omega
  have j2 : ¬ (3000 : Int) < nm := by omega
  have HL : Hid (l.length ≤ 3000 ∧ m.length ≤ 3000) := by have := HN.out; exact ⟨by omega, by omega⟩
  go_wp2_with fail
  refine (HC.out.1 l _ w1 (HW.out.1.2.1.below H1.out.1) HW.out.1.1).mono ?_
  rintro e w2 ⟨rfl, hb⟩
  have H2 : Hid (Below w.heap.size w w2 ∧ Bk w2 bx #[.int .i64 px, .int .i64 py] 23) := ⟨H1.out.1.trans (hb.mono H1.out.1.size), H1.out.2.below hb⟩
  clear hb H1
  by_cases hl0 : chkS l = 0
  case neg =>
    have b1 : (chkS l != 0) = true := bne_iff_ne.2 hl0
    generalize chkS l = E1 at *
    clear hl0
    go_wp2
    go_ret
    exact ⟨rfl, H2.out.1⟩
  rw [hl0]
  have HL0 : Hid (chkS l = 0) := hl0
  clear hl0
  go_wp2_with fail
  refine (HC.out.1 m _ w2 (HW.out.2.1.2.1.below H2.out.1) HW.out.2.1.1).mono ?_
  rintro e w3 ⟨rfl, hb⟩
  have H3 : Hid (Below w.heap.size w w3 ∧ Bk w3 bx #[.int .i64 px, .int .i64 py] 23) := ⟨H2.out.1.trans (hb.mono H2.out.1.size), H2.out.2.below hb⟩
  clear hb H2
  by_cases hm0 : chkS m = 0
  case neg =>
    have b1 : (chkS m != 0) = true := bne_iff_ne.2 hm0
    generalize chkS m = E1 at *
    clear hm0
    go_wp2
    go_ret
    exact ⟨rfl, H3.out.1⟩
  rw [hm0]
  have HM0 : Hid (chkS m = 0) := hm0
  clear hm0
  obtain ⟨d0, d1⟩ := H3.out.2.at2
  go_wp2_with fail
  refine (HC.out.2.2.2.1 l px py _ w3 (HW.out.1.2.1.below H3.out.1) HW.out.1.2.2 HW.out.1.1 HW.out.2.2.1 HW.out.2.2.2).mono ?_
  rintro e w4 ⟨a, rfl, ha⟩
  have H4 : Hid (BaS bx w (.slice oa n cap) (.slice ob nm cbm) a l m px py w4) := by
    obtain ⟨q1, q2⟩ := ha.out
    have b0 := H3.out.1.trans (q2.mono H3.out.1.size)
    exact ⟨HW.out.1.2.1.below b0, HW.out.2.1.2.1.below b0, H3.out.2.below q2, q1.weaken (Nat.zero_le _), b0⟩
  clear ha H3 d0 d1
  have HE : Hid ((movF l px py = 0 ∨ movF l px py = 9) ∧ (movF l px py = 0 → 0 < l.length → (I64 (-px) ∧ I64 (-py)) ∧ movF (movG l px py) (-px) (-py) = 0 ∧ movG (movG l px py) (-px) (-py) = l ∧ Wfs (movG l px py))) := by
    refine ⟨movF_cases HL0.out px py, fun e1 e2 => ?_⟩
    have q := mov_there HL0.out e1
    exact ⟨mov_i64 HL0.out e1 e2, q.2.1, q.2.2, mov_wfs HL0.out e1 HW.out.1.1⟩
  generalize movF l px py = E at *
  obtain ⟨B, HBt⟩ : ∃ B : Bool, Hid (B = (decide (E = 0) && decide (0 < n))) := ⟨_, rfl⟩
  go_upto_region 5 with fail
  go_cut [51] (fun s51 wx => s51 = .bool B ∧ wx = w4)
  case first =>
    by_cases hE : E = 0
    · have b1 : (E == 0) = true := beq_iff_eq.2 hE
      by_cases h0 : 0 < n
      · have i0 : (0 : Int) < n := by omega
        have HV : Hid (B = true) := by unfold Hid; rw [HBt.out]; simp [hE, h0]
        clear hE
        go_wp2_with fail
        go_meet
        exact ⟨by rw [HV.out], rfl⟩
      · have i0 : ¬ (0 : Int) < n := by omega
        have HV : Hid (B = false) := by unfold Hid; rw [HBt.out]; simp [h0]
        clear hE
        go_wp2_with fail
        go_meet
        exact ⟨by rw [HV.out], rfl⟩
    · have b1 : (E == 0) = false := beq_eq_false_iff_ne.2 hE
      have HV : Hid (B = false) := by unfold Hid; rw [HBt.out]; simp [hE]
      clear hE
      go_wp2_with fail
      go_meet
      exact ⟨by rw [HV.out], rfl⟩
  case rest =>
  obtain ⟨rfl, ew⟩ := hcut
  have ew2 := ew.symm
  subst ew2
  clear ew
  go_upto_if 51 with fail
  go_cut [] (fun wx => Hid (BaS bx w (.slice oa n cap) (.slice ob nm cbm) a l m px py wx))
  case first =>
    cases B with
    | true =>
      have hh : Hid (E = 0 ∧ 0 < n) := by have := HBt.out; simp at this; exact this
      have HF : Hid ((I64 (-px) ∧ I64 (-py)) ∧ movF (movG l px py) (-px) (-py) = 0 ∧ movG (movG l px py) (-px) (-py) = l ∧ Wfs (movG l px py)) := HE.out.2 hh.out.1 (by rw [← HN.out.1]; exact hh.out.2)
      obtain ⟨⟨i1, i2⟩, ⟨i3, i4⟩⟩ := HF.out.1
      obtain ⟨d0, d1⟩ := H4.out.fb.at2
      go_wp2_with fail
      refine (HC.out.2.2.2.1 (movG l px py) (-px) (-py) _ w4 H4.out.fa.lss (ows_nn H4.out.fa) HF.out.2.2.2 HF.out.1.1 HF.out.1.2).mono ?_
      rintro e w5 ⟨b, rfl, hb⟩
      rw [HF.out.2.1]
      have H5 : Hid (BaS bx w (.slice oa n cap) (.slice ob nm cbm) a l m px py w5 ∧ LsS w5 b l) := by
        obtain ⟨q1, q2⟩ := hb.out
        rw [HF.out.2.2.1] at q1
        exact ⟨H4.out.below q2, q1.lss⟩
      clear hb d0 d1
      go_wp2_with fail
      refine (alikS_any l l _ _ w5 H5.out.2 H5.out.1.fl (by have := HL.out.1; omega)).mono ?_
      rintro e w6 ⟨rfl, hb⟩
      rw [samZ_self]
      have H6 : Hid (BaS bx w (.slice oa n cap) (.slice ob nm cbm) a l m px py w6) := H5.out.1.below hb
      clear hb H5
      go_wp2_with fail
      go_meet
      exact H6
    | false =>
      go_wp2_with fail
      go_meet
      exact H4
  case rest =>
    have H5 : Hid (BaS bx w (.slice oa n cap) (.slice ob nm cbm) a l m px py wc) := hcut
    clear H4 hcut
    have HE2 : Hid (E = 0 ∨ E = 9) := HE.out.1
    clear HE
    generalize wc = w5 at *
    go_wp2_with fail
    refine (HC.out.2.1 l _ w5 H5.out.fl HW.out.1.1).mono ?_
    rintro e w6 ⟨u, q, rfl, huq⟩
    rw [HL0.out]
    have H6 : Hid (BbS w (.slice oa n cap) (.slice ob nm cbm) u q l m w6) := by
      obtain ⟨q1, q2, _, q4⟩ := huq.out
      have b := H5.out.below q4
      exact ⟨b.fl, b.fm, q1.weaken (Nat.zero_le _), q2.weaken (Nat.zero_le _), b.fw⟩
    clear huq H5
    obtain ⟨ou, cu, eu, hcu, -⟩ := row_val H6.out.fu
    obtain ⟨oq, cq, eq, hcq, -⟩ := row_val H6.out.fq
    obtain ⟨K, hK⟩ : ∃ K, K = (flaL l).length := ⟨_, rfl⟩
    have HK : Hid (K = (flaL l).length) := hK
    rw [(fla_whole HL0.out).1, ← hK] at eu hcu
    rw [(fla_whole HL0.out).2, ← hK] at eq hcq
    have hKb : K ≤ 3000 := by have := fla_le l; have := HL.out.1; omega
    subst eu eq
    clear hK
    go_wp2_with fail
    go_loopw [15, 16] (fun k i wr => ∃ j : Nat, i = .int .i64 j ∧ j ≤ n ∧ k = .int .i64 ((flaL (l.take j)).length : Nat) ∧ Hid (BbS w (.slice oa n cap) (.slice ob nm cbm) (.slice ou K cu) (.slice oq K cq) l m wr)) (fun _ i _ => n - (intOf i).toNat)
    case atStart => exact ⟨0, rfl, Nat.zero_le _, rfl, H6⟩
    case round =>
      obtain ⟨j, rfl, hj, rfl, HR⟩ := hrel
      clear H6
      by_cases hlt : j < n
      · have ij : (j : Int) < n := by omega
        have hla : j < l.length := by rw [← HN.out.1]; exact hlt
        have hone : oneE l[j] = 0 := clp_ones l 0 (chkS_zero HL0.out).2 _ (List.getElem_mem hla)
        have HNX : Hid ((flaL (l.take (j + 1))).length = (flaL (l.take j)).length + if drw l[j] = true then 1 else 0) := fla_next l j hla
        by_cases hd : drw l[j] = true
        · obtain ⟨gu, gq, r, rfl, rfl, hkk, hgu, hgq, hsu, hrq, hin, hi1, hi2⟩ := HR.out.both HL0.out j hla hd
          obtain ⟨g, o, rfl, hg, hat⟩ := lss_at HR.out.fl (by omega)
          have hx := hat j hla
          have hwf := HW.out.1.1 _ (List.getElem_mem hla)
          have HI : Hid (∀ W, Calls Try.prog 34 #[.agg #[.int .i64 r.x, .int .i64 r.y, .int .i64 r.w, .int .i64 r.h], .agg #[.int .i64 l[j].r.x, .int .i64 l[j].r.y, .int .i64 l[j].r.w, .int .i64 l[j].r.h]] W fun e w' => e = .returned (.bool true) ∧ Below W.heap.size W w') := fun W => by
            have q := in_any r.x r.y r.w r.h l[j].r.x l[j].r.y l[j].r.w l[j].r.h W hi1 hi2 hwf.2.1.1 hwf.2.1.2.1
            have e : inB r.x r.y r.w r.h l[j].r.x l[j].r.y l[j].r.w l[j].r.h = true := hin
            rw [e] at q
            exact q
          have k4 : (l[j].k == 4) = false := beq_eq_false_iff_ne.2 (by unfold drw at hd; simp at hd; omega)
          have k5 : (l[j].k == 5) = false := beq_eq_false_iff_ne.2 (by unfold drw at hd; simp at hd; omega)
          have hkN : Hid ((flaL (l.take (j + 1))).length = (flaL (l.take j)).length + 1) := by rw [if_pos hd] at HNX; exact HNX
          have hkk2 : (flaL (l.take j)).length < K := by rw [HK.out]; exact hkk
          clear hat hwf hi1 hi2 hin hd hone HNX hkk
          generalize hs : l[j] = s at *
          clear hs
          generalize hc9 : (flaL (l.take j)).length = c at *
          clear hc9
          have hq := fun W => neq_stroke s s W
          simp only [eqS_self, Bool.not_true] at hq
          have ic : (c : Int) < K := by omega
          have ic2 : ¬ (K : Int) ≤ c := by omega
          have HX : Hid (∀ t : Gw wr, StAt t.wd g (o + j * 15) s) := fun t => hx.kept fun p => t.below.cell (p := ⟨g, p, none⟩) hg
          have HU : Hid (∀ t : Gw wr, StAt t.wd gu (c * 15) s) := fun t => hsu.kept fun p => t.below.cell (p := ⟨gu, p, none⟩) hgu
          have HQ : Hid (∀ t : Gw wr, RcAt t.wd gq (c * 4) r) := fun t => hrq.kept fun p => t.below.cell (p := ⟨gq, p, none⟩) hgq
          have ne := gw_ne (Below.refl 0 wr)
          obtain ⟨x0, -⟩ := hx
          clear hsu hrq
          go_upto_region 17 with fail
          obtain ⟨a0, a1, a2, a3, a4, a5, a6, a7, a8, a9, a10, a11, a12, a13, a14⟩ := forall_and15 HX.out
          obtain ⟨b0, b1, b2, b3, b4, b5, b6, b7, b8, b9, b10, b11, b12, b13, b14⟩ := forall_and15 HU.out
          obtain ⟨e0, e1, e2, e3⟩ := forall_and4 HQ.out
          clear x0
          refine wp_region_gw (by kernel_rfl) (by kernel_rfl) ?_
          repeat (go_big_quiet_step (first
            | (go_at_call 34; exact gw_call (HI.out _))))
          refine wpQuiet_nil ?_
          rintro _ ⟨tt, rfl⟩
          have H7 : Hid (BbS w (.slice (some ⟨g, o, none⟩) n cap) (.slice ob nm cbm) (.slice (some ⟨gu, 0, none⟩) K cu) (.slice (some ⟨gq, 0, none⟩) K cq) l m tt.wd) := HR.out.below tt.below
          clear a0 a1 a2 a3 a4 a5 a6 a7 a8 a9 a10 a11 a12 a13 a14 b0 b1 b2 b3 b4 b5 b6 b7 b8 b9 b10 b11 b12 b13 b14 e0 e1 e2 e3 HX HU HQ HR
          generalize tt.wd = w7 at *
          go_wp2
          go_roundw
          case rel => exact ⟨j + 1, by go_num, by omega, by rw [hkN.out]; go_num, H7⟩
          case measure => simp [intOf]; omega
        · have hkN : Hid ((flaL (l.take (j + 1))).length = (flaL (l.take j)).length) := by rw [if_neg hd] at HNX; exact HNX
          obtain ⟨g, o, rfl, hg, hat⟩ := lss_at HR.out.fl (by omega)
          obtain ⟨x0, -⟩ := hat j hla
          have h45 : l[j].k = 4 ∨ l[j].k = 5 := by
            have h1 := (oneE_zero hone).2.1
            unfold drw at hd
            simp at hd
            omega
          clear hat hd hone HNX
          generalize l[j].k = kk at *
          generalize hc9 : (flaL (l.take j)).length = c at *
          clear hc9
          rcases h45 with rfl | rfl
          all_goals
            go_wp2
            go_roundw
            case rel => exact ⟨j + 1, by go_num, by omega, by rw [hkN.out], HR⟩
            case measure => simp [intOf]; omega
      · obtain rfl : j = n := by omega
        have HKn : Hid ((flaL (l.take j)).length = K) := by
          unfold Hid
          rw [HN.out.1, List.take_length]
          exact HK.out.symm
        rw [HKn.out]
        clear hlt hj
        have HJ : Hid (joiE l m = 0 ∧ joiL l m = l ++ m) := joi_small HL0.out HM0.out HL.out.1 HL.out.2
        go_wp2_with fail
        refine (HC.out.2.2.1 l m _ _ wr HR.out.fl HR.out.fm HW.out.1.2.2 HW.out.2.1.2.2 HW.out.1.1 HW.out.2.1.1 (by have := HL.out.1; omega) (by have := HL.out.2; omega)).mono ?_
        rintro e w7 ⟨a2, rfl, hj2⟩
        rw [HJ.out.1]
        have H7 : Hid (LsS w7 (.slice oa j cap) l ∧ LsS w7 (.slice ob nm cbm) m ∧ OwS 0 w7 a2 (l ++ m) ∧ Below w.heap.size w w7) := by
          obtain ⟨q1, q2⟩ := hj2.out
          rw [HJ.out.2] at q1
          exact ⟨HR.out.fl.below q2, HR.out.fm.below q2, q1.weaken (Nat.zero_le _), HR.out.fw.trans (q2.mono HR.out.fw.size)⟩
        clear hj2 HR
        obtain ⟨oj, cj, ej, hcj, hoj⟩ := row_val H7.out.2.2.1
        have hlen : (l ++ m).length = j + nm := by rw [List.length_append, ← HN.out.1, ← HN.out.2]
        rw [hlen] at ej hcj hoj
        subst ej
        have HSm : Hid (samZ l (l ++ m) = ((nm : Int) == 0)) := by
          unfold Hid
          rw [sam_app, ← HN.out.2, Bool.eq_iff_iff]
          simp
        have HT : Hid (∀ W, OwS 0 W (.slice oj (j + nm) cj) (l ++ m) → LsS W (.slice oj j cj) l) := fun W h => by have q := row_take h; rw [← HN.out.1] at q; exact q
        have HOj : Hid (cj ≠ j → ∃ g, oj = some ⟨g, 0, none⟩) := fun hne => by
          obtain ⟨_, ⟨h, _⟩ | ⟨g, c', _, h, _⟩⟩ := id H7.out.2.2.1
          · injection h with _ h2 h3; omega
          · injection h with h1 _ _; exact ⟨g, h1⟩
        clear hlen hoj
        by_cases hcn : cj = j
        · subst hcn
          obtain rfl : nm = 0 := by omega
          have HD : Hid (∀ W (oz : Option Addr) (c : Nat), LsS W (.slice oz 0 c) m) := fun W oz c => by
            obtain rfl : m = [] := List.length_eq_zero_iff.1 HN.out.2.symm
            exact lss_none _ _ _
          rw [Nat.add_zero] at H7 HT
          rcases HE2.out with rfl | rfl
          all_goals
            go_wp2_with fail
            refine (alikS_any l l _ _ w7 (HT.out _ H7.out.2.2.1) H7.out.1 (by have := HL.out.1; omega)).mono ?_
            rintro e w8 ⟨rfl, hb⟩
            rw [samZ_self]
            have H8 : Hid (LsS w8 (.slice oa cj cap) l ∧ LsS w8 (.slice ob 0 cbm) m ∧ OwS 0 w8 (.slice oj cj cj) (l ++ m) ∧ Below w.heap.size w w8) := ⟨H7.out.1.below hb, H7.out.2.1.below hb, H7.out.2.2.1.below hb, H7.out.2.2.2.trans (hb.mono H7.out.2.2.2.size)⟩
            clear hb H7
            go_wp2_with fail
            refine (alikS_any m m _ _ w8 (HD.out _ _ _) H8.out.2.1 (by have := HL.out.2; omega)).mono ?_
            rintro e w9 ⟨rfl, hb⟩
            rw [samZ_self]
            have H9 : Hid (LsS w9 (.slice oa cj cap) l ∧ OwS 0 w9 (.slice oj cj cj) (l ++ m) ∧ Below w.heap.size w w9) := ⟨H8.out.1.below hb, H8.out.2.2.1.below hb, H8.out.2.2.2.trans (hb.mono H8.out.2.2.2.size)⟩
            clear hb H8
            go_wp2_with fail
            refine (HC.out.2.2.2.2 l (l ++ m) _ _ w9 H9.out.1 H9.out.2.1.lss (by have := HL.out.1; omega)).mono ?_
            rintro e w10 ⟨rfl, hb⟩
            rw [HSm.out]
            have HZ : Hid (Below w.heap.size w w10) := H9.out.2.2.trans (hb.mono H9.out.2.2.size)
            clear hb H9
            go_wp2
            go_ret
            exact ⟨rfl, HZ.out⟩
        · obtain ⟨g, rfl⟩ := HOj.out hcn
          have HD : Hid (∀ W, OwS 0 W (.slice (some ⟨g, 0, none⟩) (j + nm) cj) (l ++ m) → LsS W (.slice (some ⟨g, j * 15, none⟩) nm (cj - j)) m) := fun W h => by have q := row_drop h; rw [← HN.out.1, ← HN.out.2] at q; exact q
          have hcn2 : ¬ cj = j := hcn
          generalize hbq : ((nm : Int) == 0) = bq at *
          rcases HE2.out with rfl | rfl
          all_goals
            go_wp2_with fail
            refine (alikS_any l l _ _ w7 (HT.out _ H7.out.2.2.1) H7.out.1 (by have := HL.out.1; omega)).mono ?_
            rintro e w8 ⟨rfl, hb⟩
            rw [samZ_self]
            have H8 : Hid (LsS w8 (.slice oa j cap) l ∧ LsS w8 (.slice ob nm cbm) m ∧ OwS 0 w8 (.slice (some ⟨g, 0, none⟩) (j + nm) cj) (l ++ m) ∧ Below w.heap.size w w8) := ⟨H7.out.1.below hb, H7.out.2.1.below hb, H7.out.2.2.1.below hb, H7.out.2.2.2.trans (hb.mono H7.out.2.2.2.size)⟩
            clear hb H7
            go_wp2_with fail
            refine (alikS_any m m _ _ w8 (HD.out _ H8.out.2.2.1) H8.out.2.1 (by have := HL.out.2; omega)).mono ?_
            rintro e w9 ⟨rfl, hb⟩
            rw [samZ_self]
            have H9 : Hid (LsS w9 (.slice oa j cap) l ∧ OwS 0 w9 (.slice (some ⟨g, 0, none⟩) (j + nm) cj) (l ++ m) ∧ Below w.heap.size w w9) := ⟨H8.out.1.below hb, H8.out.2.2.1.below hb, H8.out.2.2.2.trans (hb.mono H8.out.2.2.2.size)⟩
            clear hb H8
            go_wp2_with fail
            refine (HC.out.2.2.2.2 l (l ++ m) _ _ w9 H9.out.1 H9.out.2.1.lss (by have := HL.out.1; omega)).mono ?_
            rintro e w10 ⟨rfl, hb⟩
            rw [HSm.out]
            have HZ : Hid (Below w.heap.size w w10) := H9.out.2.2.trans (hb.mono H9.out.2.2.size)
            clear hb H9
            go_wp2
            go_ret
            exact ⟨rfl, HZ.out⟩

end Go.Proofs.Ytbghjmkgicdnoaa
