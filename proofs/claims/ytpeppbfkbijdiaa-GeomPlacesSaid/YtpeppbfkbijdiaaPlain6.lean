/-
  The plain law of GeomAreas.
-/
import Derived.Test.YtpeppbfkbijdiaaPlain5
namespace Go.Proofs.Ytpeppbfkbijdiaa

theorem in_empty {x y n m bx by' bw bh : Int} (h : emptyB x y n m = true) : inB x y n m bx by' bw bh = true := by simp [inB, h]
theorem in_self (x y n m : Int) : inB x y n m x y n m = true := by
  cases h : emptyB x y n m
  · exact in_mk h h (by omega) (by omega) (by omega) (by omega)
  · exact in_empty h
theorem area_empty {x y n m : Int} (h : emptyB x y n m = true) : areaI x y n m = 0 := by simp [areaI, h]
theorem area_full {x y n m : Int} (h : emptyB x y n m = false) : areaI x y n m = n * m := by simp [areaI, h]

/-- Both lie in their Join, which may be. -/
theorem join_ok {ax ay aw ah bx by' bw bh : Int} (ha : mayB ax ay aw ah = true) (hb : mayB bx by' bw bh = true) :
    inB ax ay aw ah (joinR ax ay aw ah bx by' bw bh).x (joinR ax ay aw ah bx by' bw bh).y (joinR ax ay aw ah bx by' bw bh).w (joinR ax ay aw ah bx by' bw bh).h = true ∧
    inB bx by' bw bh (joinR ax ay aw ah bx by' bw bh).x (joinR ax ay aw ah bx by' bw bh).y (joinR ax ay aw ah bx by' bw bh).w (joinR ax ay aw ah bx by' bw bh).h = true ∧
    mayB (joinR ax ay aw ah bx by' bw bh).x (joinR ax ay aw ah bx by' bw bh).y (joinR ax ay aw ah bx by' bw bh).w (joinR ax ay aw ah bx by' bw bh).h = true := by
  cases h1 : emptyB ax ay aw ah
  · cases h2 : emptyB bx by' bw bh
    · obtain ⟨a1, a2, a3, a4, a5, a6, a7, a8, a9, a10⟩ := bounds_of h1
      obtain ⟨b1, b2, b3, b4, b5, b6, b7, b8, b9, b10⟩ := bounds_of h2
      have hj : joinR ax ay aw ah bx by' bw bh = ⟨min ax bx, min ay by', max (ax + aw) (bx + bw) - min ax bx, max (ay + ah) (by' + bh) - min ay by'⟩ := by
        simp only [joinR, h1, h2, Bool.false_eq_true, if_false]
        exact btw_yes (by omega) (by omega)
      rw [hj]
      have e : emptyB (min ax bx) (min ay by') (max (ax + aw) (bx + bw) - min ax bx) (max (ay + ah) (by' + bh) - min ay by') = false := empty_mk (by omega) (by omega)
      refine ⟨in_mk e h1 ?_ ?_ ?_ ?_, in_mk e h2 ?_ ?_ ?_ ?_, may_of e⟩ <;> simp only <;> omega
    · have hj : joinR ax ay aw ah bx by' bw bh = ⟨ax, ay, aw, ah⟩ := by simp [joinR, h1, h2]
      rw [hj]
      exact ⟨in_self _ _ _ _, in_empty h2, ha⟩
  · cases h2 : emptyB bx by' bw bh
    · have hj : joinR ax ay aw ah bx by' bw bh = ⟨bx, by', bw, bh⟩ := by simp [joinR, h1, h2]
      rw [hj]
      exact ⟨in_empty h1, in_self _ _ _ _, hb⟩
    · have hj : joinR ax ay aw ah bx by' bw bh = zr := by simp [joinR, h1, h2]
      rw [hj]
      exact ⟨in_empty h1, in_empty h2, rfl⟩

/-- The pieces, what both have, and how many there are. -/
theorem less_ok {ax ay aw ah bx by' bw bh : Int} (ha : mayB ax ay aw ah = true) (hb : mayB bx by' bw bh = true) :
    (∀ r ∈ lesL ax ay aw ah bx by' bw bh, pieceOK ax ay aw ah bx by' bw bh r) ∧
    areaI (meetR ax ay aw ah bx by' bw bh).x (meetR ax ay aw ah bx by' bw bh).y (meetR ax ay aw ah bx by' bw bh).w (meetR ax ay aw ah bx by' bw bh).h + areaS (lesL ax ay aw ah bx by' bw bh) = areaI ax ay aw ah ∧
    inB ax ay aw ah bx by' bw bh = decide ((lesL ax ay aw ah bx by' bw bh).length = 0) := by
  cases h1 : emptyB ax ay aw ah
  case true =>
    have hl : lesL ax ay aw ah bx by' bw bh = [] := by simp [lesL, h1]
    have hm : meetR ax ay aw ah bx by' bw bh = zr := by simp [meetR, h1]
    rw [hl, hm, area_empty h1, in_empty h1]
    exact ⟨fun r hr => by simp at hr, rfl, rfl⟩
  case false =>
  obtain ⟨a1, a2, a3, a4, a5, a6, a7, a8, a9, a10⟩ := bounds_of h1
  -- where they have nothing together, the first one is the only piece
  have apart : (emptyB bx by' bw bh = true ∨ ax + aw ≤ bx ∨ bx + bw ≤ ax ∨ ay + ah ≤ by' ∨ by' + bh ≤ ay) → meetR ax ay aw ah bx by' bw bh = zr → (∀ r ∈ lesL ax ay aw ah bx by' bw bh, pieceOK ax ay aw ah bx by' bw bh r) ∧
      areaI (meetR ax ay aw ah bx by' bw bh).x (meetR ax ay aw ah bx by' bw bh).y (meetR ax ay aw ah bx by' bw bh).w (meetR ax ay aw ah bx by' bw bh).h + areaS (lesL ax ay aw ah bx by' bw bh) = areaI ax ay aw ah ∧
      inB ax ay aw ah bx by' bw bh = decide ((lesL ax ay aw ah bx by' bw bh).length = 0) := by
    intro hd hm
    have hl : lesL ax ay aw ah bx by' bw bh = [⟨ax, ay, aw, ah⟩] := by
      have : eqB zr 0 0 0 0 = true := rfl
      simp [lesL, h1, ha, hb, hm, this]
    have hi : inB ax ay aw ah bx by' bw bh = false := by
      simp only [inB, h1, hm, eqB, zr, Bool.false_or]
      have : ((0 : Int) == aw) = false := beq_eq_false_iff_ne.2 (by omega)
      rw [this]; simp
    rw [hl, hm, hi]
    refine ⟨fun r hr => ?_, ?_, rfl⟩
    · have : r = ⟨ax, ay, aw, ah⟩ := by simpa using hr
      subst this
      exact ⟨h1, in_self _ _ _ _, over_no (.inr hd)⟩
    · show areaI zr.x zr.y zr.w zr.h + (areaI ax ay aw ah + 0) = _
      rw [show areaI zr.x zr.y zr.w zr.h = 0 from rfl]; omega
  cases h2 : emptyB bx by' bw bh
  case true => exact apart (.inl h2) (by simp [meetR, h2])
  case false =>
  obtain ⟨b1, b2, b3, b4, b5, b6, b7, b8, b9, b10⟩ := bounds_of h2
  have hm0 : meetR ax ay aw ah bx by' bw bh = btw (max ax bx) (max ay by') (min (ax + aw) (bx + bw)) (min (ay + ah) (by' + bh)) := by simp [meetR, h1, h2]
  by_cases hc : min (ax + aw) (bx + bw) ≤ max ax bx ∨ min (ay + ah) (by' + bh) ≤ max ay by'
  · exact apart (.inr (by omega)) (by rw [hm0]; exact btw_no hc)
  · rw [btw_yes (by omega) (by omega)] at hm0
    obtain ⟨mx, hmx⟩ : ∃ v, v = max ax bx := ⟨_, rfl⟩
    obtain ⟨my, hmy⟩ : ∃ v, v = max ay by' := ⟨_, rfl⟩
    obtain ⟨ex, hex⟩ : ∃ v, v = min (ax + aw) (bx + bw) := ⟨_, rfl⟩
    obtain ⟨ey, hey⟩ : ∃ v, v = min (ay + ah) (by' + bh) := ⟨_, rfl⟩
    rw [← hmx, ← hmy, ← hex, ← hey] at hm0
    have hl : lesL ax ay aw ah bx by' bw bh = (pcs ax ay aw ah mx my (ex - mx) (ey - my)).filter keepB := by
      have : eqB ⟨mx, my, ex - mx, ey - my⟩ 0 0 0 0 = false := by
        have : ((ex - mx) == (0 : Int)) = false := beq_eq_false_iff_ne.2 (by omega)
        simp only [eqB, this]; simp
      simp only [lesL, h1, ha, hb, hm0, this]; simp
    have e1 : mx + (ex - mx) = ex := by omega
    have e2 : my + (ey - my) = ey := by omega
    have hp : pcs ax ay aw ah mx my (ex - mx) (ey - my) = [btw ax ay (ax + aw) my, btw ax my mx ey, btw ex my (ax + aw) ey, btw ax ey (ax + aw) (ay + ah)] := by
      unfold pcs; rw [e1, e2]
    rw [hl, hp, hm0]
    have ok : ∀ lx ly hx hy : Int, ax ≤ lx → hx ≤ ax + aw → ay ≤ ly → hy ≤ ay + ah → (hx ≤ bx ∨ bx + bw ≤ lx ∨ hy ≤ by' ∨ by' + bh ≤ ly) → keepB (btw lx ly hx hy) = true → pieceOK ax ay aw ah bx by' bw bh (btw lx ly hx hy) := by
      intro lx ly hx hy q1 q2 q3 q4 q5 hk
      obtain ⟨k1, k2⟩ := (keep_btw lx ly hx hy).1 hk
      rw [btw_yes k1 k2]
      have e : emptyB lx ly (hx - lx) (hy - ly) = false := empty_mk (by omega) (by omega)
      have i1 : inB lx ly (hx - lx) (hy - ly) ax ay aw ah = true := in_mk h1 e (by omega) (by omega) (by omega) (by omega)
      have i2 : overB lx ly (hx - lx) (hy - ly) bx by' bw bh = false := over_no (.inr (.inr (by omega)))
      exact ⟨e, i1, i2⟩
    refine ⟨fun r hr => ?_, ?_, ?_⟩
    · rw [List.mem_filter] at hr
      obtain ⟨hr, hk⟩ := hr
      simp only [List.mem_cons, List.not_mem_nil, or_false] at hr
      rcases hr with rfl | rfl | rfl | rfl
      · exact ok _ _ _ _ (by omega) (by omega) (by omega) (by omega) (by have := (keep_btw _ _ _ _).1 hk; omega) hk
      · exact ok _ _ _ _ (by omega) (by omega) (by omega) (by omega) (by have := (keep_btw _ _ _ _).1 hk; omega) hk
      · exact ok _ _ _ _ (by omega) (by omega) (by omega) (by omega) (by have := (keep_btw _ _ _ _).1 hk; omega) hk
      · exact ok _ _ _ _ (by omega) (by omega) (by omega) (by omega) (by have := (keep_btw _ _ _ _).1 hk; omega) hk
    · rw [areaS_keep _ (fun r hr hk => by
        simp only [List.mem_cons, List.not_mem_nil, or_false] at hr
        rcases hr with rfl | rfl | rfl | rfl <;> exact drop_zero _ _ _ _ hk)]
      show areaI mx my (ex - mx) (ey - my) + (areaI _ _ _ _ + (areaI _ _ _ _ + (areaI _ _ _ _ + (areaI _ _ _ _ + 0)))) = _
      rw [area_btw (by omega) (by omega) (by omega) (by omega) (by omega) (by omega), area_btw (by omega) (by omega) (by omega) (by omega) (by omega) (by omega), area_btw (by omega) (by omega) (by omega) (by omega) (by omega) (by omega), area_btw (by omega) (by omega) (by omega) (by omega) (by omega) (by omega), area_full h1, area_full (empty_mk (by omega) (by omega))]
      have := cut_sum (mx - ax) (ax + aw - ex) (ex - mx) (my - ay) (ay + ah - ey) (ey - my)
      rw [show mx - ax + (ex - mx) + (ax + aw - ex) = aw by omega, show my - ay + (ey - my) + (ay + ah - ey) = ah by omega] at this
      rw [show ax + aw - ax = aw by omega, Int.add_zero]
      exact this
    · rw [Bool.eq_iff_iff, in_iff h2 h1]
      simp only [decide_eq_true_eq, List.length_eq_zero_iff, List.filter_eq_nil_iff, List.mem_cons, List.not_mem_nil, or_false]
      constructor
      · rintro ⟨q1, q2, q3, q4⟩ r hr hk
        rcases hr with rfl | rfl | rfl | rfl <;> (have := (keep_btw _ _ _ _).1 hk; omega)
      · intro hq
        have k0 : ¬ (ax < ax + aw ∧ ay < my) := fun h => hq _ (.inl rfl) ((keep_btw ax ay (ax + aw) my).2 h)
        have k1 : ¬ (ax < mx ∧ my < ey) := fun h => hq _ (.inr (.inl rfl)) ((keep_btw ax my mx ey).2 h)
        have k2 : ¬ (ex < ax + aw ∧ my < ey) := fun h => hq _ (.inr (.inr (.inl rfl))) ((keep_btw ex my (ax + aw) ey).2 h)
        have k3 : ¬ (ax < ax + aw ∧ ey < ay + ah) := fun h => hq _ (.inr (.inr (.inr rfl))) ((keep_btw ax ey (ax + aw) (ay + ah)).2 h)
        omega

end Go.Proofs.Ytpeppbfkbijdiaa
