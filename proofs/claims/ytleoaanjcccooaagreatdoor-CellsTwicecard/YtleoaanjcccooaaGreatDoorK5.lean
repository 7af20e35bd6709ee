/-
  Cells in plain words: what strokes make of a cell, place by place: each place is drawn by itself.
-/
import Derived.Test.YtleoaanjcccooaaGreatDoorK4
namespace Go.Proofs.YtleoaanjcccooaaGreatDoor

/-- A cell. -/
structure Ce where
  r : Int
  c : Co
  b : Co
  wd : Bool
  tl : Bool
/-- What lies in a place of a text. -/
structure Gl where
  r : Int
  wd : Bool
  tl : Bool
def coZ : Co := ⟨0, 0, 0, 0⟩
/-- A frame's rune at a place; 0: none. -/
def frmR (r : Rc) (px py : Int) : Int :=
  if edgB r px py = false then 0
  else if r.w = 1 ∧ r.h = 1 then 9633
  else if r.w = 1 then 9474
  else if r.h = 1 then 9472
  else if px = r.x ∧ py = r.y then 9484
  else if px = r.x + r.w - 1 ∧ py = r.y then 9488
  else if px = r.x ∧ py = r.y + r.h - 1 then 9492
  else if px = r.x + r.w - 1 ∧ py = r.y + r.h - 1 then 9496
  else if py = r.y ∨ py = r.y + r.h - 1 then 9472
  else 9474
theorem frm_zero (r : Rc) (px py : Int) : frmR r px py = 0 ↔ edgB r px py = false := by
  unfold frmR
  constructor
  · intro h
    cases e : edgB r px py
    · rfl
    · rw [e, if_neg (by simp)] at h
      repeat (split at h <;> try (exact absurd h (by decide)))
  · intro h
    rw [if_pos h]
/-- What lies of a text at a place, its rows being told. -/
def glyA (g : List (List Gl)) (x y : Int) : Option Gl := if 0 ≤ x ∧ 0 ≤ y then ((g[y.toNat]?).getD [])[x.toNat]? else none
section
variable (wr : ByteArray → List (List Gl)) (ov : Co → Co → Co)
/-- What a stroke makes of a cell. -/
def madC (px py : Int) (c : Ce) (s : St) : Ce :=
  if s.k = 1 then (if s.c.a = 0 then c else if s.c.a = 255 then ⟨32, coZ, s.c, false, false⟩ else ⟨c.r, ov s.c c.c, ov s.c c.b, c.wd, c.tl⟩)
  else if s.k = 2 then (if frmR s.r px py ≠ 0 ∧ 0 < s.c.a then ⟨frmR s.r px py, ov s.c c.b, c.b, false, false⟩ else c)
  else if s.k = 3 then (match glyA (wr s.t) (px - s.r.x) (py - s.r.y) with
    | none => c
    | some g => ⟨g.r, ov s.c (ov s.b c.b), ov s.b c.b, g.wd, g.tl⟩)
  else c
/-- A cell behind all strokes that show there. -/
def drwC (px py : Int) (c : Ce) (A : List (St × Rc)) : Ce := A.foldl (fun c p => if (drw p.1 && zHa p.2 px py) = true then madC wr ov px py c p.1 else c) c
/-- Nothing lies of a text that is empty. -/
def WrOk : Prop := ∀ t : ByteArray, t.size = 0 → ∀ x y, glyA (wr t) x y = none
variable {wr} {ov}
theorem mad_not (hwr : WrOk wr) {px py : Int} {s : St} (hk : s.k = 1 ∨ s.k = 2 ∨ s.k = 3 ∨ s.k = 4 ∨ s.k = 5) (h : cnd px py s = false) (c : Ce) : madC wr ov px py c s = c := by
  unfold cnd at h
  unfold madC
  rcases hk with k | k | k | k | k
  · rw [if_pos k] at h ⊢
    rw [if_pos (by simpa using h)]
  · rw [if_neg (by omega), if_pos k] at h ⊢
    rw [if_neg]
    rintro ⟨h1, h2⟩
    have e0 : (s.c.a == 0) = false := beq_eq_false_iff_ne.2 (by omega)
    rw [e0, Bool.not_false, Bool.true_and] at h
    exact h1 ((frm_zero _ _ _).2 h)
  · rw [if_neg (by omega), if_neg (by omega), if_pos k] at h ⊢
    rw [hwr s.t (by simpa using h)]
  · rw [if_neg (by omega), if_neg (by omega), if_neg (by omega)]
  · rw [if_neg (by omega), if_neg (by omega), if_neg (by omega)]
theorem mad_opq {px py : Int} {s : St} (h : opq s = true) (c d : Ce) : madC wr ov px py c s = madC wr ov px py d s := by
  unfold opq at h
  simp only [Bool.and_eq_true, beq_iff_eq] at h
  unfold madC
  simp only [h.1, if_true, h.2]
  rfl
/-- The strokes that show at a place, one by one. -/
def stpC (wr : ByteArray → List (List Gl)) (ov : Co → Co → Co) (px py : Int) (c : Ce) (l : List (St × Bool)) : Ce := l.foldl (fun c p => if dH px py p = true then madC wr ov px py c p.1 else c) c
theorem stp_any {px py : Int} : ∀ (l : List (St × Bool)), l.any oH = true → ∀ c d : Ce, stpC wr ov px py c l = stpC wr ov px py d l
  | [], h, _, _ => by cases h
  | p :: t, h, c, d => by
    rw [List.any_cons] at h
    unfold stpC
    rw [List.foldl_cons, List.foldl_cons]
    cases e : oH p
    · rw [e, Bool.false_or] at h
      exact stp_any t h _ _
    · have hd : dH px py p = true := oH_dH e
      rw [if_pos hd, if_pos hd]
      have ho : opq p.1 = true := by
        unfold oH at e
        exact (Bool.and_eq_true_iff.1 e).2
      rw [mad_opq ho c d]
theorem stp_out (px py : Int) : ∀ (l : List (St × Bool)) (c : Ce), stpC wr ov px py c l = (outH px py l).foldl (madC wr ov px py) c
  | [], _ => rfl
  | p :: t, c => by
    have e : stpC wr ov px py c (p :: t) = stpC wr ov px py (if dH px py p = true then madC wr ov px py c p.1 else c) t := rfl
    rw [e, outH]
    cases hd : dH px py p
    · rw [if_neg (by simp), if_neg (by simp)]
      exact stp_out px py t c
    · rw [if_pos rfl]
      cases ho : t.any oH
      · rw [if_pos (by rfl), List.foldl_cons]
        exact stp_out px py t _
      · rw [if_neg (by simp), stp_any t ho _ c]
        exact stp_out px py t c
theorem drw_stp (hwr : WrOk wr) (px py : Int) : ∀ (A : List (St × Rc)) (c : Ce), (∀ p ∈ A, p.1.k = 1 ∨ p.1.k = 2 ∨ p.1.k = 3 ∨ p.1.k = 4 ∨ p.1.k = 5) → drwC wr ov px py c A = stpC wr ov px py c (A.map (hs px py))
  | [], _, _ => rfl
  | p :: A, c, hk => by
    have e1 : drwC wr ov px py c (p :: A) = drwC wr ov px py (if (drw p.1 && zHa p.2 px py) = true then madC wr ov px py c p.1 else c) A := rfl
    have e2 : stpC wr ov px py c ((p :: A).map (hs px py)) = stpC wr ov px py (if dH px py (hs px py p) = true then madC wr ov px py c p.1 else c) (A.map (hs px py)) := rfl
    have e3 : (if (drw p.1 && zHa p.2 px py) = true then madC wr ov px py c p.1 else c) = (if dH px py (hs px py p) = true then madC wr ov px py c p.1 else c) := by
      have hp := hk p List.mem_cons_self
      show _ = (if (zHa p.2 px py && cnd px py p.1) = true then _ else _)
      cases hz : zHa p.2 px py
      · rw [Bool.and_false, Bool.false_and]
      · rw [Bool.and_true, Bool.true_and]
        cases hc : cnd px py p.1
        · rw [if_neg (c := false = true) (by simp)]
          split
          · exact mad_not hwr hp hc c
          · rfl
        · have hd : drw p.1 = true := by
            unfold cnd at hc
            unfold drw
            rcases hp with k | k | k | k | k
            · simp [k]
            · simp [k]
            · simp [k]
            · rw [if_neg (by omega), if_neg (by omega), if_neg (by omega)] at hc; cases hc
            · rw [if_neg (by omega), if_neg (by omega), if_neg (by omega)] at hc; cases hc
          rw [hd]
    rw [e1, e2, e3]
    exact drw_stp hwr px py A _ fun q hq => hk q (List.mem_cons_of_mem p hq)
theorem ann_kd : ∀ (l : List St) (cs : List Rc) (n : Nat), clpE n l = 0 → ∀ p ∈ ann cs l, p.1.k = 1 ∨ p.1.k = 2 ∨ p.1.k = 3 ∨ p.1.k = 4 ∨ p.1.k = 5
  | [], _, _, _, p, hp => by cases hp
  | s :: l, cs, n, h, p, hp => by
    obtain ⟨h1, h2, h3⟩ := clpE_cons h
    rcases List.mem_cons.1 (show p ∈ (s, shR cs s) :: ann (nxC cs s) l from hp) with rfl | hp
    · exact (oneE_zero h1).2.1
    · exact ann_kd l _ _ h3 p hp
/-- A cell behind a list: by what shows there, from the last opaque Fill on. -/
theorem drw_at (hwr : WrOk wr) (px py : Int) {l : List St} (h : clpE 0 l = 0) (ha : APos l) (c : Ce) : drwC wr ov px py c (ann [] l) = (atL px py l).foldl (madC wr ov px py) c := by
  rw [drw_stp hwr px py _ c (ann_kd l [] 0 h), stp_out, atL_ann px py h ha]
/-- Norm draws the same. -/
theorem drw_nor (hwr : WrOk wr) (px py : Int) {l : List St} (h : clpE 0 l = 0) (ha : APos l) (c : Ce) : drwC wr ov px py c (ann [] (norL l)) = drwC wr ov px py c (ann [] l) := by
  rw [drw_at hwr px py h ha, drw_at hwr px py (norL_clp h) (ha.sub (norL_sub l)), at_norL px py h ha]
/-- Within draws the same there, and nothing elsewhere. -/
theorem drw_wit (hwr : WrOk wr) (px py : Int) {l : List St} (h : clpE 0 l = 0) (ha : APos l) {F : List Rc} (hF : ∀ q ∈ F, zEm q = false) (hc : cntR px py F ≤ 1) (c : Ce) :
    drwC wr ov px py c (ann [] (witA l F)) = if F.any (fun q => zHa q px py) = true then drwC wr ov px py c (ann [] l) else c := by
  rw [drw_at hwr px py (wit_clp h hF) (wit_pos ha F), at_wit px py h ha hF hc]
  split
  · rw [drw_at hwr px py h ha]
  · rfl
/-- One list behind another one. -/
theorem drw_join (px py : Int) {l : List St} (h : clpE 0 l = 0) (m : List St) (c : Ce) : drwC wr ov px py c (ann [] (l ++ m)) = drwC wr ov px py (drwC wr ov px py c (ann [] l)) (ann [] m) := by
  have e : endC [] l = [] := end_und l [] [] h
  unfold drwC
  rw [ann_app, e, List.foldl_append]
/-- Those that draw alone. -/
theorem drw_fla (px py : Int) (A : List (St × Rc)) (c : Ce) : drwC wr ov px py c (A.filter fun p => drw p.1) = drwC wr ov px py c A := by
  unfold drwC
  induction A generalizing c with
  | nil => rfl
  | cons p A ih =>
    rw [List.filter_cons]
    cases hd : drw p.1
    · rw [if_neg (by simp), ih, List.foldl_cons, hd]
      rfl
    · rw [if_pos rfl, List.foldl_cons, List.foldl_cons, ih]
end

end Go.Proofs.YtleoaanjcccooaaGreatDoor
