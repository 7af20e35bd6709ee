/-
  Cells in plain words: what strokes make of a cell, place by place: each place is drawn by itself.
-/
import Derived.Test.YtapachlhdgehjaaGreatDoorK3
namespace Go.Proofs.YtapachlhdgehjaaGreatDoor

structure Ce where
  r : Int
  c : Co
  b : Co
  wd : Bool
  tl : Bool
structure Gl where
  r : Int
  wd : Bool
  tl : Bool
def coZ : Co := ⟨0, 0, 0, 0⟩
def frmR (r : Rc) (px py : Int) : Int :=
  if edgB r px py = false then 0
  else if r.w = 1 ∧ r.h = 1 then 9633
  else if r.w = 1 then 9474
  else if r.h = 1 then 9472
  else if px = r.x ∧ py = r.y then 9484
  else if px = r.x + r.w - 1 ∧ py = r.y then 9488
  else if px = r.x ∧ py = r.y + r.h - 1 then 9492
  else if px = r.x + r.w - 1 ∧ py = r.y + r.h - 1 then 9496
  else if py = r.y ∨ py = r.y + r.h - 1 then 9472
  else 9474
theorem frm_zero (r : Rc) (px py : Int) : frmR r px py = 0 ↔ edgB r px py = false := by
  unfold frmR
  constructor
  · intro h
    cases e : edgB r px py
    · rfl
    · rw [e, if_neg (by simp)] at h
      repeat (split at h <;> try (exact absurd h (by decide)))
  · intro h
    rw [if_pos h]
def glyA (g : List (List Gl)) (x y : Int) : Option Gl := if 0 ≤ x ∧ 0 ≤ y then ((g[y.toNat]?).getD [])[x.toNat]? else none
section
variable (wr : ByteArray → List (List Gl)) (ov : Co → Co → Co)
def madC (px py : Int) (c : Ce) (s : St) : Ce :=
  if s.k = 1 then (if s.c.a = 0 then c else if s.c.a = 255 then ⟨32, coZ, s.c, false, false⟩ else ⟨c.r, ov s.c c.c, ov s.c c.b, c.wd, c.tl⟩)
  else if s.k = 2 then (if frmR s.r px py ≠ 0 ∧ 0 < s.c.a then ⟨frmR s.r px py, ov s.c c.b, c.b, false, false⟩ else c)
  else if s.k = 3 then (match glyA (wr s.t) (px - s.r.x) (py - s.r.y) with
    | none => c
    | some g => ⟨g.r, ov s.c (ov s.b c.b), ov s.b c.b, g.wd, g.tl⟩)
  else c
def drwC (px py : Int) (c : Ce) (A : List (St × Rc)) : Ce := A.foldl (fun c p => if (drw p.1 && zHa p.2 px py) = true then madC wr ov px py c p.1 else c) c
variable {wr} {ov}
theorem drw_join (px py : Int) {l : List St} (h : clpE 0 l = 0) (m : List St) (c : Ce) : drwC wr ov px py c (ann [] (l ++ m)) = drwC wr ov px py (drwC wr ov px py c (ann [] l)) (ann [] m) := by
  have e : endC [] l = [] := end_und l [] [] h
  unfold drwC
  rw [ann_app, e, List.foldl_append]
theorem drw_fla (px py : Int) (A : List (St × Rc)) (c : Ce) : drwC wr ov px py c (A.filter fun p => drw p.1) = drwC wr ov px py c A := by
  unfold drwC
  induction A generalizing c with
  | nil => rfl
  | cons p A ih =>
    rw [List.filter_cons]
    cases hd : drw p.1
    · rw [if_neg (by simp), ih, List.foldl_cons, hd]
      rfl
    · rw [if_pos rfl, List.foldl_cons, List.foldl_cons, ih]
end

end Go.Proofs.YtapachlhdgehjaaGreatDoor
