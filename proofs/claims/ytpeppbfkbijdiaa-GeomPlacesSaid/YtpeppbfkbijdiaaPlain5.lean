/-
  Places are counted: the pieces beside what two rectangles have together are the whole, and lie where they should.
-/
import Derived.Test.YtpeppbfkbijdiaaPlain4
namespace Go.Proofs.Ytpeppbfkbijdiaa

def areaS : List Rc → Int
  | [] => 0
  | r :: l => areaI r.x r.y r.w r.h + areaS l
def pieceOK (ax ay aw ah bx by' bw bh : Int) (r : Rc) : Prop := emptyB r.x r.y r.w r.h = false ∧ inB r.x r.y r.w r.h ax ay aw ah = true ∧ overB r.x r.y r.w r.h bx by' bw bh = false

theorem in_mk {x y n m bx by' bw bh : Int} (e : emptyB bx by' bw bh = false) (h : emptyB x y n m = false) (h1 : bx ≤ x) (h2 : x + n ≤ bx + bw) (h3 : by' ≤ y) (h4 : y + m ≤ by' + bh) : inB x y n m bx by' bw bh = true := by
  obtain ⟨a1, a2, a3, a4, a5, a6, a7, a8, a9, a10⟩ := bounds_of h
  have hm : meetR x y n m bx by' bw bh = ⟨x, y, n, m⟩ := by
    unfold meetR
    rw [h, e]
    simp only [Bool.or_self, Bool.false_eq_true, if_false]
    rw [btw_yes (by omega) (by omega)]
    congr 1 <;> omega
  simp [inB, hm, eqB]
theorem in_iff {x y n m bx by' bw bh : Int} (e : emptyB bx by' bw bh = false) (h : emptyB x y n m = false) : inB x y n m bx by' bw bh = true ↔ (bx ≤ x ∧ x + n ≤ bx + bw ∧ by' ≤ y ∧ y + m ≤ by' + bh) := by
  obtain ⟨a1, a2, a3, a4, a5, a6, a7, a8, a9, a10⟩ := bounds_of h
  obtain ⟨b1, b2, b3, b4, b5, b6, b7, b8, b9, b10⟩ := bounds_of e
  constructor
  · intro hi
    unfold inB at hi
    rw [h, Bool.false_or] at hi
    unfold meetR at hi
    rw [h, e] at hi
    simp only [Bool.or_self, Bool.false_eq_true, if_false] at hi
    by_cases hc : min (x + n) (bx + bw) ≤ max x bx ∨ min (y + m) (by' + bh) ≤ max y by'
    · rw [btw_no hc] at hi
      simp [eqB, zr] at hi
      omega
    · rw [btw_yes (by omega) (by omega)] at hi
      simp [eqB] at hi
      omega
  · rintro ⟨h1, h2, h3, h4⟩
    exact in_mk e h h1 h2 h3 h4
theorem over_no {x y n m bx by' bw bh : Int} (h : emptyB x y n m = true ∨ emptyB bx by' bw bh = true ∨ x + n ≤ bx ∨ bx + bw ≤ x ∨ y + m ≤ by' ∨ by' + bh ≤ y) : overB x y n m bx by' bw bh = false := by
  have hm : meetR x y n m bx by' bw bh = zr := by
    unfold meetR
    cases h1 : emptyB x y n m
    · cases h2 : emptyB bx by' bw bh
      · obtain ⟨a1, a2, a3, a4, a5, a6, a7, a8, a9, a10⟩ := bounds_of h1
        obtain ⟨b1, b2, b3, b4, b5, b6, b7, b8, b9, b10⟩ := bounds_of h2
        rw [h1, h2] at h
        simp only [Bool.or_self, Bool.false_eq_true, if_false]
        refine btw_no ?_
        simp at h
        omega
      · simp
    · simp
  simp [overB, hm, eqB, zr]
theorem area_btw {lx ly hx hy : Int} (h1 : lx ≤ hx) (h2 : ly ≤ hy) (b1 : -16384 ≤ lx) (b2 : hx ≤ 16384) (b3 : -16384 ≤ ly) (b4 : hy ≤ 16384) : areaI (btw lx ly hx hy).x (btw lx ly hx hy).y (btw lx ly hx hy).w (btw lx ly hx hy).h = (hx - lx) * (hy - ly) := by
  by_cases c : hx ≤ lx ∨ hy ≤ ly
  · rw [btw_no c, show areaI zr.x zr.y zr.w zr.h = 0 from rfl]
    rcases c with c | c
    · rw [show hx - lx = 0 by omega]; simp
    · rw [show hy - ly = 0 by omega]; simp
  · rw [btw_yes (by omega) (by omega)]
    have e : emptyB lx ly (hx - lx) (hy - ly) = false := empty_mk (by omega) (by omega)
    simp [areaI, e]
theorem keep_btw (lx ly hx hy : Int) : keepB (btw lx ly hx hy) = true ↔ (lx < hx ∧ ly < hy) := by
  by_cases c : hx ≤ lx ∨ hy ≤ ly
  · rw [btw_no c]
    simp [keepB, eqB, zr]
    omega
  · rw [btw_yes (by omega) (by omega)]
    simp [keepB, eqB]
    omega
theorem areaS_keep (l : List Rc) (h : ∀ r ∈ l, keepB r = false → areaI r.x r.y r.w r.h = 0) : areaS (l.filter keepB) = areaS l := by
  induction l with
  | nil => rfl
  | cons r l ih =>
    have ih := ih fun s hs => h s (List.mem_cons_of_mem _ hs)
    rw [List.filter_cons]
    cases hk : keepB r
    · rw [if_neg (by simp)]
      show _ = areaI r.x r.y r.w r.h + areaS l
      rw [ih, h r (List.mem_cons_self ..) hk]; omega
    · rw [if_pos rfl]
      show areaI r.x r.y r.w r.h + areaS (l.filter keepB) = areaI r.x r.y r.w r.h + areaS l
      rw [ih]
theorem drop_zero (lx ly hx hy : Int) (h : keepB (btw lx ly hx hy) = false) : areaI (btw lx ly hx hy).x (btw lx ly hx hy).y (btw lx ly hx hy).w (btw lx ly hx hy).h = 0 := by
  have : btw lx ly hx hy = zr := by
    refine btw_no ?_
    have := keep_btw lx ly hx hy
    rw [h] at this
    simp at this
    omega
  rw [this]; rfl
theorem cut_sum (l r w t s h : Int) : w * h + (((l + w + r) * t) + (l * h + (r * h + (l + w + r) * s))) = (l + w + r) * (t + h + s) := by
  simp only [Int.add_mul, Int.mul_add]
  omega

end Go.Proofs.Ytpeppbfkbijdiaa
