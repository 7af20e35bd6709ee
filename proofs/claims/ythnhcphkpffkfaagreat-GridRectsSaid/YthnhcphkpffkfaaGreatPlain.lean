/-
  The plain mathematics of rectangles: no program in sight.
-/
namespace Go.Proofs.YthnhcphkpffkfaaGreat

structure Rc where
  x : Int
  y : Int
  w : Int
  h : Int

def I64 (n : Int) : Prop := -9223372036854775808 ≤ n ∧ n ≤ 9223372036854775807
def spanB (p n : Int) : Bool := decide (0 ≤ n) && (decide (-16384 ≤ p) && decide (n ≤ 16384 - p))
def mayB (x y w h : Int) : Bool := spanB x w && spanB y h
def chk (x y w h : Int) : Int := if mayB x y w h = true then 0 else 5
def emptyB (x y w h : Int) : Bool := !mayB x y w h || (w == 0 || h == 0)
def zr : Rc := ⟨0, 0, 0, 0⟩
def btw (lx ly hx hy : Int) : Rc := if hx ≤ lx ∨ hy ≤ ly then zr else ⟨lx, ly, hx - lx, hy - ly⟩
def witB (n lo hi : Int) : Bool := decide (lo ≤ n) && decide (n ≤ hi)
def cornB (x y : Int) : Bool := witB x (-16384) 16384 && witB y (-16384) 16384

theorem chain4 (p q r s : Bool) : p = false ∨ (p = true ∧ q = false) ∨ (p = true ∧ q = true ∧ r = false) ∨ (p = true ∧ q = true ∧ r = true ∧ s = false) ∨ (p = true ∧ q = true ∧ r = true ∧ s = true) := by
  cases p <;> cases q <;> cases r <;> cases s <;> simp

theorem span_iff {p n : Int} : spanB p n = true ↔ 0 ≤ n ∧ -16384 ≤ p ∧ n ≤ 16384 - p := by
  unfold spanB; simp
theorem may_iff {x y w h : Int} : mayB x y w h = true ↔ (0 ≤ w ∧ -16384 ≤ x ∧ w ≤ 16384 - x) ∧ (0 ≤ h ∧ -16384 ≤ y ∧ h ≤ 16384 - y) := by
  unfold mayB; rw [Bool.and_eq_true, span_iff, span_iff]
theorem wit_iff {n lo hi : Int} : witB n lo hi = true ↔ lo ≤ n ∧ n ≤ hi := by
  unfold witB; simp
theorem chk_ne (x y w h : Int) : (chk x y w h != 0) = !mayB x y w h := by
  unfold chk; cases mayB x y w h <;> rfl
theorem chk_eq (x y w h : Int) : (chk x y w h == 0) = mayB x y w h := by
  unfold chk; cases mayB x y w h <;> rfl
theorem btw_yes {lx ly hx hy : Int} (h1 : lx < hx) (h2 : ly < hy) : btw lx ly hx hy = ⟨lx, ly, hx - lx, hy - ly⟩ := by
  unfold btw; rw [if_neg (by omega)]
theorem btw_no {lx ly hx hy : Int} (h : hx ≤ lx ∨ hy ≤ ly) : btw lx ly hx hy = zr := by
  unfold btw; rw [if_pos h]

def meetR (ax ay aw ah bx by' bw bh : Int) : Rc :=
  if (emptyB ax ay aw ah || emptyB bx by' bw bh) = true then zr else btw (max ax bx) (max ay by') (min (ax + aw) (bx + bw)) (min (ay + ah) (by' + bh))
def hasB (x y w h px py : Int) : Bool := !emptyB x y w h && (decide (x ≤ px) && (decide (px < x + w) && (decide (y ≤ py) && decide (py < y + h))))
def areaI (x y w h : Int) : Int := if emptyB x y w h = true then 0 else w * h
theorem bounds_of {x y w h : Int} (e : emptyB x y w h = false) : -16384 ≤ x ∧ x ≤ 16384 ∧ -16384 ≤ y ∧ y ≤ 16384 ∧ 0 < w ∧ w ≤ 32768 ∧ 0 < h ∧ h ≤ 32768 ∧ x + w ≤ 16384 ∧ y + h ≤ 16384 := by
  unfold emptyB at e
  simp only [Bool.or_eq_false_iff, Bool.not_eq_false'] at e
  obtain ⟨e1, e2, e3⟩ := e
  rw [may_iff] at e1
  have e2 := beq_eq_false_iff_ne.1 e2
  have e3 := beq_eq_false_iff_ne.1 e3
  omega

theorem span_ref (p n : Int) (h : witB p (-16384) 16384 = true) (k : witB n 0 32768 = true) : spanB p n = decide (p + n ≤ 16384) := by
  rw [wit_iff] at h k
  rw [Bool.eq_iff_iff, span_iff]
  simp
  omega
theorem span_no1 (p n : Int) (h : witB p (-16384) 16384 = false) : spanB p n = false := by
  rw [Bool.eq_false_iff] at h ⊢
  intro e
  rw [span_iff] at e
  exact h (wit_iff.2 (by omega))
theorem span_no2 (p n : Int) (_h : witB p (-16384) 16384 = true) (k : witB n 0 32768 = false) : spanB p n = false := by
  rw [Bool.eq_false_iff] at k ⊢
  intro e
  rw [span_iff] at e
  exact k (wit_iff.2 (by omega))
def mkB (ax ay bx by' : Int) : Bool := cornB ax ay && cornB bx by'
def mkR (ax ay bx by' : Int) : Rc := if mkB ax ay bx by' = true then btw (min ax bx) (min ay by') (max ax bx) (max ay by') else zr
def mkE (ax ay bx by' : Int) : Int := if mkB ax ay bx by' = true then 0 else 2

def szR (o : Rc) : Rc := if mayB o.x o.y o.w o.h = true then o else zr
def szE (o : Rc) : Int := if mayB o.x o.y o.w o.h = true then 0 else 9
def insR (x y n m k : Int) : Rc := if (mayB x y n m && (witB k (-16384) 16384 && !emptyB x y n m)) = true then szR (btw (x + k) (y + k) (x + n - k) (y + m - k)) else zr
def insE (x y n m k : Int) : Int := if mayB x y n m = false then 5 else if witB k (-16384) 16384 = false then 2 else if emptyB x y n m = true then 0 else szE (btw (x + k) (y + k) (x + n - k) (y + m - k))
def movR (x y n m p q : Int) : Rc := if (!emptyB x y n m && (witB p (-32768) 32768 && witB q (-32768) 32768)) = true then szR ⟨x + p, y + q, n, m⟩ else zr
def movE (x y n m p q : Int) : Int := if mayB x y n m = false then 5 else if emptyB x y n m = true then 0 else if (witB p (-32768) 32768 && witB q (-32768) 32768) = true then szE ⟨x + p, y + q, n, m⟩ else 9
def begI (p room len way : Int) : Int := if way = 1 then p + (room - len) / 2 else if way = 2 then p + (room - len) else p
def aliB (n m ux uy : Int) : Bool := witB n 0 32768 && (witB m 0 32768 && (!decide (2 < ux) && !decide (2 < uy)))
def aliO (x y n m sw sh ux uy : Int) : Rc := ⟨begI x n sw ux, begI y m sh uy, sw, sh⟩
def aliR (x y n m sw sh ux uy : Int) : Rc := if (mayB x y n m && (aliB sw sh ux uy && (!(sw == 0) && !(sh == 0)))) = true then szR (aliO x y n m sw sh ux uy) else zr
def aliE (x y n m sw sh ux uy : Int) : Int := if mayB x y n m = false then 5 else if aliB sw sh ux uy = false then 2 else if (sw == 0 || sh == 0) = true then 0 else szE (aliO x y n m sw sh ux uy)
theorem may_of {x y w h : Int} (e : emptyB x y w h = false) : mayB x y w h = true := by
  unfold emptyB at e
  simp only [Bool.or_eq_false_iff, Bool.not_eq_false'] at e
  exact e.1
theorem may_bd {x y w h : Int} (e : mayB x y w h = true) : -16384 ≤ x ∧ x ≤ 16384 ∧ -16384 ≤ y ∧ y ≤ 16384 ∧ 0 ≤ w ∧ w ≤ 32768 ∧ 0 ≤ h ∧ h ≤ 32768 := by
  rw [may_iff] at e
  omega
theorem btw_bd (lx ly hx hy M : Int) (hM : 0 ≤ M) (a1 : -M ≤ lx) (a2 : lx ≤ M) (a3 : -M ≤ ly) (a4 : ly ≤ M) : -M ≤ (btw lx ly hx hy).x ∧ (btw lx ly hx hy).x ≤ M ∧ -M ≤ (btw lx ly hx hy).y ∧ (btw lx ly hx hy).y ≤ M := by
  unfold btw
  split
  · simp [zr]; omega
  · simp; omega

end Go.Proofs.YthnhcphkpffkfaaGreat
