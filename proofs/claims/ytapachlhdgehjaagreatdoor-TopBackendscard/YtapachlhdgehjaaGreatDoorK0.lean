/-
  Texts of this claim, one behind the other: what each is about stands ahead of it.
-/
import Derived.Test.YtapachlhdgehjaaGreatDoorRows
import Derived.WalkKit
import Derived.WalkSpells
import Derived.WalkLawsBesides
import Derived.Deep.AppendLies
import Derived.BigQuiet
import Derived.Laws.AppendOwnNone
import Derived.Deep.QuietTactic
/-
  The plain mathematics of rectangles: no program in sight.
-/
namespace Go.Proofs.YtapachlhdgehjaaGreatDoor

structure Rc where
  x : Int
  y : Int
  w : Int
  h : Int

def I64 (n : Int) : Prop := -9223372036854775808 ≤ n ∧ n ≤ 9223372036854775807
def spanB (p n : Int) : Bool := decide (0 ≤ n) && (decide (-16384 ≤ p) && decide (n ≤ 16384 - p))
def mayB (x y w h : Int) : Bool := spanB x w && spanB y h
def chk (x y w h : Int) : Int := if mayB x y w h = true then 0 else 5
def emptyB (x y w h : Int) : Bool := !mayB x y w h || (w == 0 || h == 0)
def zr : Rc := ⟨0, 0, 0, 0⟩
def btw (lx ly hx hy : Int) : Rc := if hx ≤ lx ∨ hy ≤ ly then zr else ⟨lx, ly, hx - lx, hy - ly⟩
def witB (n lo hi : Int) : Bool := decide (lo ≤ n) && decide (n ≤ hi)
theorem span_iff {p n : Int} : spanB p n = true ↔ 0 ≤ n ∧ -16384 ≤ p ∧ n ≤ 16384 - p := by
  unfold spanB; simp
theorem may_iff {x y w h : Int} : mayB x y w h = true ↔ (0 ≤ w ∧ -16384 ≤ x ∧ w ≤ 16384 - x) ∧ (0 ≤ h ∧ -16384 ≤ y ∧ h ≤ 16384 - y) := by
  unfold mayB; rw [Bool.and_eq_true, span_iff, span_iff]
theorem wit_iff {n lo hi : Int} : witB n lo hi = true ↔ lo ≤ n ∧ n ≤ hi := by
  unfold witB; simp
theorem chk_ne (x y w h : Int) : (chk x y w h != 0) = !mayB x y w h := by
  unfold chk; cases mayB x y w h <;> rfl
theorem btw_yes {lx ly hx hy : Int} (h1 : lx < hx) (h2 : ly < hy) : btw lx ly hx hy = ⟨lx, ly, hx - lx, hy - ly⟩ := by
  unfold btw; rw [if_neg (by omega)]
theorem btw_no {lx ly hx hy : Int} (h : hx ≤ lx ∨ hy ≤ ly) : btw lx ly hx hy = zr := by
  unfold btw; rw [if_pos h]

def meetR (ax ay aw ah bx by' bw bh : Int) : Rc :=
  if (emptyB ax ay aw ah || emptyB bx by' bw bh) = true then zr else btw (max ax bx) (max ay by') (min (ax + aw) (bx + bw)) (min (ay + ah) (by' + bh))
def hasB (x y w h px py : Int) : Bool := !emptyB x y w h && (decide (x ≤ px) && (decide (px < x + w) && (decide (y ≤ py) && decide (py < y + h))))
theorem bounds_of {x y w h : Int} (e : emptyB x y w h = false) : -16384 ≤ x ∧ x ≤ 16384 ∧ -16384 ≤ y ∧ y ≤ 16384 ∧ 0 < w ∧ w ≤ 32768 ∧ 0 < h ∧ h ≤ 32768 ∧ x + w ≤ 16384 ∧ y + h ≤ 16384 := by
  unfold emptyB at e
  simp only [Bool.or_eq_false_iff, Bool.not_eq_false'] at e
  obtain ⟨e1, e2, e3⟩ := e
  rw [may_iff] at e1
  have e2 := beq_eq_false_iff_ne.1 e2
  have e3 := beq_eq_false_iff_ne.1 e3
  omega

theorem span_ref (p n : Int) (h : witB p (-16384) 16384 = true) (k : witB n 0 32768 = true) : spanB p n = decide (p + n ≤ 16384) := by
  rw [wit_iff] at h k
  rw [Bool.eq_iff_iff, span_iff]
  simp
  omega
theorem span_no1 (p n : Int) (h : witB p (-16384) 16384 = false) : spanB p n = false := by
  rw [Bool.eq_false_iff] at h ⊢
  intro e
  rw [span_iff] at e
  exact h (wit_iff.2 (by omega))
theorem span_no2 (p n : Int) (_h : witB p (-16384) 16384 = true) (k : witB n 0 32768 = false) : spanB p n = false := by
  rw [Bool.eq_false_iff] at k ⊢
  intro e
  rw [span_iff] at e
  exact k (wit_iff.2 (by omega))
def szR (o : Rc) : Rc := if mayB o.x o.y o.w o.h = true then o else zr
def szE (o : Rc) : Int := if mayB o.x o.y o.w o.h = true then 0 else 9
def insR (x y n m k : Int) : Rc := if (mayB x y n m && (witB k (-16384) 16384 && !emptyB x y n m)) = true then szR (btw (x + k) (y + k) (x + n - k) (y + m - k)) else zr
def insE (x y n m k : Int) : Int := if mayB x y n m = false then 5 else if witB k (-16384) 16384 = false then 2 else if emptyB x y n m = true then 0 else szE (btw (x + k) (y + k) (x + n - k) (y + m - k))
theorem may_of {x y w h : Int} (e : emptyB x y w h = false) : mayB x y w h = true := by
  unfold emptyB at e
  simp only [Bool.or_eq_false_iff, Bool.not_eq_false'] at e
  exact e.1
theorem may_bd {x y w h : Int} (e : mayB x y w h = true) : -16384 ≤ x ∧ x ≤ 16384 ∧ -16384 ≤ y ∧ y ≤ 16384 ∧ 0 ≤ w ∧ w ≤ 32768 ∧ 0 ≤ h ∧ h ≤ 32768 := by
  rw [may_iff] at e
  omega
theorem btw_bd (lx ly hx hy M : Int) (hM : 0 ≤ M) (a1 : -M ≤ lx) (a2 : lx ≤ M) (a3 : -M ≤ ly) (a4 : ly ≤ M) : -M ≤ (btw lx ly hx hy).x ∧ (btw lx ly hx hy).x ≤ M ∧ -M ≤ (btw lx ly hx hy).y ∧ (btw lx ly hx hy).y ≤ M := by
  unfold btw
  split
  · simp [zr]; omega
  · simp; omega

end Go.Proofs.YtapachlhdgehjaaGreatDoor

/-
  Spans of a row in plain lists: one form for each set of columns.
-/
namespace Go.Proofs.YtapachlhdgehjaaGreatDoor

end Go.Proofs.YtapachlhdgehjaaGreatDoor

/-
  Sets of places in plain lists: rows, edges, bands, the form; one form for each set.
-/
namespace Go.Proofs.YtapachlhdgehjaaGreatDoor

def keepE (r : Rc) : Bool := !emptyB r.x r.y r.w r.h
theorem keepE_iff (r : Rc) : keepE r = true ↔ -16384 ≤ r.x ∧ 0 < r.w ∧ r.x + r.w ≤ 16384 ∧ -16384 ≤ r.y ∧ 0 < r.h ∧ r.y + r.h ≤ 16384 := by
  unfold keepE emptyB
  rw [Bool.not_eq_true', Bool.or_eq_false_iff, Bool.or_eq_false_iff, Bool.not_eq_false', may_iff]
  simp only [beq_eq_false_iff_ne]
  omega
end Go.Proofs.YtapachlhdgehjaaGreatDoor

/-
  The form of what is left of two lists: its bands, its places; one form for each set of places.
-/
namespace Go.Proofs.YtapachlhdgehjaaGreatDoor

end Go.Proofs.YtapachlhdgehjaaGreatDoor

/-
  Contracts of the leaves of package geom: what each call answers; of what was there nothing turns.
-/
namespace Go.Proofs.YtapachlhdgehjaaGreatDoor
open Go.RowKit

theorem bcell {W w1 : World} (hb : Below W.heap.size W w1) : (∀ b o, b < W.heap.size → w1.cell? ⟨b, o, none⟩ = W.cell? ⟨b, o, none⟩) ∧ (∀ b o, b < W.heap.size → w1.frozen? ⟨b, o, none⟩ = W.frozen? ⟨b, o, none⟩) :=
  ⟨fun b o h => hb.cell (p := ⟨b, o, none⟩) h, fun b o h => hb.frozen (p := ⟨b, o, none⟩) h⟩

theorem ret_bool {a b : Bool} (h : a = true ↔ b = true) : Ending.returned (.bool a) = .returned (.bool b) := by rw [Bool.eq_iff_iff.2 h]
theorem ite_max (x y : Int) : (if x < y then y else x) = max x y := by omega
theorem ite_min (x y : Int) : (if y < x then y else x) = min x y := by omega

def At4 (w : World) (b : Nat) (x y n m : Int) : Prop := w.cell? ⟨b, 0, none⟩ = some (.int .i64 x) ∧ w.cell? ⟨b, 1, none⟩ = some (.int .i64 y) ∧ w.cell? ⟨b, 2, none⟩ = some (.int .i64 n) ∧ w.cell? ⟨b, 3, none⟩ = some (.int .i64 m)
def At2 (w : World) (b : Nat) (x y : Int) : Prop := w.cell? ⟨b, 0, none⟩ = some (.int .i64 x) ∧ w.cell? ⟨b, 1, none⟩ = some (.int .i64 y)
theorem lt_of_cell {w : World} {b o : Nat} {u : Value} (h : w.cell? ⟨b, o, none⟩ = some u) : b < w.heap.size := World.block_lt_of_cell? w ⟨b, o, none⟩ h
theorem keepAt {W w1 : World} (hb : Below W.heap.size W w1) {b o0 : Nat} {u : Value} (h : W.cell? ⟨b, o0, none⟩ = some u) : ∀ o, w1.cell? ⟨b, o, none⟩ = W.cell? ⟨b, o, none⟩ :=
  fun o => hb.cell (p := ⟨b, o, none⟩) (lt_of_cell h)
theorem At4.drew {w : World} {b : Nat} {x y n m : Int} (h : At4 w b x y n m) : At4 w.drew b x y n m := h
theorem At2.drew {w : World} {b : Nat} {x y : Int} (h : At2 w b x y) : At2 w.drew b x y := h
theorem At4.lt {w : World} {b : Nat} {x y n m : Int} (h : At4 w b x y n m) : b < w.heap.size := lt_of_cell h.1
theorem At2.lt {w : World} {b : Nat} {x y : Int} (h : At2 w b x y) : b < w.heap.size := lt_of_cell h.1
theorem At4.below {W w1 : World} {b : Nat} {x y n m : Int} (h : At4 W b x y n m) (hb : Below W.heap.size W w1) : At4 w1 b x y n m := by
  have k := keepAt hb h.1
  exact ⟨(k 0).trans h.1, (k 1).trans h.2.1, (k 2).trans h.2.2.1, (k 3).trans h.2.2.2⟩
theorem At2.below {W w1 : World} {b : Nat} {x y : Int} (h : At2 W b x y) (hb : Below W.heap.size W w1) : At2 w1 b x y := by
  have k := keepAt hb h.1
  exact ⟨(k 0).trans h.1, (k 1).trans h.2⟩
theorem At4.alloc {w : World} {b : Nat} {x y n m : Int} (h : At4 w b x y n m) (o : Obj) : At4 (w.alloc o) b x y n m := h.below ((Below.refl _ _).alloc (Nat.le_refl _) o)
theorem At2.alloc {w : World} {b : Nat} {x y : Int} (h : At2 w b x y) (o : Obj) : At2 (w.alloc o) b x y := h.below ((Below.refl _ _).alloc (Nat.le_refl _) o)
theorem At4.new (w : World) (x y n m : Int) (t : TypeId) : At4 (w.alloc (.cells #[.int .i64 x, .int .i64 y, .int .i64 n, .int .i64 m] t)) w.heap.size x y n m := by
  unfold At4; simp
theorem At2.new (w : World) (x y : Int) (t : TypeId) : At2 (w.alloc (.cells #[.int .i64 x, .int .i64 y] t)) w.heap.size x y := by
  unfold At2; simp
theorem At2.new' (w : World) (b : Nat) (x y : Int) (t : TypeId) (h : b = w.heap.size) : At2 (w.alloc (.cells #[.int .i64 x, .int .i64 y] t)) b x y := by
  rw [h]; exact At2.new w x y t
theorem At4.new' (w : World) (b : Nat) (x y n m : Int) (t : TypeId) (h : b = w.heap.size) : At4 (w.alloc (.cells #[.int .i64 x, .int .i64 y, .int .i64 n, .int .i64 m] t)) b x y n m := by
  rw [h]; exact At4.new w x y n m t
theorem At4.set {w : World} {b : Nat} {x y n m : Int} (h : At4 w b x y n m) {p : Addr} (v : Value) (hp : p.block ≠ b) : At4 (w.setCell p v) b x y n m := by
  have k : ∀ o, (w.setCell p v).cell? ⟨b, o, none⟩ = w.cell? ⟨b, o, none⟩ := fun o => World.cell?_setCell_other w p ⟨b, o, none⟩ v (fun e => hp (by rw [e]))
  exact ⟨(k 0).trans h.1, (k 1).trans h.2.1, (k 2).trans h.2.2.1, (k 3).trans h.2.2.2⟩
theorem At2.set {w : World} {b : Nat} {x y : Int} (h : At2 w b x y) {p : Addr} (v : Value) (hp : p.block ≠ b) : At2 (w.setCell p v) b x y := by
  have k : ∀ o, (w.setCell p v).cell? ⟨b, o, none⟩ = w.cell? ⟨b, o, none⟩ := fun o => World.cell?_setCell_other w p ⟨b, o, none⟩ v (fun e => hp (by rw [e]))
  exact ⟨(k 0).trans h.1, (k 1).trans h.2⟩

theorem At2.put {w : World} {b : Nat} {u v : Int} (h : At2 w b u v) (x y : Int) : At2 ((w.setCell ⟨b, 0, none⟩ (.int .i64 x)).setCell ⟨b, 1, none⟩ (.int .i64 y)) b x y := by
  obtain ⟨h0, h1⟩ := h
  unfold At2
  simp [go_sem, h0, h1]
theorem At4.put {w : World} {b : Nat} {u0 u1 u2 u3 : Int} (h : At4 w b u0 u1 u2 u3) (x y n m : Int) : At4 ((((w.setCell ⟨b, 0, none⟩ (.int .i64 x)).setCell ⟨b, 1, none⟩ (.int .i64 y)).setCell ⟨b, 2, none⟩ (.int .i64 n)).setCell ⟨b, 3, none⟩ (.int .i64 m)) b x y n m := by
  obtain ⟨h0, h1, h2, h3⟩ := h
  unfold At4
  simp [go_sem, h0, h1, h2, h3]

def Fr (w : World) (b : Nat) : Prop := b < w.heap.size ∧ ∀ o, w.frozen? ⟨b, o, none⟩ = false
theorem Fr.below {W w1 : World} {b : Nat} (h : Fr W b) (hb : Below W.heap.size W w1) : Fr w1 b :=
  ⟨Nat.lt_of_lt_of_le h.1 hb.size, fun o => (hb.frozen (p := ⟨b, o, none⟩) h.1).trans (h.2 o)⟩
theorem Fr.alloc {w : World} {b : Nat} (h : Fr w b) (o : Obj) : Fr (w.alloc o) b := h.below ((Below.refl _ _).alloc (Nat.le_refl _) o)
theorem Fr.set {w : World} {b : Nat} (h : Fr w b) (p : Addr) (v : Value) : Fr (w.setCell p v) b := ⟨by simpa [World.setCell] using h.1, fun o => by rw [World.frozen?_setCell]; exact h.2 o⟩
theorem Fr.drew {w : World} {b : Nat} (h : Fr w b) : Fr w.drew b := h
theorem Fr.new (w : World) (c : Array Value) (t : TypeId) : Fr (w.alloc (.cells c t)) w.heap.size := ⟨by simp, fun o => by simp⟩
theorem fr1 (w : World) (o1 : Obj) (c : Array Value) (t : TypeId) : Fr ((w.alloc o1).alloc (.cells c t)) (w.heap.size + 1) := by
  have h := Fr.new (w.alloc o1) c t
  rwa [World.size_alloc] at h
theorem fr2 (w : World) (o1 o2 : Obj) (c : Array Value) (t : TypeId) : Fr (((w.alloc o1).alloc o2).alloc (.cells c t)) (w.heap.size + 1 + 1) := by
  have h := Fr.new ((w.alloc o1).alloc o2) c t
  rwa [World.size_alloc, World.size_alloc] at h
theorem set4_below {B b : Nat} {w w1 : World} (L : Below B w w1) (h : B ≤ b) (v0 v1 v2 v3 : Value) : Below B w ((((w1.setCell ⟨b, 0, none⟩ v0).setCell ⟨b, 1, none⟩ v1).setCell ⟨b, 2, none⟩ v2).setCell ⟨b, 3, none⟩ v3) :=
  (((L.setCell h v0).setCell h v1).setCell h v2).setCell h v3
theorem boxes_rr (w : World) (ax ay aw ah bx by' bw bh : Int) (t t' : TypeId) : At4 ((w.alloc (.cells #[.int .i64 ax, .int .i64 ay, .int .i64 aw, .int .i64 ah] t)).alloc (.cells #[.int .i64 bx, .int .i64 by', .int .i64 bw, .int .i64 bh] t')) w.heap.size ax ay aw ah ∧
    At4 ((w.alloc (.cells #[.int .i64 ax, .int .i64 ay, .int .i64 aw, .int .i64 ah] t)).alloc (.cells #[.int .i64 bx, .int .i64 by', .int .i64 bw, .int .i64 bh] t')) (w.heap.size + 1) bx by' bw bh ∧
    Below w.heap.size w ((w.alloc (.cells #[.int .i64 ax, .int .i64 ay, .int .i64 aw, .int .i64 ah] t)).alloc (.cells #[.int .i64 bx, .int .i64 by', .int .i64 bw, .int .i64 bh] t')) := by
  have B := At4.new (w.alloc (.cells #[.int .i64 ax, .int .i64 ay, .int .i64 aw, .int .i64 ah] t)) bx by' bw bh t'
  simp only [World.size_alloc] at B
  exact ⟨(At4.new w ax ay aw ah t).alloc _, B, ((Below.refl _ w).alloc (Nat.le_refl _) _).alloc (by simp) _⟩

theorem boxes_ppr (w : World) (ax ay bx by' : Int) (t t' t'' : TypeId) : At2 (((w.alloc (.cells #[.int .i64 ax, .int .i64 ay] t)).alloc (.cells #[.int .i64 bx, .int .i64 by'] t')).alloc (.cells #[.int .i64 0, .int .i64 0, .int .i64 0, .int .i64 0] t'')) w.heap.size ax ay ∧
    At2 (((w.alloc (.cells #[.int .i64 ax, .int .i64 ay] t)).alloc (.cells #[.int .i64 bx, .int .i64 by'] t')).alloc (.cells #[.int .i64 0, .int .i64 0, .int .i64 0, .int .i64 0] t'')) (w.heap.size + 1) bx by' ∧
    At4 (((w.alloc (.cells #[.int .i64 ax, .int .i64 ay] t)).alloc (.cells #[.int .i64 bx, .int .i64 by'] t')).alloc (.cells #[.int .i64 0, .int .i64 0, .int .i64 0, .int .i64 0] t'')) (w.heap.size + 1 + 1) 0 0 0 0 ∧
    Below w.heap.size w (((w.alloc (.cells #[.int .i64 ax, .int .i64 ay] t)).alloc (.cells #[.int .i64 bx, .int .i64 by'] t')).alloc (.cells #[.int .i64 0, .int .i64 0, .int .i64 0, .int .i64 0] t'')) := by
  have B := (At2.new (w.alloc (.cells #[.int .i64 ax, .int .i64 ay] t)) bx by' t').alloc (.cells #[.int .i64 0, .int .i64 0, .int .i64 0, .int .i64 0] t'')
  have C := At4.new ((w.alloc (.cells #[.int .i64 ax, .int .i64 ay] t)).alloc (.cells #[.int .i64 bx, .int .i64 by'] t')) 0 0 0 0 t''
  simp only [World.size_alloc] at B C
  exact ⟨((At2.new w ax ay t).alloc _).alloc _, B, C, (((Below.refl _ w).alloc (Nat.le_refl _) _).alloc (by simp) _).alloc (by simp; omega) _⟩

theorem boxes_rrr (w : World) (ax ay aw ah bx by' bw bh : Int) (t t' t'' : TypeId) : At4 (((w.alloc (.cells #[.int .i64 ax, .int .i64 ay, .int .i64 aw, .int .i64 ah] t)).alloc (.cells #[.int .i64 bx, .int .i64 by', .int .i64 bw, .int .i64 bh] t')).alloc (.cells #[.int .i64 0, .int .i64 0, .int .i64 0, .int .i64 0] t'')) w.heap.size ax ay aw ah ∧
    At4 (((w.alloc (.cells #[.int .i64 ax, .int .i64 ay, .int .i64 aw, .int .i64 ah] t)).alloc (.cells #[.int .i64 bx, .int .i64 by', .int .i64 bw, .int .i64 bh] t')).alloc (.cells #[.int .i64 0, .int .i64 0, .int .i64 0, .int .i64 0] t'')) (w.heap.size + 1) bx by' bw bh ∧
    At4 (((w.alloc (.cells #[.int .i64 ax, .int .i64 ay, .int .i64 aw, .int .i64 ah] t)).alloc (.cells #[.int .i64 bx, .int .i64 by', .int .i64 bw, .int .i64 bh] t')).alloc (.cells #[.int .i64 0, .int .i64 0, .int .i64 0, .int .i64 0] t'')) (w.heap.size + 1 + 1) 0 0 0 0 ∧
    Below w.heap.size w (((w.alloc (.cells #[.int .i64 ax, .int .i64 ay, .int .i64 aw, .int .i64 ah] t)).alloc (.cells #[.int .i64 bx, .int .i64 by', .int .i64 bw, .int .i64 bh] t')).alloc (.cells #[.int .i64 0, .int .i64 0, .int .i64 0, .int .i64 0] t'')) := by
  have B := (At4.new (w.alloc (.cells #[.int .i64 ax, .int .i64 ay, .int .i64 aw, .int .i64 ah] t)) bx by' bw bh t').alloc (.cells #[.int .i64 0, .int .i64 0, .int .i64 0, .int .i64 0] t'')
  have C := At4.new ((w.alloc (.cells #[.int .i64 ax, .int .i64 ay, .int .i64 aw, .int .i64 ah] t)).alloc (.cells #[.int .i64 bx, .int .i64 by', .int .i64 bw, .int .i64 bh] t')) 0 0 0 0 t''
  simp only [World.size_alloc] at B C
  exact ⟨((At4.new w ax ay aw ah t).alloc _).alloc _, B, C, (((Below.refl _ w).alloc (Nat.le_refl _) _).alloc (by simp) _).alloc (by simp; omega) _⟩

set_option maxHeartbeats 400000 in
theorem span_any (p n : Int) (w : World) (hp : I64 p) :
    Calls Tryz.prog 90 #[.int .i64 p, .int .i64 n] w fun e w' => e = .returned (.bool (spanB p n)) ∧ w' = w := by
  obtain ⟨h1, h2⟩ := hp
  by_cases c1 : 0 ≤ n
  · by_cases c2 : -16384 ≤ p
    · go_enter Tryz.func90, Tryz.ntmps90
      go_wp2
      go_ret
      exact ⟨by simp [spanB, c1, c2], rfl⟩
    · go_enter Tryz.func90, Tryz.ntmps90
      go_wp2
      go_ret
      exact ⟨by simp [spanB]; omega, rfl⟩
  · go_enter Tryz.func90, Tryz.ntmps90
    go_wp2
    go_ret
    exact ⟨by simp [spanB]; omega, rfl⟩

set_option maxHeartbeats 400000 in
theorem within_any (n lo hi : Int) (w : World) :
    Calls Tryz.prog 159 #[.int .i64 n, .int .i64 lo, .int .i64 hi] w fun e w' => e = .returned (.bool (witB n lo hi)) ∧ w' = w := by
  by_cases c1 : lo ≤ n
  · go_enter Tryz.func159, Tryz.ntmps159
    go_wp2
    go_ret
    exact ⟨by simp [witB, c1], rfl⟩
  · go_enter Tryz.func159, Tryz.ntmps159
    go_wp2
    go_ret
    exact ⟨by simp [witB]; omega, rfl⟩

set_option maxHeartbeats 400000 in
theorem check_any (x y n m : Int) (w : World) (hx : I64 x) (hy : I64 y) :
    Calls Tryz.prog 60 #[.agg #[.int .i64 x, .int .i64 y, .int .i64 n, .int .i64 m]] w fun e w' => e = .returned (.int .i64 (chk x y n m)) ∧ Below w.heap.size w w' := by
  cases h1 : spanB x n
  · go_enter Tryz.func60, Tryz.ntmps60
    go_wp2_with (go_at_call 90; refine (span_any _ _ _ (by assumption)).mono ?_; rintro e w' ⟨rfl, rfl⟩)
    go_ret
    exact ⟨by simp [chk, mayB, h1], (Below.refl _ _).alloc (Nat.le_refl _) _⟩
  · cases h2 : spanB y m
    · go_enter Tryz.func60, Tryz.ntmps60
      go_wp2_with (go_at_call 90; refine (span_any _ _ _ (by assumption)).mono ?_; rintro e w' ⟨rfl, rfl⟩)
      go_ret
      exact ⟨by simp [chk, mayB, h2], (Below.refl _ _).alloc (Nat.le_refl _) _⟩
    · go_enter Tryz.func60, Tryz.ntmps60
      go_wp2_with (go_at_call 90; refine (span_any _ _ _ (by assumption)).mono ?_; rintro e w' ⟨rfl, rfl⟩)
      go_ret
      exact ⟨by simp [chk, mayB, h1, h2], (Below.refl _ _).alloc (Nat.le_refl _) _⟩

set_option maxHeartbeats 400000 in
theorem empty_any (x y n m : Int) (w : World) (hx : I64 x) (hy : I64 y) :
    Calls Tryz.prog 30 #[.agg #[.int .i64 x, .int .i64 y, .int .i64 n, .int .i64 m]] w fun e w' => e = .returned (.bool (emptyB x y n m)) ∧ Below w.heap.size w w' := by
  have hk := chk_ne x y n m
  cases h1 : mayB x y n m
  · go_enter Tryz.func30, Tryz.ntmps30
    go_wp2_with fail
    refine (check_any _ _ _ _ _ (by assumption) (by assumption)).mono ?_
    rintro e w1 ⟨rfl, hb⟩
    obtain ⟨hc, hf⟩ := bcell hb
    go_wp2
    go_ret
    exact ⟨by simp [emptyB, h1], ((Below.refl _ _).alloc (Nat.le_refl _) _).trans (hb.mono (by simp))⟩
  · by_cases c1 : (n == 0) = true
    · go_enter Tryz.func30, Tryz.ntmps30
      go_wp2_with fail
      refine (check_any _ _ _ _ _ (by assumption) (by assumption)).mono ?_
      rintro e w1 ⟨rfl, hb⟩
      obtain ⟨hc, hf⟩ := bcell hb
      go_wp2
      go_ret
      exact ⟨by simp [emptyB, c1], ((Below.refl _ _).alloc (Nat.le_refl _) _).trans (hb.mono (by simp))⟩
    · have c1 : (n == 0) = false := by simpa using c1
      go_enter Tryz.func30, Tryz.ntmps30
      go_wp2_with fail
      refine (check_any _ _ _ _ _ (by assumption) (by assumption)).mono ?_
      rintro e w1 ⟨rfl, hb⟩
      obtain ⟨hc, hf⟩ := bcell hb
      go_wp2
      go_ret
      exact ⟨by simp [emptyB, h1, c1], ((Below.refl _ _).alloc (Nat.le_refl _) _).trans (hb.mono (by simp))⟩

set_option maxHeartbeats 400000 in
theorem between_any (lx ly hx hy : Int) (w : World) (b1 : -1000000 ≤ lx) (b2 : lx ≤ 1000000) (b3 : -1000000 ≤ ly) (b4 : ly ≤ 1000000) (b5 : -1000000 ≤ hx) (b6 : hx ≤ 1000000) (b7 : -1000000 ≤ hy) (b8 : hy ≤ 1000000) :
    Calls Tryz.prog 59 #[.agg #[.int .i64 lx, .int .i64 ly], .agg #[.int .i64 hx, .int .i64 hy]] w fun e w' => e = .returned (.agg #[.int .i64 (btw lx ly hx hy).x, .int .i64 (btw lx ly hx hy).y, .int .i64 (btw lx ly hx hy).w, .int .i64 (btw lx ly hx hy).h]) ∧ Below w.heap.size w w' := by
  by_cases c1 : hx ≤ lx
  · rw [btw_no (.inl c1)]
    go_enter Tryz.func59, Tryz.ntmps59
    go_wp2
    exact bodyPost_ret (v := .agg #[.int .i64 0, .int .i64 0, .int .i64 0, .int .i64 0]) (by simp [results, Tryz.results59, go_sem]) rfl ⟨rfl, (((Below.refl _ _).alloc (Nat.le_refl _) _).alloc (by simp) _).alloc (by simp; omega) _⟩
  · by_cases c2 : hy ≤ ly
    · rw [btw_no (.inr c2)]
      go_enter Tryz.func59, Tryz.ntmps59
      go_wp2
      exact bodyPost_ret (v := .agg #[.int .i64 0, .int .i64 0, .int .i64 0, .int .i64 0]) (by simp [results, Tryz.results59, go_sem]) rfl ⟨rfl, (((Below.refl _ _).alloc (Nat.le_refl _) _).alloc (by simp) _).alloc (by simp; omega) _⟩
    · rw [btw_yes (by omega) (by omega)]
      go_enter Tryz.func59, Tryz.ntmps59
      go_wp2
      exact bodyPost_ret (v := .agg #[.int .i64 lx, .int .i64 ly, .int .i64 (hx - lx), .int .i64 (hy - ly)]) (by simp [results, Tryz.results59, go_sem]) rfl ⟨rfl, (((Below.refl _ _).alloc (Nat.le_refl _) _).alloc (by simp) _).alloc (by simp; omega) _⟩

set_option maxHeartbeats 400000 in
theorem end_x (x y n m : Int) (w : World) (b1 : -1000000 ≤ x) (b2 : x ≤ 1000000) (b3 : -1000000 ≤ y) (b4 : y ≤ 1000000) (b5 : -1000000 ≤ n) (b6 : n ≤ 1000000) (b7 : -1000000 ≤ m) (b8 : m ≤ 1000000) :
    Calls Tryz.prog 58 #[.agg #[.int .i64 x, .int .i64 y, .int .i64 n, .int .i64 m]] w fun e w' => e = .returned (.agg #[.int .i64 (x + n), .int .i64 (y + m)]) ∧ w' = (w.alloc (.cells #[.int .i64 x, .int .i64 y, .int .i64 n, .int .i64 m] 52)).alloc (.cells #[.int .i64 (x + n), .int .i64 (y + m)] 50) := by
  go_enter Tryz.func58, Tryz.ntmps58
  go_wp2
  exact bodyPost_ret (v := .agg #[.int .i64 (x + n), .int .i64 (y + m)]) (by simp [results, Tryz.results58, go_sem]) rfl ⟨rfl, rfl⟩

set_option maxHeartbeats 400000 in
theorem end_any (x y n m : Int) (w : World) (b1 : -1000000 ≤ x) (b2 : x ≤ 1000000) (b3 : -1000000 ≤ y) (b4 : y ≤ 1000000) (b5 : -1000000 ≤ n) (b6 : n ≤ 1000000) (b7 : -1000000 ≤ m) (b8 : m ≤ 1000000) :
    Calls Tryz.prog 58 #[.agg #[.int .i64 x, .int .i64 y, .int .i64 n, .int .i64 m]] w fun e w' => e = .returned (.agg #[.int .i64 (x + n), .int .i64 (y + m)]) ∧ Below w.heap.size w w' := by
  go_enter Tryz.func58, Tryz.ntmps58
  go_wp2
  exact bodyPost_ret (v := .agg #[.int .i64 (x + n), .int .i64 (y + m)]) (by simp [results, Tryz.results58, go_sem]) rfl ⟨rfl, ((Below.refl _ _).alloc (Nat.le_refl _) _).alloc (by simp) _⟩

end Go.Proofs.YtapachlhdgehjaaGreatDoor

/-
  Contracts of package geom: areas, places, what two have together.
-/
namespace Go.Proofs.YtapachlhdgehjaaGreatDoor
open Go.RowKit

end Go.Proofs.YtapachlhdgehjaaGreatDoor

/-
  More of the plain mathematics of rectangles: what joins two, what is left of one, lists of them.
-/
namespace Go.Proofs.YtapachlhdgehjaaGreatDoor

def eqB (r : Rc) (x y w h : Int) : Bool := (r.x == x) && ((r.y == y) && ((r.w == w) && (r.h == h)))
end Go.Proofs.YtapachlhdgehjaaGreatDoor

/-
  What is left of a rectangle, as a list; a list of rectangles as cells.
-/
namespace Go.Proofs.YtapachlhdgehjaaGreatDoor

def keepB (r : Rc) : Bool := !eqB r 0 0 0 0
def pcR (ax ay aw ah mx my mw mh : Int) : List Rc := [btw ax ay (ax + aw) my, btw ax my mx (my + mh), btw (mx + mw) my (ax + aw) (my + mh), btw ax (my + mh) (ax + aw) (ay + ah)]
def lesL (ax ay aw ah bx by' bw bh : Int) : List Rc :=
  if (mayB ax ay aw ah && (mayB bx by' bw bh && !emptyB ax ay aw ah)) = true then
    (if eqB (meetR ax ay aw ah bx by' bw bh) 0 0 0 0 = true then [⟨ax, ay, aw, ah⟩]
     else (pcR ax ay aw ah (meetR ax ay aw ah bx by' bw bh).x (meetR ax ay aw ah bx by' bw bh).y (meetR ax ay aw ah bx by' bw bh).w (meetR ax ay aw ah bx by' bw bh).h).filter keepB)
  else []
def lesE (ax ay aw ah bx by' bw bh : Int) : Int := if (mayB ax ay aw ah && mayB bx by' bw bh) = true then 0 else 5
def cel (r : Rc) : List Value := [.int .i64 r.x, .int .i64 r.y, .int .i64 r.w, .int .i64 r.h]
def flat : List Rc → List Value
  | [] => []
  | r :: l => cel r ++ flat l
theorem flat_append (l k : List Rc) : flat (l ++ k) = flat l ++ flat k := by
  induction l with
  | nil => rfl
  | cons r l ih => simp [flat, ih]
theorem flat_one (r : Rc) : flat [r] = cel r := by simp [flat]

theorem meet_bd {ax ay aw ah bx by' bw bh : Int} (e : emptyB ax ay aw ah = false) :
    -16384 ≤ (meetR ax ay aw ah bx by' bw bh).x ∧ (meetR ax ay aw ah bx by' bw bh).x ≤ 16384 ∧ -16384 ≤ (meetR ax ay aw ah bx by' bw bh).y ∧ (meetR ax ay aw ah bx by' bw bh).y ≤ 16384 ∧
    0 ≤ (meetR ax ay aw ah bx by' bw bh).w ∧ (meetR ax ay aw ah bx by' bw bh).w ≤ 32768 ∧ 0 ≤ (meetR ax ay aw ah bx by' bw bh).h ∧ (meetR ax ay aw ah bx by' bw bh).h ≤ 32768 := by
  obtain ⟨a1, a2, a3, a4, a5, a6, a7, a8, a9, a10⟩ := bounds_of e
  unfold meetR
  cases h2 : emptyB bx by' bw bh
  · obtain ⟨b1, b2, b3, b4, b5, b6, b7, b8, b9, b10⟩ := bounds_of h2
    simp only [e, Bool.or_self, Bool.false_eq_true, if_false]
    unfold btw
    split
    · simp [zr]
    · simp only; omega
  · simp [zr]

end Go.Proofs.YtapachlhdgehjaaGreatDoor

/-
  Lists of rectangles and of spans in memory; contracts of package region: a list's errors, the runs of a row.
-/
namespace Go.Proofs.YtapachlhdgehjaaGreatDoor
open Go.RowKit
attribute [local go_sem] ite_max ite_min

def RcAt (w : World) (g o : Nat) (r : Rc) : Prop := w.cell? ⟨g, o, none⟩ = some (.int .i64 r.x) ∧ w.cell? ⟨g, o + 1, none⟩ = some (.int .i64 r.y) ∧ w.cell? ⟨g, o + 2, none⟩ = some (.int .i64 r.w) ∧ w.cell? ⟨g, o + 3, none⟩ = some (.int .i64 r.h)
theorem RcAt.kept {w w' : World} {g o : Nat} {r : Rc} (h : RcAt w g o r) (k : ∀ j, w'.cell? ⟨g, j, none⟩ = w.cell? ⟨g, j, none⟩) : RcAt w' g o r := by
  unfold RcAt; rw [k, k, k, k]; exact h
def LsR (w : World) (v : Value) (rs : List Rc) : Prop := ∃ oa cap, v = .slice oa rs.length cap ∧ rs.length ≤ cap ∧ (0 < rs.length → ∃ g o, oa = some ⟨g, o, none⟩ ∧ g < w.heap.size ∧ ∀ i (h : i < rs.length), RcAt w g (o + i * 4) rs[i])
theorem flat_at (l : List Rc) (k : Nat) (h : k < l.length) : (flat l)[k * 4]? = some (.int .i64 l[k].x) ∧ (flat l)[k * 4 + 1]? = some (.int .i64 l[k].y) ∧ (flat l)[k * 4 + 2]? = some (.int .i64 l[k].w) ∧ (flat l)[k * 4 + 3]? = some (.int .i64 l[k].h) := by
  induction l generalizing k with
  | nil => simp at h
  | cons r l ih =>
    cases k with
    | zero => simp [flat, cel]
    | succ k =>
      have e : ∀ j, (flat (r :: l))[(k + 1) * 4 + j]? = (flat l)[k * 4 + j]? := fun j => by
        show (cel r ++ flat l)[(k + 1) * 4 + j]? = _
        rw [List.getElem?_append_right (by simp [cel]; omega)]
        congr 1
        simp [cel]
        omega
      have h' : k < l.length := by simpa using h
      obtain ⟨i0, i1, i2, i3⟩ := ih k h'
      have e0 := e 0
      rw [Nat.add_zero, Nat.add_zero] at e0
      exact ⟨e0.trans i0, (e 1).trans i1, (e 2).trans i2, (e 3).trans i3⟩
theorem flat_app (l m : List Rc) : flat (l ++ m) = flat l ++ flat m := by
  induction l with
  | nil => rfl
  | cons r l ih => show cel r ++ flat (l ++ m) = (cel r ++ flat l) ++ flat m; rw [ih, List.append_assoc]
theorem flat_len (l : List Rc) : (flat l).length = l.length * 4 := by
  induction l with
  | nil => rfl
  | cons r l ih => show (cel r ++ flat l).length = _; rw [List.length_append, ih]; simp [cel]; omega

def Bk (W : World) (b : Nat) (vs : Array Value) (t : TypeId) : Prop := W.heap[b]? = some (.cells vs t)
theorem Bk.lt {W : World} {b : Nat} {vs : Array Value} {t : TypeId} (h : Bk W b vs t) : b < W.heap.size := (Array.getElem?_eq_some_iff.1 h).1
theorem Bk.cell {W : World} {b : Nat} {vs : Array Value} {t : TypeId} (h : Bk W b vs t) (o : Nat) : W.cell? ⟨b, o, none⟩ = vs[o]? := by
  simp [World.cell?, show W.heap[b]? = _ from h]
theorem Bk.frozen {W : World} {b : Nat} {vs : Array Value} {t : TypeId} (h : Bk W b vs t) (o : Nat) : W.frozen? ⟨b, o, none⟩ = false := by
  simp [World.frozen?, show W.heap[b]? = _ from h]
theorem Bk.below {W W' : World} {b : Nat} {vs : Array Value} {t : TypeId} (h : Bk W b vs t) (hb : Below W.heap.size W W') : Bk W' b vs t := (hb.block b h.lt).trans h
theorem Bk.new (W : World) (vs : Array Value) (t : TypeId) : Bk (W.alloc (.cells vs t)) W.heap.size vs t := by
  show (W.heap.push (.cells vs t))[W.heap.size]? = _
  exact Array.getElem?_push_size
theorem Bk.put {W : World} {b : Nat} {vs : Array Value} {t : TypeId} (h : Bk W b vs t) (o : Nat) (v : Value) : Bk (W.setCell ⟨b, o, none⟩ v) b (vs.setIfInBounds o v) t := heap_setCell_same W b o vs t v h
theorem Bk.other {W : World} {b : Nat} {vs : Array Value} {t : TypeId} (h : Bk W b vs t) (p : Addr) (v : Value) (hp : p.block ≠ b) : Bk (W.setCell p v) b vs t :=
  (Below.heap_setCell _ _ _ b (fun e => hp e.symm)).trans h
theorem Bk.at2 {W : World} {b : Nat} {a0 a1 : Value} {t : TypeId} (h : Bk W b #[a0, a1] t) : W.cell? ⟨b, 0, none⟩ = some a0 ∧ W.cell? ⟨b, 1, none⟩ = some a1 := ⟨by rw [h.cell]; rfl, by rw [h.cell]; rfl⟩
theorem Bk.grown {W W' : World} {b : Nat} {vs : Array Value} {t : TypeId} (h : Bk W b vs t) {row : Option Nat} (hg : W.grownBy W' row) (hb : row ≠ some b) : Bk W' b vs t := (hg.block b h.lt (fun e => hb e.symm)).trans h

theorem own_cell {w : World} {base : Nat} {e : TypeId} {size n g cap : Nat} {xs : List Value} (h : w.ownsRow base e size (.slice (some ⟨g, 0, none⟩) n cap) n xs) (j : Nat) (hj : j < n * size) : w.cell? ⟨g, j, none⟩ = xs[j]? := h.cellAt j hj
theorem own_frozen {w : World} {base : Nat} {e : TypeId} {size n g cap : Nat} {xs : List Value} (h : w.ownsRow base e size (.slice (some ⟨g, 0, none⟩) n cap) n xs) (j : Nat) : w.frozen? ⟨g, j, none⟩ = false := by
  obtain ⟨_, ⟨h, _⟩ | ⟨g', cap', cur, h, _, hc, _⟩⟩ := h
  · cases h
  · injection h with h1 _ _
    injection h1 with h1
    injection h1 with h1 _ _
    subst h1
    simp [World.frozen?, hc]
theorem own_set {w : World} {base : Nat} {e : TypeId} {size n g cap : Nat} {xs : List Value} (h : w.ownsRow base e size (.slice (some ⟨g, 0, none⟩) n cap) n xs) (j : Nat) (v : Value) :
    (w.setCell ⟨g, j, none⟩ v).ownsRow base e size (.slice (some ⟨g, 0, none⟩) n cap) n (xs.set j v) := by
  obtain ⟨hl, ⟨h, _⟩ | ⟨g', cap', cur, h, hb, hc, h1, h2, h3, h4⟩⟩ := h
  · cases h
  · injection h with e1 _ e3
    injection e1 with e1
    injection e1 with e1 _ _
    subst e1 e3
    refine ⟨by rw [List.length_set]; exact hl, .inr ⟨g, cap, cur.setIfInBounds j v, rfl, hb, ?_, h1, h2, by simpa using h3, ?_⟩⟩
    · exact heap_setCell_same w g j cur e v hc
    · rw [Array.toList_setIfInBounds, List.take_set, h4]
end Go.Proofs.YtapachlhdgehjaaGreatDoor

/-
  Contracts of package region: the runs of a row.
-/
namespace Go.Proofs.YtapachlhdgehjaaGreatDoor
open Go.RowKit
attribute [local go_sem] ite_max ite_min

theorem info_parts {t : TypeId} {z : Value} {s b : Nat} (h : (Tryz.prog.info? t).map (fun i => (i.zero, i.size, i.bytes)) = some (some z, s, b)) : ∃ i, Tryz.prog.info? t = some i ∧ i.zero = some z ∧ i.size = s ∧ i.bytes = b := by
  cases hi : Tryz.prog.info? t with
  | none => rw [hi] at h; cases h
  | some i =>
    rw [hi] at h
    simp only [Option.map_some, Option.some.injEq, Prod.mk.injEq] at h
    exact ⟨i, rfl, h.1, h.2.1, h.2.2⟩
theorem row_lt {base : Nat} {e : TypeId} {size : Nat} {v : Value} {n : Nat} {xs : List Value} {X : World} (h : X.ownsRow base e size v n xs) (g : Nat) (hg : v.ownBlock = some g) : base ≤ g ∧ g < X.heap.size := by
  obtain ⟨hl, h⟩ := h
  rcases h with ⟨rfl, _⟩ | ⟨g', cap, cur, rfl, hb, hc, _⟩
  · cases hg
  · simp [Value.ownBlock] at hg
    subst hg
    exact ⟨hb, (Array.getElem?_eq_some_iff.1 hc).1⟩
theorem row_below {base : Nat} {e : TypeId} {size : Nat} {v : Value} {n : Nat} {xs : List Value} {X Y : World} (h : X.ownsRow base e size v n xs) (hb : Below X.heap.size X Y) : Y.ownsRow base e size v n xs := by
  obtain ⟨hl, h⟩ := h
  refine ⟨hl, ?_⟩
  rcases h with h | ⟨g, cap, cur, rfl, h0, h1, h2⟩
  · exact .inl h
  · exact .inr ⟨g, cap, cur, rfl, h0, (hb.block g (Array.getElem?_eq_some_iff.1 h1).1).trans h1, h2⟩
theorem row_weaken {base base' : Nat} {e : TypeId} {size : Nat} {v : Value} {n : Nat} {xs : List Value} {X : World} (h : X.ownsRow base e size v n xs) (hb : base' ≤ base) : X.ownsRow base' e size v n xs := by
  obtain ⟨hl, h⟩ := h
  refine ⟨hl, ?_⟩
  rcases h with h | ⟨g, cap, cur, rfl, h0, h1⟩
  · exact .inl h
  · exact .inr ⟨g, cap, cur, rfl, Nat.le_trans hb h0, h1⟩
theorem row_val {base : Nat} {e : TypeId} {size : Nat} {v : Value} {n : Nat} {xs : List Value} {X : World} (h : X.ownsRow base e size v n xs) : ∃ oa cap, v = .slice oa n cap ∧ n ≤ cap ∧ (0 < n → ∃ g, oa = some ⟨g, 0, none⟩ ∧ base ≤ g ∧ g < X.heap.size) := by
  obtain ⟨hl, h⟩ := h
  rcases h with ⟨rfl, rfl⟩ | ⟨g, cap, cur, rfl, h0, h1, h2, _⟩
  · exact ⟨none, 0, rfl, Nat.le_refl _, fun h => absurd h (Nat.lt_irrefl 0)⟩
  · exact ⟨_, cap, rfl, h2, fun _ => ⟨g, rfl, h0, (Array.getElem?_eq_some_iff.1 h1).1⟩⟩
theorem app_below {B : Nat} {w w1 w4 : World} {e : TypeId} {size n : Nat} {u : Value} {xs : List Value} (hB : Below w.heap.size w w1) (ar : w1.ownsRow B e size u n xs) (hBw : w.heap.size ≤ B) (hgrow : w1.grownBy w4 u.ownBlock) : Below w.heap.size w w4 :=
  hB.grown hgrow hB.size (fun g hg => Nat.le_trans hBw (row_lt ar g hg).1)

theorem below_drewN {B : Nat} {a w : World} {n : Nat} (h : Below B a w) : Below B a (w.drewN n) := ⟨h.os, h.tape, h.output, h.size, h.block⟩

end Go.Proofs.YtapachlhdgehjaaGreatDoor

/-
  No room behind no list; an append of nothing.
-/
namespace Go.Proofs.YtapachlhdgehjaaGreatDoor
open Go.RowKit

def NoNil (v : Value) : Prop := ∀ c, v = .slice none 0 c → c = 0
theorem own_nil {w : World} {base : Nat} {e : TypeId} {size n : Nat} {v : Value} {xs : List Value} (h : w.ownsRow base e size v n xs) : NoNil v := by
  intro c hc
  obtain ⟨_, ⟨h, _⟩ | ⟨g, cap, cur, h, _⟩⟩ := h
  · rw [h] at hc; injection hc with _ _ hc; exact hc.symm
  · rw [h] at hc; injection hc with hc _ _; cases hc

theorem app_none {P : Program} {w : World} {ops : Array Oper} {rest : List Oper} {o : Oper} {a : Act} {Q : Exit → Act → World → Prop} (hgd : o.guard = none) (s x : Operand) (t : TypeId)
    (ho : o.op = .call { callee := .builtin .append, args := #[s, x], argTypes := #[t, t] })
    (base : Nat) (e : TypeId) (i : TypeInfo) (size : Nat) (ht : P.underlying t = some (.slice e)) (hi : P.info? e = some i)
    (v : Value) (n : Nat) (xs : List Value) (hs : a.eval s = v) (hown : w.ownsRow base e size v n xs) (hx : a.eval x = .slice none 0 0)
    (h : ∀ v' w', v' = v → w' = w → wpList P ops Q rest (a.put o.dst v') w') : wpList P ops Q (o :: rest) a w :=
  wpList_append_own_none hgd s x t ho base e i size ht hi v n xs hs hown hx (h v w rfl rfl)

end Go.Proofs.YtapachlhdgehjaaGreatDoor

/-
  A region that draws its order, whose own operations only read and whose callees leave what was there: one walk. Contracts of the document's answer: its leaves.
-/
namespace Go.Proofs.YtapachlhdgehjaaGreatDoor
open Go.RowKit

structure Gw (W : World) where
  wd : World
  below : Below W.heap.size W wd

theorem wp_region_gw {P : Program} {id : Nat} {Q : Exit → Act → World → Prop} {a : Act} {w : World} {l : List Oper} (hm : P.follows .mixedOrders = true) (hB : Region.lexB .any l.toArray = true)
    (h : wpQuiet P l.toArray (fun w' => ∃ t : Gw w, w' = t.wd) (fun a' => ∀ w', (∃ t : Gw w, w' = t.wd) → Q .normal a' w') l a) : (Code.region id l.toArray true).wp P Q a w :=
  wp_region_quiet (C := fun w' => ∃ t : Gw w, w' = t.wd) hm hB ⟨⟨w.drew, (Below.refl _ _).drew⟩, rfl⟩ (by simpa using h)
theorem gw_call {P : Program} {f : FuncId} {args : Array Value} {W : World} {v : Value} {t : Gw W}
    (h : Calls P f args t.wd fun e w' => e = .returned v ∧ Below t.wd.heap.size t.wd w') : Calls P f args t.wd fun e w'' => e = .returned v ∧ ∃ t' : Gw W, w'' = t'.wd :=
  h.mono fun _ w'' ⟨he, hb⟩ => ⟨he, ⟨⟨w'', t.below.trans (hb.mono t.below.size)⟩, rfl⟩⟩
theorem gw_same {P : Program} {f : FuncId} {args : Array Value} {W : World} {v : Value} {t : Gw W}
    (h : Calls P f args t.wd fun e w' => e = .returned v ∧ w' = t.wd) : Calls P f args t.wd fun e w'' => e = .returned v ∧ ∃ t' : Gw W, w'' = t'.wd :=
  h.mono fun _ _ ⟨he, hw⟩ => ⟨he, ⟨t, hw⟩⟩
theorem gw_ne {B : Nat} {w W : World} (_h : Below B w W) : Nonempty (Gw W) := ⟨⟨W, Below.refl _ _⟩⟩
set_option maxHeartbeats 400000 in
theorem rwithin_any (n : Int) (w : World) :
    Calls Tryz.prog 147 #[.int .i64 n] w fun e w' => e = .returned (.bool (witB n (-16384) 16384)) ∧ w' = w := by
  by_cases c1 : -16384 ≤ n
  · go_enter Tryz.func147, Tryz.ntmps147
    go_wp2
    go_ret
    exact ⟨by simp [witB, c1], rfl⟩
  · go_enter Tryz.func147, Tryz.ntmps147
    go_wp2
    go_ret
    exact ⟨by simp [witB]; omega, rfl⟩

set_option maxHeartbeats 400000 in
theorem rside_any (n : Int) (w : World) :
    Calls Tryz.prog 148 #[.int .i64 n] w fun e w' => e = .returned (.bool (witB n 0 32768)) ∧ w' = w := by
  by_cases c1 : 0 ≤ n
  · go_enter Tryz.func148, Tryz.ntmps148
    go_wp2
    go_ret
    exact ⟨by simp [witB, c1], rfl⟩
  · go_enter Tryz.func148, Tryz.ntmps148
    go_wp2
    go_ret
    exact ⟨by simp [witB]; omega, rfl⟩

set_option maxHeartbeats 400000 in
theorem rspan_any (p n : Int) (w : World) :
    Calls Tryz.prog 111 #[.int .i64 p, .int .i64 n] w fun e w' => e = .returned (.bool (spanB p n)) ∧ w' = w := by
  cases h1 : witB p (-16384) 16384
  · rw [span_no1 p n h1]
    go_enter Tryz.func111, Tryz.ntmps111
    go_wp2_with (go_at_call 147; refine (rwithin_any _ _).mono ?_; rintro e w' ⟨rfl, rfl⟩)
    go_ret
    exact ⟨rfl, rfl⟩
  · cases h2 : witB n 0 32768
    · rw [span_no2 p n h1 h2]
      go_enter Tryz.func111, Tryz.ntmps111
      go_wp2_with (first | (go_at_call 147; refine (rwithin_any _ _).mono ?_; rintro e w' ⟨rfl, rfl⟩) | (go_at_call 148; refine (rside_any _ _).mono ?_; rintro e w' ⟨rfl, rfl⟩))
      go_ret
      exact ⟨rfl, rfl⟩
    · rw [span_ref p n h1 h2]
      have b1 := (wit_iff.1 h1).1
      have b2 := (wit_iff.1 h1).2
      have b3 := (wit_iff.1 h2).1
      have b4 := (wit_iff.1 h2).2
      go_enter Tryz.func111, Tryz.ntmps111
      go_wp2_with (first | (go_at_call 147; refine (rwithin_any _ _).mono ?_; rintro e w' ⟨rfl, rfl⟩) | (go_at_call 148; refine (rside_any _ _).mono ?_; rintro e w' ⟨rfl, rfl⟩))
      go_ret
      exact ⟨rfl, rfl⟩

set_option maxHeartbeats 400000 in
theorem rmay_any (x y n m : Int) (w : World) :
    Calls Tryz.prog 74 #[.agg #[.int .i64 x, .int .i64 y, .int .i64 n, .int .i64 m]] w fun e w' => e = .returned (.bool (mayB x y n m)) ∧ Below w.heap.size w w' := by
  cases h1 : spanB x n
  · go_enter Tryz.func74, Tryz.ntmps74
    go_wp2_with (go_at_call 111; refine (rspan_any _ _ _).mono ?_; rintro e w' ⟨rfl, rfl⟩)
    go_ret
    exact ⟨by simp [mayB, h1], (Below.refl _ _).alloc (Nat.le_refl _) _⟩
  · go_enter Tryz.func74, Tryz.ntmps74
    go_wp2_with (go_at_call 111; refine (rspan_any _ _ _).mono ?_; rintro e w' ⟨rfl, rfl⟩)
    go_ret
    exact ⟨by simp [mayB, h1], (Below.refl _ _).alloc (Nat.le_refl _) _⟩

end Go.Proofs.YtapachlhdgehjaaGreatDoor
