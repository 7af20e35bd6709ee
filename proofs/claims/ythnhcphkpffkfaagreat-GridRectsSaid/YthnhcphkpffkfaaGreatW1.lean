/-
  Contracts of the leaves of package geom: what each call answers; of what was there nothing turns.
-/
import Derived.Test.YthnhcphkpffkfaaGreatRows
import Derived.Test.YthnhcphkpffkfaaGreatPlain
import Derived.WalkKit
import Derived.WalkSpells
import Derived.WalkLawsBesides
namespace Go.Proofs.YthnhcphkpffkfaaGreat
open Go.RowKit

theorem bcell {W w1 : World} (hb : Below W.heap.size W w1) : (∀ b o, b < W.heap.size → w1.cell? ⟨b, o, none⟩ = W.cell? ⟨b, o, none⟩) ∧ (∀ b o, b < W.heap.size → w1.frozen? ⟨b, o, none⟩ = W.frozen? ⟨b, o, none⟩) :=
  ⟨fun b o h => hb.cell (p := ⟨b, o, none⟩) h, fun b o h => hb.frozen (p := ⟨b, o, none⟩) h⟩

theorem ret_bool {a b : Bool} (h : a = true ↔ b = true) : Ending.returned (.bool a) = .returned (.bool b) := by rw [Bool.eq_iff_iff.2 h]
theorem ret_int {a b : Int} (h : a = b) : Ending.returned (.int .i64 a) = .returned (.int .i64 b) := by rw [h]

/-- The builtin max, min, as the walk writes them. -/
theorem ite_max (x y : Int) : (if x < y then y else x) = max x y := by omega
theorem ite_min (x y : Int) : (if y < x then y else x) = min x y := by omega

/-- Sizes of worlds, for the walk's own reckoning. -/
theorem lt_s {a b : Nat} (h : a < b) : (a < b + 1) = True := by simp; omega
theorem le_s {a b : Nat} (h : a ≤ b) : (a ≤ b + 1) = True := by simp; omega
theorem le_lt {a b : Nat} (h : a < b) : (a ≤ b) = True := by simp; omega

/-- A block that holds a rectangle; a point. -/
def At4 (w : World) (b : Nat) (x y n m : Int) : Prop := w.cell? ⟨b, 0, none⟩ = some (.int .i64 x) ∧ w.cell? ⟨b, 1, none⟩ = some (.int .i64 y) ∧ w.cell? ⟨b, 2, none⟩ = some (.int .i64 n) ∧ w.cell? ⟨b, 3, none⟩ = some (.int .i64 m)
def At2 (w : World) (b : Nat) (x y : Int) : Prop := w.cell? ⟨b, 0, none⟩ = some (.int .i64 x) ∧ w.cell? ⟨b, 1, none⟩ = some (.int .i64 y)
theorem lt_of_cell {w : World} {b o : Nat} {u : Value} (h : w.cell? ⟨b, o, none⟩ = some u) : b < w.heap.size := World.block_lt_of_cell? w ⟨b, o, none⟩ h
theorem keepAt {W w1 : World} (hb : Below W.heap.size W w1) {b o0 : Nat} {u : Value} (h : W.cell? ⟨b, o0, none⟩ = some u) : ∀ o, w1.cell? ⟨b, o, none⟩ = W.cell? ⟨b, o, none⟩ :=
  fun o => hb.cell (p := ⟨b, o, none⟩) (lt_of_cell h)
theorem over_alloc {w : World} {b o : Nat} {u : Value} (h : w.cell? ⟨b, o, none⟩ = some u) (ob : Obj) : (w.alloc ob).cell? ⟨b, o, none⟩ = some u :=
  (keepAt ((Below.refl _ _).alloc (Nat.le_refl _) ob) h o).trans h
theorem over_drew {w : World} {b o : Nat} {u : Value} (h : w.cell? ⟨b, o, none⟩ = some u) : w.drew.cell? ⟨b, o, none⟩ = some u := h
theorem At4.drew {w : World} {b : Nat} {x y n m : Int} (h : At4 w b x y n m) : At4 w.drew b x y n m := h
theorem At2.drew {w : World} {b : Nat} {x y : Int} (h : At2 w b x y) : At2 w.drew b x y := h
theorem At4.lt {w : World} {b : Nat} {x y n m : Int} (h : At4 w b x y n m) : b < w.heap.size := lt_of_cell h.1
theorem At2.lt {w : World} {b : Nat} {x y : Int} (h : At2 w b x y) : b < w.heap.size := lt_of_cell h.1
theorem At4.below {W w1 : World} {b : Nat} {x y n m : Int} (h : At4 W b x y n m) (hb : Below W.heap.size W w1) : At4 w1 b x y n m := by
  have k := keepAt hb h.1
  exact ⟨(k 0).trans h.1, (k 1).trans h.2.1, (k 2).trans h.2.2.1, (k 3).trans h.2.2.2⟩
theorem At2.below {W w1 : World} {b : Nat} {x y : Int} (h : At2 W b x y) (hb : Below W.heap.size W w1) : At2 w1 b x y := by
  have k := keepAt hb h.1
  exact ⟨(k 0).trans h.1, (k 1).trans h.2⟩
theorem At4.alloc {w : World} {b : Nat} {x y n m : Int} (h : At4 w b x y n m) (o : Obj) : At4 (w.alloc o) b x y n m := h.below ((Below.refl _ _).alloc (Nat.le_refl _) o)
theorem At2.alloc {w : World} {b : Nat} {x y : Int} (h : At2 w b x y) (o : Obj) : At2 (w.alloc o) b x y := h.below ((Below.refl _ _).alloc (Nat.le_refl _) o)
theorem At4.new (w : World) (x y n m : Int) (t : TypeId) : At4 (w.alloc (.cells #[.int .i64 x, .int .i64 y, .int .i64 n, .int .i64 m] t)) w.heap.size x y n m := by
  unfold At4; simp
theorem At2.new (w : World) (x y : Int) (t : TypeId) : At2 (w.alloc (.cells #[.int .i64 x, .int .i64 y] t)) w.heap.size x y := by
  unfold At2; simp
theorem At2.new' (w : World) (b : Nat) (x y : Int) (t : TypeId) (h : b = w.heap.size) : At2 (w.alloc (.cells #[.int .i64 x, .int .i64 y] t)) b x y := by
  rw [h]; exact At2.new w x y t
theorem At4.new' (w : World) (b : Nat) (x y n m : Int) (t : TypeId) (h : b = w.heap.size) : At4 (w.alloc (.cells #[.int .i64 x, .int .i64 y, .int .i64 n, .int .i64 m] t)) b x y n m := by
  rw [h]; exact At4.new w x y n m t
theorem At4.set {w : World} {b : Nat} {x y n m : Int} (h : At4 w b x y n m) {p : Addr} (v : Value) (hp : p.block ≠ b) : At4 (w.setCell p v) b x y n m := by
  have k : ∀ o, (w.setCell p v).cell? ⟨b, o, none⟩ = w.cell? ⟨b, o, none⟩ := fun o => World.cell?_setCell_other w p ⟨b, o, none⟩ v (fun e => hp (by rw [e]))
  exact ⟨(k 0).trans h.1, (k 1).trans h.2.1, (k 2).trans h.2.2.1, (k 3).trans h.2.2.2⟩
theorem At2.set {w : World} {b : Nat} {x y : Int} (h : At2 w b x y) {p : Addr} (v : Value) (hp : p.block ≠ b) : At2 (w.setCell p v) b x y := by
  have k : ∀ o, (w.setCell p v).cell? ⟨b, o, none⟩ = w.cell? ⟨b, o, none⟩ := fun o => World.cell?_setCell_other w p ⟨b, o, none⟩ v (fun e => hp (by rw [e]))
  exact ⟨(k 0).trans h.1, (k 1).trans h.2⟩

theorem At2.put {w : World} {b : Nat} {u v : Int} (h : At2 w b u v) (x y : Int) : At2 ((w.setCell ⟨b, 0, none⟩ (.int .i64 x)).setCell ⟨b, 1, none⟩ (.int .i64 y)) b x y := by
  obtain ⟨h0, h1⟩ := h
  unfold At2
  simp [go_sem, h0, h1]
theorem At4.put {w : World} {b : Nat} {u0 u1 u2 u3 : Int} (h : At4 w b u0 u1 u2 u3) (x y n m : Int) : At4 ((((w.setCell ⟨b, 0, none⟩ (.int .i64 x)).setCell ⟨b, 1, none⟩ (.int .i64 y)).setCell ⟨b, 2, none⟩ (.int .i64 n)).setCell ⟨b, 3, none⟩ (.int .i64 m)) b x y n m := by
  obtain ⟨h0, h1, h2, h3⟩ := h
  unfold At4
  simp [go_sem, h0, h1, h2, h3]

/-- A block that may be written. -/
def Fr (w : World) (b : Nat) : Prop := b < w.heap.size ∧ ∀ o, w.frozen? ⟨b, o, none⟩ = false
theorem Fr.below {W w1 : World} {b : Nat} (h : Fr W b) (hb : Below W.heap.size W w1) : Fr w1 b :=
  ⟨Nat.lt_of_lt_of_le h.1 hb.size, fun o => (hb.frozen (p := ⟨b, o, none⟩) h.1).trans (h.2 o)⟩
theorem Fr.alloc {w : World} {b : Nat} (h : Fr w b) (o : Obj) : Fr (w.alloc o) b := h.below ((Below.refl _ _).alloc (Nat.le_refl _) o)
theorem Fr.set {w : World} {b : Nat} (h : Fr w b) (p : Addr) (v : Value) : Fr (w.setCell p v) b := ⟨by simpa [World.setCell] using h.1, fun o => by rw [World.frozen?_setCell]; exact h.2 o⟩
theorem Fr.drew {w : World} {b : Nat} (h : Fr w b) : Fr w.drew b := h
theorem Fr.new (w : World) (c : Array Value) (t : TypeId) : Fr (w.alloc (.cells c t)) w.heap.size := ⟨by simp, fun o => by simp⟩
theorem fr1 (w : World) (o1 : Obj) (c : Array Value) (t : TypeId) : Fr ((w.alloc o1).alloc (.cells c t)) (w.heap.size + 1) := by
  have h := Fr.new (w.alloc o1) c t
  rwa [World.size_alloc] at h
theorem fr2 (w : World) (o1 o2 : Obj) (c : Array Value) (t : TypeId) : Fr (((w.alloc o1).alloc o2).alloc (.cells c t)) (w.heap.size + 1 + 1) := by
  have h := Fr.new ((w.alloc o1).alloc o2) c t
  rwa [World.size_alloc, World.size_alloc] at h
/-- A rectangle stored into a block of the call's own. -/
theorem set4_below {B b : Nat} {w w1 : World} (L : Below B w w1) (h : B ≤ b) (v0 v1 v2 v3 : Value) : Below B w ((((w1.setCell ⟨b, 0, none⟩ v0).setCell ⟨b, 1, none⟩ v1).setCell ⟨b, 2, none⟩ v2).setCell ⟨b, 3, none⟩ v3) :=
  (((L.setCell h v0).setCell h v1).setCell h v2).setCell h v3
theorem boxes_r (w : World) (x y n m : Int) (t : TypeId) : At4 (w.alloc (.cells #[.int .i64 x, .int .i64 y, .int .i64 n, .int .i64 m] t)) w.heap.size x y n m ∧
    Below w.heap.size w (w.alloc (.cells #[.int .i64 x, .int .i64 y, .int .i64 n, .int .i64 m] t)) :=
  ⟨At4.new w x y n m t, (Below.refl _ w).alloc (Nat.le_refl _) _⟩
theorem boxes_rp (w : World) (x y n m px py : Int) (t t' : TypeId) : At4 ((w.alloc (.cells #[.int .i64 x, .int .i64 y, .int .i64 n, .int .i64 m] t)).alloc (.cells #[.int .i64 px, .int .i64 py] t')) w.heap.size x y n m ∧
    At2 ((w.alloc (.cells #[.int .i64 x, .int .i64 y, .int .i64 n, .int .i64 m] t)).alloc (.cells #[.int .i64 px, .int .i64 py] t')) (w.heap.size + 1) px py ∧
    Below w.heap.size w ((w.alloc (.cells #[.int .i64 x, .int .i64 y, .int .i64 n, .int .i64 m] t)).alloc (.cells #[.int .i64 px, .int .i64 py] t')) := by
  have B := At2.new (w.alloc (.cells #[.int .i64 x, .int .i64 y, .int .i64 n, .int .i64 m] t)) px py t'
  simp only [World.size_alloc] at B
  exact ⟨(At4.new w x y n m t).alloc _, B, ((Below.refl _ w).alloc (Nat.le_refl _) _).alloc (by simp) _⟩
theorem boxes_rr (w : World) (ax ay aw ah bx by' bw bh : Int) (t t' : TypeId) : At4 ((w.alloc (.cells #[.int .i64 ax, .int .i64 ay, .int .i64 aw, .int .i64 ah] t)).alloc (.cells #[.int .i64 bx, .int .i64 by', .int .i64 bw, .int .i64 bh] t')) w.heap.size ax ay aw ah ∧
    At4 ((w.alloc (.cells #[.int .i64 ax, .int .i64 ay, .int .i64 aw, .int .i64 ah] t)).alloc (.cells #[.int .i64 bx, .int .i64 by', .int .i64 bw, .int .i64 bh] t')) (w.heap.size + 1) bx by' bw bh ∧
    Below w.heap.size w ((w.alloc (.cells #[.int .i64 ax, .int .i64 ay, .int .i64 aw, .int .i64 ah] t)).alloc (.cells #[.int .i64 bx, .int .i64 by', .int .i64 bw, .int .i64 bh] t')) := by
  have B := At4.new (w.alloc (.cells #[.int .i64 ax, .int .i64 ay, .int .i64 aw, .int .i64 ah] t)) bx by' bw bh t'
  simp only [World.size_alloc] at B
  exact ⟨(At4.new w ax ay aw ah t).alloc _, B, ((Below.refl _ w).alloc (Nat.le_refl _) _).alloc (by simp) _⟩

theorem boxes_ppr (w : World) (ax ay bx by' : Int) (t t' t'' : TypeId) : At2 (((w.alloc (.cells #[.int .i64 ax, .int .i64 ay] t)).alloc (.cells #[.int .i64 bx, .int .i64 by'] t')).alloc (.cells #[.int .i64 0, .int .i64 0, .int .i64 0, .int .i64 0] t'')) w.heap.size ax ay ∧
    At2 (((w.alloc (.cells #[.int .i64 ax, .int .i64 ay] t)).alloc (.cells #[.int .i64 bx, .int .i64 by'] t')).alloc (.cells #[.int .i64 0, .int .i64 0, .int .i64 0, .int .i64 0] t'')) (w.heap.size + 1) bx by' ∧
    At4 (((w.alloc (.cells #[.int .i64 ax, .int .i64 ay] t)).alloc (.cells #[.int .i64 bx, .int .i64 by'] t')).alloc (.cells #[.int .i64 0, .int .i64 0, .int .i64 0, .int .i64 0] t'')) (w.heap.size + 1 + 1) 0 0 0 0 ∧
    Below w.heap.size w (((w.alloc (.cells #[.int .i64 ax, .int .i64 ay] t)).alloc (.cells #[.int .i64 bx, .int .i64 by'] t')).alloc (.cells #[.int .i64 0, .int .i64 0, .int .i64 0, .int .i64 0] t'')) := by
  have B := (At2.new (w.alloc (.cells #[.int .i64 ax, .int .i64 ay] t)) bx by' t').alloc (.cells #[.int .i64 0, .int .i64 0, .int .i64 0, .int .i64 0] t'')
  have C := At4.new ((w.alloc (.cells #[.int .i64 ax, .int .i64 ay] t)).alloc (.cells #[.int .i64 bx, .int .i64 by'] t')) 0 0 0 0 t''
  simp only [World.size_alloc] at B C
  exact ⟨((At2.new w ax ay t).alloc _).alloc _, B, C, (((Below.refl _ w).alloc (Nat.le_refl _) _).alloc (by simp) _).alloc (by simp; omega) _⟩

/-- What a call that takes two rectangles and answers one has laid when it begins. -/
theorem boxes_rrr (w : World) (ax ay aw ah bx by' bw bh : Int) (t t' t'' : TypeId) : At4 (((w.alloc (.cells #[.int .i64 ax, .int .i64 ay, .int .i64 aw, .int .i64 ah] t)).alloc (.cells #[.int .i64 bx, .int .i64 by', .int .i64 bw, .int .i64 bh] t')).alloc (.cells #[.int .i64 0, .int .i64 0, .int .i64 0, .int .i64 0] t'')) w.heap.size ax ay aw ah ∧
    At4 (((w.alloc (.cells #[.int .i64 ax, .int .i64 ay, .int .i64 aw, .int .i64 ah] t)).alloc (.cells #[.int .i64 bx, .int .i64 by', .int .i64 bw, .int .i64 bh] t')).alloc (.cells #[.int .i64 0, .int .i64 0, .int .i64 0, .int .i64 0] t'')) (w.heap.size + 1) bx by' bw bh ∧
    At4 (((w.alloc (.cells #[.int .i64 ax, .int .i64 ay, .int .i64 aw, .int .i64 ah] t)).alloc (.cells #[.int .i64 bx, .int .i64 by', .int .i64 bw, .int .i64 bh] t')).alloc (.cells #[.int .i64 0, .int .i64 0, .int .i64 0, .int .i64 0] t'')) (w.heap.size + 1 + 1) 0 0 0 0 ∧
    Below w.heap.size w (((w.alloc (.cells #[.int .i64 ax, .int .i64 ay, .int .i64 aw, .int .i64 ah] t)).alloc (.cells #[.int .i64 bx, .int .i64 by', .int .i64 bw, .int .i64 bh] t')).alloc (.cells #[.int .i64 0, .int .i64 0, .int .i64 0, .int .i64 0] t'')) := by
  have B := (At4.new (w.alloc (.cells #[.int .i64 ax, .int .i64 ay, .int .i64 aw, .int .i64 ah] t)) bx by' bw bh t').alloc (.cells #[.int .i64 0, .int .i64 0, .int .i64 0, .int .i64 0] t'')
  have C := At4.new ((w.alloc (.cells #[.int .i64 ax, .int .i64 ay, .int .i64 aw, .int .i64 ah] t)).alloc (.cells #[.int .i64 bx, .int .i64 by', .int .i64 bw, .int .i64 bh] t')) 0 0 0 0 t''
  simp only [World.size_alloc] at B C
  exact ⟨((At4.new w ax ay aw ah t).alloc _).alloc _, B, C, (((Below.refl _ w).alloc (Nat.le_refl _) _).alloc (by simp) _).alloc (by simp; omega) _⟩

set_option maxHeartbeats 400000 in
theorem span_any (p n : Int) (w : World) (hp : I64 p) :
    Calls Tryz.prog 59 #[.int .i64 p, .int .i64 n] w fun e w' => e = .returned (.bool (spanB p n)) ∧ w' = w := by
  obtain ⟨h1, h2⟩ := hp
  by_cases c1 : 0 ≤ n
  · by_cases c2 : -16384 ≤ p
    · go_enter Tryz.func59, Tryz.ntmps59
      go_wp2
      go_ret
      exact ⟨by simp [spanB, c1, c2], rfl⟩
    · go_enter Tryz.func59, Tryz.ntmps59
      go_wp2
      go_ret
      exact ⟨by simp [spanB]; omega, rfl⟩
  · go_enter Tryz.func59, Tryz.ntmps59
    go_wp2
    go_ret
    exact ⟨by simp [spanB]; omega, rfl⟩

set_option maxHeartbeats 400000 in
theorem check_any (x y n m : Int) (w : World) (hx : I64 x) (hy : I64 y) :
    Calls Tryz.prog 27 #[.agg #[.int .i64 x, .int .i64 y, .int .i64 n, .int .i64 m]] w fun e w' => e = .returned (.int .i64 (chk x y n m)) ∧ Below w.heap.size w w' := by
  cases h1 : spanB x n
  · go_enter Tryz.func27, Tryz.ntmps27
    go_wp2_with (go_at_call 59; refine (span_any _ _ _ (by assumption)).mono ?_; rintro e w' ⟨rfl, rfl⟩)
    go_ret
    exact ⟨by simp [chk, mayB, h1], (Below.refl _ _).alloc (Nat.le_refl _) _⟩
  · cases h2 : spanB y m
    · go_enter Tryz.func27, Tryz.ntmps27
      go_wp2_with (go_at_call 59; refine (span_any _ _ _ (by assumption)).mono ?_; rintro e w' ⟨rfl, rfl⟩)
      go_ret
      exact ⟨by simp [chk, mayB, h2], (Below.refl _ _).alloc (Nat.le_refl _) _⟩
    · go_enter Tryz.func27, Tryz.ntmps27
      go_wp2_with (go_at_call 59; refine (span_any _ _ _ (by assumption)).mono ?_; rintro e w' ⟨rfl, rfl⟩)
      go_ret
      exact ⟨by simp [chk, mayB, h1, h2], (Below.refl _ _).alloc (Nat.le_refl _) _⟩

end Go.Proofs.YthnhcphkpffkfaaGreat
