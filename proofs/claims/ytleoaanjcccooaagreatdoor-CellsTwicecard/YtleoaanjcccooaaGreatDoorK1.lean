/-
  Texts of this claim, one behind the other: what each is about stands ahead of it.
-/
import Derived.Test.YtleoaanjcccooaaGreatDoorRows
import Derived.Test.YtleoaanjcccooaaGreatDoorK0
import Derived.WalkKit
import Derived.WalkSpells
import Derived.WalkLawsBesides
import Derived.Deep.AppendLies
import Derived.BigQuiet
import Derived.Laws.AppendOwnNone
import Derived.Deep.QuietTactic
/-
  Contracts of the leaves of package geom: what each call answers; of what was there nothing turns.
-/
namespace Go.Proofs.YtleoaanjcccooaaGreatDoor
open Go.RowKit

theorem bcell {W w1 : World} (hb : Below W.heap.size W w1) : (∀ b o, b < W.heap.size → w1.cell? ⟨b, o, none⟩ = W.cell? ⟨b, o, none⟩) ∧ (∀ b o, b < W.heap.size → w1.frozen? ⟨b, o, none⟩ = W.frozen? ⟨b, o, none⟩) :=
  ⟨fun b o h => hb.cell (p := ⟨b, o, none⟩) h, fun b o h => hb.frozen (p := ⟨b, o, none⟩) h⟩

theorem ret_bool {a b : Bool} (h : a = true ↔ b = true) : Ending.returned (.bool a) = .returned (.bool b) := by rw [Bool.eq_iff_iff.2 h]
theorem ret_int {a b : Int} (h : a = b) : Ending.returned (.int .i64 a) = .returned (.int .i64 b) := by rw [h]

/-- The builtin max, min, as the walk writes them. -/
theorem ite_max (x y : Int) : (if x < y then y else x) = max x y := by omega
theorem ite_min (x y : Int) : (if y < x then y else x) = min x y := by omega

/-- Sizes of worlds, for the walk's own reckoning. -/
theorem lt_s {a b : Nat} (h : a < b) : (a < b + 1) = True := by simp; omega
theorem le_s {a b : Nat} (h : a ≤ b) : (a ≤ b + 1) = True := by simp; omega
theorem le_lt {a b : Nat} (h : a < b) : (a ≤ b) = True := by simp; omega

/-- A block that holds a rectangle; a point. -/
def At4 (w : World) (b : Nat) (x y n m : Int) : Prop := w.cell? ⟨b, 0, none⟩ = some (.int .i64 x) ∧ w.cell? ⟨b, 1, none⟩ = some (.int .i64 y) ∧ w.cell? ⟨b, 2, none⟩ = some (.int .i64 n) ∧ w.cell? ⟨b, 3, none⟩ = some (.int .i64 m)
def At2 (w : World) (b : Nat) (x y : Int) : Prop := w.cell? ⟨b, 0, none⟩ = some (.int .i64 x) ∧ w.cell? ⟨b, 1, none⟩ = some (.int .i64 y)
theorem lt_of_cell {w : World} {b o : Nat} {u : Value} (h : w.cell? ⟨b, o, none⟩ = some u) : b < w.heap.size := World.block_lt_of_cell? w ⟨b, o, none⟩ h
theorem keepAt {W w1 : World} (hb : Below W.heap.size W w1) {b o0 : Nat} {u : Value} (h : W.cell? ⟨b, o0, none⟩ = some u) : ∀ o, w1.cell? ⟨b, o, none⟩ = W.cell? ⟨b, o, none⟩ :=
  fun o => hb.cell (p := ⟨b, o, none⟩) (lt_of_cell h)
theorem over_alloc {w : World} {b o : Nat} {u : Value} (h : w.cell? ⟨b, o, none⟩ = some u) (ob : Obj) : (w.alloc ob).cell? ⟨b, o, none⟩ = some u :=
  (keepAt ((Below.refl _ _).alloc (Nat.le_refl _) ob) h o).trans h
theorem over_drew {w : World} {b o : Nat} {u : Value} (h : w.cell? ⟨b, o, none⟩ = some u) : w.drew.cell? ⟨b, o, none⟩ = some u := h
theorem At4.drew {w : World} {b : Nat} {x y n m : Int} (h : At4 w b x y n m) : At4 w.drew b x y n m := h
theorem At2.drew {w : World} {b : Nat} {x y : Int} (h : At2 w b x y) : At2 w.drew b x y := h
theorem At4.lt {w : World} {b : Nat} {x y n m : Int} (h : At4 w b x y n m) : b < w.heap.size := lt_of_cell h.1
theorem At2.lt {w : World} {b : Nat} {x y : Int} (h : At2 w b x y) : b < w.heap.size := lt_of_cell h.1
theorem At4.below {W w1 : World} {b : Nat} {x y n m : Int} (h : At4 W b x y n m) (hb : Below W.heap.size W w1) : At4 w1 b x y n m := by
  have k := keepAt hb h.1
  exact ⟨(k 0).trans h.1, (k 1).trans h.2.1, (k 2).trans h.2.2.1, (k 3).trans h.2.2.2⟩
theorem At2.below {W w1 : World} {b : Nat} {x y : Int} (h : At2 W b x y) (hb : Below W.heap.size W w1) : At2 w1 b x y := by
  have k := keepAt hb h.1
  exact ⟨(k 0).trans h.1, (k 1).trans h.2⟩
theorem At4.alloc {w : World} {b : Nat} {x y n m : Int} (h : At4 w b x y n m) (o : Obj) : At4 (w.alloc o) b x y n m := h.below ((Below.refl _ _).alloc (Nat.le_refl _) o)
theorem At2.alloc {w : World} {b : Nat} {x y : Int} (h : At2 w b x y) (o : Obj) : At2 (w.alloc o) b x y := h.below ((Below.refl _ _).alloc (Nat.le_refl _) o)
theorem At4.new (w : World) (x y n m : Int) (t : TypeId) : At4 (w.alloc (.cells #[.int .i64 x, .int .i64 y, .int .i64 n, .int .i64 m] t)) w.heap.size x y n m := by
  unfold At4; simp
theorem At2.new (w : World) (x y : Int) (t : TypeId) : At2 (w.alloc (.cells #[.int .i64 x, .int .i64 y] t)) w.heap.size x y := by
  unfold At2; simp
theorem At2.new' (w : World) (b : Nat) (x y : Int) (t : TypeId) (h : b = w.heap.size) : At2 (w.alloc (.cells #[.int .i64 x, .int .i64 y] t)) b x y := by
  rw [h]; exact At2.new w x y t
theorem At4.new' (w : World) (b : Nat) (x y n m : Int) (t : TypeId) (h : b = w.heap.size) : At4 (w.alloc (.cells #[.int .i64 x, .int .i64 y, .int .i64 n, .int .i64 m] t)) b x y n m := by
  rw [h]; exact At4.new w x y n m t
theorem At4.set {w : World} {b : Nat} {x y n m : Int} (h : At4 w b x y n m) {p : Addr} (v : Value) (hp : p.block ≠ b) : At4 (w.setCell p v) b x y n m := by
  have k : ∀ o, (w.setCell p v).cell? ⟨b, o, none⟩ = w.cell? ⟨b, o, none⟩ := fun o => World.cell?_setCell_other w p ⟨b, o, none⟩ v (fun e => hp (by rw [e]))
  exact ⟨(k 0).trans h.1, (k 1).trans h.2.1, (k 2).trans h.2.2.1, (k 3).trans h.2.2.2⟩
theorem At2.set {w : World} {b : Nat} {x y : Int} (h : At2 w b x y) {p : Addr} (v : Value) (hp : p.block ≠ b) : At2 (w.setCell p v) b x y := by
  have k : ∀ o, (w.setCell p v).cell? ⟨b, o, none⟩ = w.cell? ⟨b, o, none⟩ := fun o => World.cell?_setCell_other w p ⟨b, o, none⟩ v (fun e => hp (by rw [e]))
  exact ⟨(k 0).trans h.1, (k 1).trans h.2⟩

theorem At2.put {w : World} {b : Nat} {u v : Int} (h : At2 w b u v) (x y : Int) : At2 ((w.setCell ⟨b, 0, none⟩ (.int .i64 x)).setCell ⟨b, 1, none⟩ (.int .i64 y)) b x y := by
  obtain ⟨h0, h1⟩ := h
  unfold At2
  simp [go_sem, h0, h1]
theorem At4.put {w : World} {b : Nat} {u0 u1 u2 u3 : Int} (h : At4 w b u0 u1 u2 u3) (x y n m : Int) : At4 ((((w.setCell ⟨b, 0, none⟩ (.int .i64 x)).setCell ⟨b, 1, none⟩ (.int .i64 y)).setCell ⟨b, 2, none⟩ (.int .i64 n)).setCell ⟨b, 3, none⟩ (.int .i64 m)) b x y n m := by
  obtain ⟨h0, h1, h2, h3⟩ := h
  unfold At4
  simp [go_sem, h0, h1, h2, h3]

/-- A block that may be written. -/
def Fr (w : World) (b : Nat) : Prop := b < w.heap.size ∧ ∀ o, w.frozen? ⟨b, o, none⟩ = false
theorem Fr.below {W w1 : World} {b : Nat} (h : Fr W b) (hb : Below W.heap.size W w1) : Fr w1 b :=
  ⟨Nat.lt_of_lt_of_le h.1 hb.size, fun o => (hb.frozen (p := ⟨b, o, none⟩) h.1).trans (h.2 o)⟩
theorem Fr.alloc {w : World} {b : Nat} (h : Fr w b) (o : Obj) : Fr (w.alloc o) b := h.below ((Below.refl _ _).alloc (Nat.le_refl _) o)
theorem Fr.set {w : World} {b : Nat} (h : Fr w b) (p : Addr) (v : Value) : Fr (w.setCell p v) b := ⟨by simpa [World.setCell] using h.1, fun o => by rw [World.frozen?_setCell]; exact h.2 o⟩
theorem Fr.drew {w : World} {b : Nat} (h : Fr w b) : Fr w.drew b := h
theorem Fr.new (w : World) (c : Array Value) (t : TypeId) : Fr (w.alloc (.cells c t)) w.heap.size := ⟨by simp, fun o => by simp⟩
theorem fr1 (w : World) (o1 : Obj) (c : Array Value) (t : TypeId) : Fr ((w.alloc o1).alloc (.cells c t)) (w.heap.size + 1) := by
  have h := Fr.new (w.alloc o1) c t
  rwa [World.size_alloc] at h
theorem fr2 (w : World) (o1 o2 : Obj) (c : Array Value) (t : TypeId) : Fr (((w.alloc o1).alloc o2).alloc (.cells c t)) (w.heap.size + 1 + 1) := by
  have h := Fr.new ((w.alloc o1).alloc o2) c t
  rwa [World.size_alloc, World.size_alloc] at h
/-- A rectangle stored into a block of the call's own. -/
theorem set4_below {B b : Nat} {w w1 : World} (L : Below B w w1) (h : B ≤ b) (v0 v1 v2 v3 : Value) : Below B w ((((w1.setCell ⟨b, 0, none⟩ v0).setCell ⟨b, 1, none⟩ v1).setCell ⟨b, 2, none⟩ v2).setCell ⟨b, 3, none⟩ v3) :=
  (((L.setCell h v0).setCell h v1).setCell h v2).setCell h v3
theorem boxes_r (w : World) (x y n m : Int) (t : TypeId) : At4 (w.alloc (.cells #[.int .i64 x, .int .i64 y, .int .i64 n, .int .i64 m] t)) w.heap.size x y n m ∧
    Below w.heap.size w (w.alloc (.cells #[.int .i64 x, .int .i64 y, .int .i64 n, .int .i64 m] t)) :=
  ⟨At4.new w x y n m t, (Below.refl _ w).alloc (Nat.le_refl _) _⟩
theorem boxes_rp (w : World) (x y n m px py : Int) (t t' : TypeId) : At4 ((w.alloc (.cells #[.int .i64 x, .int .i64 y, .int .i64 n, .int .i64 m] t)).alloc (.cells #[.int .i64 px, .int .i64 py] t')) w.heap.size x y n m ∧
    At2 ((w.alloc (.cells #[.int .i64 x, .int .i64 y, .int .i64 n, .int .i64 m] t)).alloc (.cells #[.int .i64 px, .int .i64 py] t')) (w.heap.size + 1) px py ∧
    Below w.heap.size w ((w.alloc (.cells #[.int .i64 x, .int .i64 y, .int .i64 n, .int .i64 m] t)).alloc (.cells #[.int .i64 px, .int .i64 py] t')) := by
  have B := At2.new (w.alloc (.cells #[.int .i64 x, .int .i64 y, .int .i64 n, .int .i64 m] t)) px py t'
  simp only [World.size_alloc] at B
  exact ⟨(At4.new w x y n m t).alloc _, B, ((Below.refl _ w).alloc (Nat.le_refl _) _).alloc (by simp) _⟩
theorem boxes_rr (w : World) (ax ay aw ah bx by' bw bh : Int) (t t' : TypeId) : At4 ((w.alloc (.cells #[.int .i64 ax, .int .i64 ay, .int .i64 aw, .int .i64 ah] t)).alloc (.cells #[.int .i64 bx, .int .i64 by', .int .i64 bw, .int .i64 bh] t')) w.heap.size ax ay aw ah ∧
    At4 ((w.alloc (.cells #[.int .i64 ax, .int .i64 ay, .int .i64 aw, .int .i64 ah] t)).alloc (.cells #[.int .i64 bx, .int .i64 by', .int .i64 bw, .int .i64 bh] t')) (w.heap.size + 1) bx by' bw bh ∧
    Below w.heap.size w ((w.alloc (.cells #[.int .i64 ax, .int .i64 ay, .int .i64 aw, .int .i64 ah] t)).alloc (.cells #[.int .i64 bx, .int .i64 by', .int .i64 bw, .int .i64 bh] t')) := by
  have B := At4.new (w.alloc (.cells #[.int .i64 ax, .int .i64 ay, .int .i64 aw, .int .i64 ah] t)) bx by' bw bh t'
  simp only [World.size_alloc] at B
  exact ⟨(At4.new w ax ay aw ah t).alloc _, B, ((Below.refl _ w).alloc (Nat.le_refl _) _).alloc (by simp) _⟩

theorem boxes_ppr (w : World) (ax ay bx by' : Int) (t t' t'' : TypeId) : At2 (((w.alloc (.cells #[.int .i64 ax, .int .i64 ay] t)).alloc (.cells #[.int .i64 bx, .int .i64 by'] t')).alloc (.cells #[.int .i64 0, .int .i64 0, .int .i64 0, .int .i64 0] t'')) w.heap.size ax ay ∧
    At2 (((w.alloc (.cells #[.int .i64 ax, .int .i64 ay] t)).alloc (.cells #[.int .i64 bx, .int .i64 by'] t')).alloc (.cells #[.int .i64 0, .int .i64 0, .int .i64 0, .int .i64 0] t'')) (w.heap.size + 1) bx by' ∧
    At4 (((w.alloc (.cells #[.int .i64 ax, .int .i64 ay] t)).alloc (.cells #[.int .i64 bx, .int .i64 by'] t')).alloc (.cells #[.int .i64 0, .int .i64 0, .int .i64 0, .int .i64 0] t'')) (w.heap.size + 1 + 1) 0 0 0 0 ∧
    Below w.heap.size w (((w.alloc (.cells #[.int .i64 ax, .int .i64 ay] t)).alloc (.cells #[.int .i64 bx, .int .i64 by'] t')).alloc (.cells #[.int .i64 0, .int .i64 0, .int .i64 0, .int .i64 0] t'')) := by
  have B := (At2.new (w.alloc (.cells #[.int .i64 ax, .int .i64 ay] t)) bx by' t').alloc (.cells #[.int .i64 0, .int .i64 0, .int .i64 0, .int .i64 0] t'')
  have C := At4.new ((w.alloc (.cells #[.int .i64 ax, .int .i64 ay] t)).alloc (.cells #[.int .i64 bx, .int .i64 by'] t')) 0 0 0 0 t''
  simp only [World.size_alloc] at B C
  exact ⟨((At2.new w ax ay t).alloc _).alloc _, B, C, (((Below.refl _ w).alloc (Nat.le_refl _) _).alloc (by simp) _).alloc (by simp; omega) _⟩

/-- What a call that takes two rectangles and answers one has laid when it begins. -/
theorem boxes_rrr (w : World) (ax ay aw ah bx by' bw bh : Int) (t t' t'' : TypeId) : At4 (((w.alloc (.cells #[.int .i64 ax, .int .i64 ay, .int .i64 aw, .int .i64 ah] t)).alloc (.cells #[.int .i64 bx, .int .i64 by', .int .i64 bw, .int .i64 bh] t')).alloc (.cells #[.int .i64 0, .int .i64 0, .int .i64 0, .int .i64 0] t'')) w.heap.size ax ay aw ah ∧
    At4 (((w.alloc (.cells #[.int .i64 ax, .int .i64 ay, .int .i64 aw, .int .i64 ah] t)).alloc (.cells #[.int .i64 bx, .int .i64 by', .int .i64 bw, .int .i64 bh] t')).alloc (.cells #[.int .i64 0, .int .i64 0, .int .i64 0, .int .i64 0] t'')) (w.heap.size + 1) bx by' bw bh ∧
    At4 (((w.alloc (.cells #[.int .i64 ax, .int .i64 ay, .int .i64 aw, .int .i64 ah] t)).alloc (.cells #[.int .i64 bx, .int .i64 by', .int .i64 bw, .int .i64 bh] t')).alloc (.cells #[.int .i64 0, .int .i64 0, .int .i64 0, .int .i64 0] t'')) (w.heap.size + 1 + 1) 0 0 0 0 ∧
    Below w.heap.size w (((w.alloc (.cells #[.int .i64 ax, .int .i64 ay, .int .i64 aw, .int .i64 ah] t)).alloc (.cells #[.int .i64 bx, .int .i64 by', .int .i64 bw, .int .i64 bh] t')).alloc (.cells #[.int .i64 0, .int .i64 0, .int .i64 0, .int .i64 0] t'')) := by
  have B := (At4.new (w.alloc (.cells #[.int .i64 ax, .int .i64 ay, .int .i64 aw, .int .i64 ah] t)) bx by' bw bh t').alloc (.cells #[.int .i64 0, .int .i64 0, .int .i64 0, .int .i64 0] t'')
  have C := At4.new ((w.alloc (.cells #[.int .i64 ax, .int .i64 ay, .int .i64 aw, .int .i64 ah] t)).alloc (.cells #[.int .i64 bx, .int .i64 by', .int .i64 bw, .int .i64 bh] t')) 0 0 0 0 t''
  simp only [World.size_alloc] at B C
  exact ⟨((At4.new w ax ay aw ah t).alloc _).alloc _, B, C, (((Below.refl _ w).alloc (Nat.le_refl _) _).alloc (by simp) _).alloc (by simp; omega) _⟩

set_option maxHeartbeats 400000 in
theorem span_any (p n : Int) (w : World) (hp : I64 p) :
    Calls Tryz.prog 94 #[.int .i64 p, .int .i64 n] w fun e w' => e = .returned (.bool (spanB p n)) ∧ w' = w := by
  obtain ⟨h1, h2⟩ := hp
  by_cases c1 : 0 ≤ n
  · by_cases c2 : -16384 ≤ p
    · go_enter Tryz.func94, Tryz.ntmps94
      go_wp2
      go_ret
      exact ⟨by simp [spanB, c1, c2], rfl⟩
    · go_enter Tryz.func94, Tryz.ntmps94
      go_wp2
      go_ret
      exact ⟨by simp [spanB]; omega, rfl⟩
  · go_enter Tryz.func94, Tryz.ntmps94
    go_wp2
    go_ret
    exact ⟨by simp [spanB]; omega, rfl⟩

set_option maxHeartbeats 400000 in
theorem within_any (n lo hi : Int) (w : World) :
    Calls Tryz.prog 151 #[.int .i64 n, .int .i64 lo, .int .i64 hi] w fun e w' => e = .returned (.bool (witB n lo hi)) ∧ w' = w := by
  by_cases c1 : lo ≤ n
  · go_enter Tryz.func151, Tryz.ntmps151
    go_wp2
    go_ret
    exact ⟨by simp [witB, c1], rfl⟩
  · go_enter Tryz.func151, Tryz.ntmps151
    go_wp2
    go_ret
    exact ⟨by simp [witB]; omega, rfl⟩

set_option maxHeartbeats 400000 in
theorem check_any (x y n m : Int) (w : World) (hx : I64 x) (hy : I64 y) :
    Calls Tryz.prog 60 #[.agg #[.int .i64 x, .int .i64 y, .int .i64 n, .int .i64 m]] w fun e w' => e = .returned (.int .i64 (chk x y n m)) ∧ Below w.heap.size w w' := by
  cases h1 : spanB x n
  · go_enter Tryz.func60, Tryz.ntmps60
    go_wp2_with (go_at_call 94; refine (span_any _ _ _ (by assumption)).mono ?_; rintro e w' ⟨rfl, rfl⟩)
    go_ret
    exact ⟨by simp [chk, mayB, h1], (Below.refl _ _).alloc (Nat.le_refl _) _⟩
  · cases h2 : spanB y m
    · go_enter Tryz.func60, Tryz.ntmps60
      go_wp2_with (go_at_call 94; refine (span_any _ _ _ (by assumption)).mono ?_; rintro e w' ⟨rfl, rfl⟩)
      go_ret
      exact ⟨by simp [chk, mayB, h2], (Below.refl _ _).alloc (Nat.le_refl _) _⟩
    · go_enter Tryz.func60, Tryz.ntmps60
      go_wp2_with (go_at_call 94; refine (span_any _ _ _ (by assumption)).mono ?_; rintro e w' ⟨rfl, rfl⟩)
      go_ret
      exact ⟨by simp [chk, mayB, h1, h2], (Below.refl _ _).alloc (Nat.le_refl _) _⟩

set_option maxHeartbeats 400000 in
theorem empty_any (x y n m : Int) (w : World) (hx : I64 x) (hy : I64 y) :
    Calls Tryz.prog 25 #[.agg #[.int .i64 x, .int .i64 y, .int .i64 n, .int .i64 m]] w fun e w' => e = .returned (.bool (emptyB x y n m)) ∧ Below w.heap.size w w' := by
  have hk := chk_ne x y n m
  cases h1 : mayB x y n m
  · go_enter Tryz.func25, Tryz.ntmps25
    go_wp2_with fail
    refine (check_any _ _ _ _ _ (by assumption) (by assumption)).mono ?_
    rintro e w1 ⟨rfl, hb⟩
    obtain ⟨hc, hf⟩ := bcell hb
    go_wp2
    go_ret
    exact ⟨by simp [emptyB, h1], ((Below.refl _ _).alloc (Nat.le_refl _) _).trans (hb.mono (by simp))⟩
  · by_cases c1 : (n == 0) = true
    · go_enter Tryz.func25, Tryz.ntmps25
      go_wp2_with fail
      refine (check_any _ _ _ _ _ (by assumption) (by assumption)).mono ?_
      rintro e w1 ⟨rfl, hb⟩
      obtain ⟨hc, hf⟩ := bcell hb
      go_wp2
      go_ret
      exact ⟨by simp [emptyB, c1], ((Below.refl _ _).alloc (Nat.le_refl _) _).trans (hb.mono (by simp))⟩
    · have c1 : (n == 0) = false := by simpa using c1
      go_enter Tryz.func25, Tryz.ntmps25
      go_wp2_with fail
      refine (check_any _ _ _ _ _ (by assumption) (by assumption)).mono ?_
      rintro e w1 ⟨rfl, hb⟩
      obtain ⟨hc, hf⟩ := bcell hb
      go_wp2
      go_ret
      exact ⟨by simp [emptyB, h1, c1], ((Below.refl _ _).alloc (Nat.le_refl _) _).trans (hb.mono (by simp))⟩

set_option maxHeartbeats 400000 in
theorem between_any (lx ly hx hy : Int) (w : World) (b1 : -1000000 ≤ lx) (b2 : lx ≤ 1000000) (b3 : -1000000 ≤ ly) (b4 : ly ≤ 1000000) (b5 : -1000000 ≤ hx) (b6 : hx ≤ 1000000) (b7 : -1000000 ≤ hy) (b8 : hy ≤ 1000000) :
    Calls Tryz.prog 59 #[.agg #[.int .i64 lx, .int .i64 ly], .agg #[.int .i64 hx, .int .i64 hy]] w fun e w' => e = .returned (.agg #[.int .i64 (btw lx ly hx hy).x, .int .i64 (btw lx ly hx hy).y, .int .i64 (btw lx ly hx hy).w, .int .i64 (btw lx ly hx hy).h]) ∧ Below w.heap.size w w' := by
  by_cases c1 : hx ≤ lx
  · rw [btw_no (.inl c1)]
    go_enter Tryz.func59, Tryz.ntmps59
    go_wp2
    exact bodyPost_ret (v := .agg #[.int .i64 0, .int .i64 0, .int .i64 0, .int .i64 0]) (by simp [results, Tryz.results59, go_sem]) rfl ⟨rfl, (((Below.refl _ _).alloc (Nat.le_refl _) _).alloc (by simp) _).alloc (by simp; omega) _⟩
  · by_cases c2 : hy ≤ ly
    · rw [btw_no (.inr c2)]
      go_enter Tryz.func59, Tryz.ntmps59
      go_wp2
      exact bodyPost_ret (v := .agg #[.int .i64 0, .int .i64 0, .int .i64 0, .int .i64 0]) (by simp [results, Tryz.results59, go_sem]) rfl ⟨rfl, (((Below.refl _ _).alloc (Nat.le_refl _) _).alloc (by simp) _).alloc (by simp; omega) _⟩
    · rw [btw_yes (by omega) (by omega)]
      go_enter Tryz.func59, Tryz.ntmps59
      go_wp2
      exact bodyPost_ret (v := .agg #[.int .i64 lx, .int .i64 ly, .int .i64 (hx - lx), .int .i64 (hy - ly)]) (by simp [results, Tryz.results59, go_sem]) rfl ⟨rfl, (((Below.refl _ _).alloc (Nat.le_refl _) _).alloc (by simp) _).alloc (by simp; omega) _⟩

set_option maxHeartbeats 400000 in
theorem end_x (x y n m : Int) (w : World) (b1 : -1000000 ≤ x) (b2 : x ≤ 1000000) (b3 : -1000000 ≤ y) (b4 : y ≤ 1000000) (b5 : -1000000 ≤ n) (b6 : n ≤ 1000000) (b7 : -1000000 ≤ m) (b8 : m ≤ 1000000) :
    Calls Tryz.prog 58 #[.agg #[.int .i64 x, .int .i64 y, .int .i64 n, .int .i64 m]] w fun e w' => e = .returned (.agg #[.int .i64 (x + n), .int .i64 (y + m)]) ∧ w' = (w.alloc (.cells #[.int .i64 x, .int .i64 y, .int .i64 n, .int .i64 m] 55)).alloc (.cells #[.int .i64 (x + n), .int .i64 (y + m)] 41) := by
  go_enter Tryz.func58, Tryz.ntmps58
  go_wp2
  exact bodyPost_ret (v := .agg #[.int .i64 (x + n), .int .i64 (y + m)]) (by simp [results, Tryz.results58, go_sem]) rfl ⟨rfl, rfl⟩

set_option maxHeartbeats 400000 in
theorem end_any (x y n m : Int) (w : World) (b1 : -1000000 ≤ x) (b2 : x ≤ 1000000) (b3 : -1000000 ≤ y) (b4 : y ≤ 1000000) (b5 : -1000000 ≤ n) (b6 : n ≤ 1000000) (b7 : -1000000 ≤ m) (b8 : m ≤ 1000000) :
    Calls Tryz.prog 58 #[.agg #[.int .i64 x, .int .i64 y, .int .i64 n, .int .i64 m]] w fun e w' => e = .returned (.agg #[.int .i64 (x + n), .int .i64 (y + m)]) ∧ Below w.heap.size w w' := by
  go_enter Tryz.func58, Tryz.ntmps58
  go_wp2
  exact bodyPost_ret (v := .agg #[.int .i64 (x + n), .int .i64 (y + m)]) (by simp [results, Tryz.results58, go_sem]) rfl ⟨rfl, ((Below.refl _ _).alloc (Nat.le_refl _) _).alloc (by simp) _⟩

end Go.Proofs.YtleoaanjcccooaaGreatDoor

/-
  Contracts of package geom: areas, places, what two have together.
-/
namespace Go.Proofs.YtleoaanjcccooaaGreatDoor
open Go.RowKit

set_option maxHeartbeats 800000 in
theorem has_any (x y n m px py : Int) (w : World) (hx : I64 x) (hy : I64 y) :
    Calls Tryz.prog 39 #[.agg #[.int .i64 x, .int .i64 y, .int .i64 n, .int .i64 m], .agg #[.int .i64 px, .int .i64 py]] w fun e w' => e = .returned (.bool (hasB x y n m px py)) ∧ Below w.heap.size w w' := by
  cases h1 : emptyB x y n m
  · obtain ⟨b1, b2, b3, b4, b5, b6, b7, b8, b9, b10⟩ := bounds_of h1
    have cs : ¬ x ≤ px ∨ (x ≤ px ∧ ¬ px < x + n) ∨ (x ≤ px ∧ px < x + n ∧ ¬ y ≤ py) ∨ (x ≤ px ∧ px < x + n ∧ y ≤ py ∧ ¬ py < y + m) ∨ (x ≤ px ∧ px < x + n ∧ y ≤ py ∧ py < y + m) := by omega
    rcases cs with c1 | ⟨c1, c2⟩ | ⟨c1, c2, c3⟩ | ⟨c1, c2, c3, c4⟩ | ⟨c1, c2, c3, c4⟩
    all_goals
      go_enter Tryz.func39, Tryz.ntmps39
      go_wp2_with fail
      obtain ⟨A, B, L⟩ := boxes_rp w x y n m px py 55 41
      refine (empty_any _ _ _ _ _ (by assumption) (by assumption)).mono ?_
      rintro e w1 ⟨rfl, hb⟩
      replace L := L.trans (hb.mono L.size)
      replace A := A.below hb
      replace B := B.below hb
      clear hb
      obtain ⟨d0, d1, d2, d3⟩ := id A
      go_wp2_with fail
      clear d0 d1 d2 d3
      refine (end_any _ _ _ _ _ (by omega) (by omega) (by omega) (by omega) (by omega) (by omega) (by omega) (by omega)).mono ?_
      rintro e w2 ⟨rfl, hb⟩
      replace L := L.trans (hb.mono L.size)
      replace A := A.below hb
      replace B := B.below hb
      clear hb
      have la := A.lt
      have lb := B.lt
      obtain ⟨d0, d1, d2, d3⟩ := A
      obtain ⟨e0, e1⟩ := B
      go_wp2
      go_ret
      refine ⟨ret_bool ?_, L.alloc L.size _⟩
      simp [hasB, h1]
      try omega
  · go_enter Tryz.func39, Tryz.ntmps39
    go_wp2_with fail
    refine (empty_any _ _ _ _ _ (by assumption) (by assumption)).mono ?_
    rintro e w1 ⟨rfl, hb⟩
    go_wp2
    go_ret
    exact ⟨by simp [hasB, h1], (((Below.refl _ _).alloc (Nat.le_refl _) _).alloc (by simp) _).trans (hb.mono (by simp; omega))⟩

end Go.Proofs.YtleoaanjcccooaaGreatDoor

/-
  More of the plain mathematics of rectangles: what joins two, what is left of one, lists of them.
-/
namespace Go.Proofs.YtleoaanjcccooaaGreatDoor

def joinR (ax ay aw ah bx by' bw bh : Int) : Rc :=
  if emptyB ax ay aw ah = true then (if emptyB bx by' bw bh = true then zr else ⟨bx, by', bw, bh⟩)
  else if emptyB bx by' bw bh = true then ⟨ax, ay, aw, ah⟩
  else btw (min ax bx) (min ay by') (max (ax + aw) (bx + bw)) (max (ay + ah) (by' + bh))
def eqB (r : Rc) (x y w h : Int) : Bool := (r.x == x) && ((r.y == y) && ((r.w == w) && (r.h == h)))
def inB (ax ay aw ah bx by' bw bh : Int) : Bool := emptyB ax ay aw ah || eqB (meetR ax ay aw ah bx by' bw bh) ax ay aw ah
def overB (ax ay aw ah bx by' bw bh : Int) : Bool := !eqB (meetR ax ay aw ah bx by' bw bh) 0 0 0 0

end Go.Proofs.YtleoaanjcccooaaGreatDoor

/-
  What is left of a rectangle, as a list; a list of rectangles as cells.
-/
namespace Go.Proofs.YtleoaanjcccooaaGreatDoor

def keepB (r : Rc) : Bool := !eqB r 0 0 0 0
def pcR (ax ay aw ah mx my mw mh : Int) : List Rc := [btw ax ay (ax + aw) my, btw ax my mx (my + mh), btw (mx + mw) my (ax + aw) (my + mh), btw ax (my + mh) (ax + aw) (ay + ah)]
def lesL (ax ay aw ah bx by' bw bh : Int) : List Rc :=
  if (mayB ax ay aw ah && (mayB bx by' bw bh && !emptyB ax ay aw ah)) = true then
    (if eqB (meetR ax ay aw ah bx by' bw bh) 0 0 0 0 = true then [⟨ax, ay, aw, ah⟩]
     else (pcR ax ay aw ah (meetR ax ay aw ah bx by' bw bh).x (meetR ax ay aw ah bx by' bw bh).y (meetR ax ay aw ah bx by' bw bh).w (meetR ax ay aw ah bx by' bw bh).h).filter keepB)
  else []
def lesE (ax ay aw ah bx by' bw bh : Int) : Int := if (mayB ax ay aw ah && mayB bx by' bw bh) = true then 0 else 5
def cel (r : Rc) : List Value := [.int .i64 r.x, .int .i64 r.y, .int .i64 r.w, .int .i64 r.h]
def flat : List Rc → List Value
  | [] => []
  | r :: l => cel r ++ flat l
theorem flat_length (l : List Rc) : (flat l).length = l.length * 4 := by
  induction l with
  | nil => rfl
  | cons r l ih => simp [flat, cel, ih]; omega
theorem flat_append (l k : List Rc) : flat (l ++ k) = flat l ++ flat k := by
  induction l with
  | nil => rfl
  | cons r l ih => simp [flat, ih]
theorem flat_one (r : Rc) : flat [r] = cel r := by simp [flat]

theorem meet_bd {ax ay aw ah bx by' bw bh : Int} (e : emptyB ax ay aw ah = false) :
    -16384 ≤ (meetR ax ay aw ah bx by' bw bh).x ∧ (meetR ax ay aw ah bx by' bw bh).x ≤ 16384 ∧ -16384 ≤ (meetR ax ay aw ah bx by' bw bh).y ∧ (meetR ax ay aw ah bx by' bw bh).y ≤ 16384 ∧
    0 ≤ (meetR ax ay aw ah bx by' bw bh).w ∧ (meetR ax ay aw ah bx by' bw bh).w ≤ 32768 ∧ 0 ≤ (meetR ax ay aw ah bx by' bw bh).h ∧ (meetR ax ay aw ah bx by' bw bh).h ≤ 32768 := by
  obtain ⟨a1, a2, a3, a4, a5, a6, a7, a8, a9, a10⟩ := bounds_of e
  unfold meetR
  cases h2 : emptyB bx by' bw bh
  · obtain ⟨b1, b2, b3, b4, b5, b6, b7, b8, b9, b10⟩ := bounds_of h2
    simp only [e, Bool.or_self, Bool.false_eq_true, if_false]
    unfold btw
    split
    · simp [zr]
    · simp only; omega
  · simp [zr]

end Go.Proofs.YtleoaanjcccooaaGreatDoor

/-
  Lists of rectangles and of spans in memory; contracts of package region: a list's errors, the runs of a row.
-/
namespace Go.Proofs.YtleoaanjcccooaaGreatDoor
open Go.RowKit
attribute [local go_sem] ite_max ite_min

/-- A rectangle in memory, from a place of a block on. -/
def RcAt (w : World) (g o : Nat) (r : Rc) : Prop := w.cell? ⟨g, o, none⟩ = some (.int .i64 r.x) ∧ w.cell? ⟨g, o + 1, none⟩ = some (.int .i64 r.y) ∧ w.cell? ⟨g, o + 2, none⟩ = some (.int .i64 r.w) ∧ w.cell? ⟨g, o + 3, none⟩ = some (.int .i64 r.h)
theorem RcAt.kept {w w' : World} {g o : Nat} {r : Rc} (h : RcAt w g o r) (k : ∀ j, w'.cell? ⟨g, j, none⟩ = w.cell? ⟨g, j, none⟩) : RcAt w' g o r := by
  unfold RcAt; rw [k, k, k, k]; exact h
/-- A slice that holds rectangles. -/
def LsR (w : World) (v : Value) (rs : List Rc) : Prop := ∃ oa cap, v = .slice oa rs.length cap ∧ rs.length ≤ cap ∧ (0 < rs.length → ∃ g o, oa = some ⟨g, o, none⟩ ∧ g < w.heap.size ∧ ∀ i (h : i < rs.length), RcAt w g (o + i * 4) rs[i])
theorem LsR.below {w w' : World} {v : Value} {rs : List Rc} (h : LsR w v rs) (hb : Below w.heap.size w w') : LsR w' v rs := by
  obtain ⟨oa, cap, e, hc, hg⟩ := h
  refine ⟨oa, cap, e, hc, fun hp => ?_⟩
  obtain ⟨g, o, e1, g1, g2⟩ := hg hp
  exact ⟨g, o, e1, Nat.lt_of_lt_of_le g1 hb.size, fun i hi => (g2 i hi).kept fun j => hb.cell (p := ⟨g, j, none⟩) g1⟩
theorem flat_at (l : List Rc) (k : Nat) (h : k < l.length) : (flat l)[k * 4]? = some (.int .i64 l[k].x) ∧ (flat l)[k * 4 + 1]? = some (.int .i64 l[k].y) ∧ (flat l)[k * 4 + 2]? = some (.int .i64 l[k].w) ∧ (flat l)[k * 4 + 3]? = some (.int .i64 l[k].h) := by
  induction l generalizing k with
  | nil => simp at h
  | cons r l ih =>
    cases k with
    | zero => simp [flat, cel]
    | succ k =>
      have e : ∀ j, (flat (r :: l))[(k + 1) * 4 + j]? = (flat l)[k * 4 + j]? := fun j => by
        show (cel r ++ flat l)[(k + 1) * 4 + j]? = _
        rw [List.getElem?_append_right (by simp [cel]; omega)]
        congr 1
        simp [cel]
        omega
      have h' : k < l.length := by simpa using h
      obtain ⟨i0, i1, i2, i3⟩ := ih k h'
      have e0 := e 0
      rw [Nat.add_zero, Nat.add_zero] at e0
      exact ⟨e0.trans i0, (e 1).trans i1, (e 2).trans i2, (e 3).trans i3⟩
theorem flat_app (l m : List Rc) : flat (l ++ m) = flat l ++ flat m := by
  induction l with
  | nil => rfl
  | cons r l ih => show cel r ++ flat (l ++ m) = (cel r ++ flat l) ++ flat m; rw [ih, List.append_assoc]
theorem flat_len (l : List Rc) : (flat l).length = l.length * 4 := by
  induction l with
  | nil => rfl
  | cons r l ih => show (cel r ++ flat l).length = _; rw [List.length_append, ih]; simp [cel]; omega

/-- Spans, cell by cell. -/
def flatS : List Sp → List Value
  | [] => []
  | s :: t => .int .i64 s.1 :: .int .i64 s.2 :: flatS t
theorem flatS_app (l m : List Sp) : flatS (l ++ m) = flatS l ++ flatS m := by
  induction l with
  | nil => rfl
  | cons s l ih => simp [flatS, ih]
theorem flatS_len (l : List Sp) : (flatS l).length = l.length * 2 := by
  induction l with
  | nil => rfl
  | cons s l ih => simp [flatS, ih]; omega
theorem flatS_at (l : List Sp) (k : Nat) (h : k < l.length) : (flatS l)[k * 2]? = some (.int .i64 l[k].1) ∧ (flatS l)[k * 2 + 1]? = some (.int .i64 l[k].2) := by
  induction l generalizing k with
  | nil => simp at h
  | cons s l ih =>
    cases k with
    | zero => simp [flatS]
    | succ k =>
      have h' : k < l.length := by simpa using h
      obtain ⟨i0, i1⟩ := ih k h'
      rw [show (k + 1) * 2 = k * 2 + 1 + 1 by omega, show k * 2 + 1 + 1 + 1 = (k * 2 + 1) + 1 + 1 by omega]
      simpa [flatS] using ⟨i0, i1⟩

/-- A block's cells written out. -/
def Bk (W : World) (b : Nat) (vs : Array Value) (t : TypeId) : Prop := W.heap[b]? = some (.cells vs t)
theorem Bk.lt {W : World} {b : Nat} {vs : Array Value} {t : TypeId} (h : Bk W b vs t) : b < W.heap.size := (Array.getElem?_eq_some_iff.1 h).1
theorem Bk.cell {W : World} {b : Nat} {vs : Array Value} {t : TypeId} (h : Bk W b vs t) (o : Nat) : W.cell? ⟨b, o, none⟩ = vs[o]? := by
  simp [World.cell?, show W.heap[b]? = _ from h]
theorem Bk.frozen {W : World} {b : Nat} {vs : Array Value} {t : TypeId} (h : Bk W b vs t) (o : Nat) : W.frozen? ⟨b, o, none⟩ = false := by
  simp [World.frozen?, show W.heap[b]? = _ from h]
theorem Bk.below {W W' : World} {b : Nat} {vs : Array Value} {t : TypeId} (h : Bk W b vs t) (hb : Below W.heap.size W W') : Bk W' b vs t := (hb.block b h.lt).trans h
theorem Bk.new (W : World) (vs : Array Value) (t : TypeId) : Bk (W.alloc (.cells vs t)) W.heap.size vs t := by
  show (W.heap.push (.cells vs t))[W.heap.size]? = _
  exact Array.getElem?_push_size
theorem Bk.put {W : World} {b : Nat} {vs : Array Value} {t : TypeId} (h : Bk W b vs t) (o : Nat) (v : Value) : Bk (W.setCell ⟨b, o, none⟩ v) b (vs.setIfInBounds o v) t := heap_setCell_same W b o vs t v h
theorem Bk.other {W : World} {b : Nat} {vs : Array Value} {t : TypeId} (h : Bk W b vs t) (p : Addr) (v : Value) (hp : p.block ≠ b) : Bk (W.setCell p v) b vs t :=
  (Below.heap_setCell _ _ _ b (fun e => hp e.symm)).trans h
theorem Bk.at2 {W : World} {b : Nat} {a0 a1 : Value} {t : TypeId} (h : Bk W b #[a0, a1] t) : W.cell? ⟨b, 0, none⟩ = some a0 ∧ W.cell? ⟨b, 1, none⟩ = some a1 := ⟨by rw [h.cell]; rfl, by rw [h.cell]; rfl⟩
/-- An append onto a row that lies elsewhere. -/
theorem Bk.grown {W W' : World} {b : Nat} {vs : Array Value} {t : TypeId} (h : Bk W b vs t) {row : Option Nat} (hg : W.grownBy W' row) (hb : row ≠ some b) : Bk W' b vs t := (hg.block b h.lt (fun e => hb e.symm)).trans h

/-- A slice that holds spans. -/
def SpL (w : World) (v : Value) (l : List Sp) : Prop := ∃ oa cap, v = .slice oa l.length cap ∧ l.length ≤ cap ∧ (0 < l.length → ∃ g cs, oa = some ⟨g, 0, none⟩ ∧ Bk w g cs 136 ∧ ∀ i (h : i < l.length), cs[i * 2]? = some (.int .i64 l[i].1) ∧ cs[i * 2 + 1]? = some (.int .i64 l[i].2))
theorem SpL.below {w w' : World} {v : Value} {l : List Sp} (h : SpL w v l) (hb : Below w.heap.size w w') : SpL w' v l := by
  obtain ⟨oa, cap, e, hc, hg⟩ := h
  refine ⟨oa, cap, e, hc, fun hp => ?_⟩
  obtain ⟨g, cs, e1, g1, g2⟩ := hg hp
  exact ⟨g, cs, e1, g1.below hb, g2⟩
/-- A store into a block of another kind. -/
theorem SpL.other {w : World} {v : Value} {l : List Sp} (h : SpL w v l) {b : Nat} {vs : Array Value} {t : TypeId} (hb : Bk w b vs t) (ht : t ≠ 136) (o : Nat) (x : Value) : SpL (w.setCell ⟨b, o, none⟩ x) v l := by
  obtain ⟨oa, cap, e, hc, hg⟩ := h
  refine ⟨oa, cap, e, hc, fun hp => ?_⟩
  obtain ⟨g, cs, e1, g1, g2⟩ := hg hp
  refine ⟨g, cs, e1, g1.other _ _ (fun he => ?_), g2⟩
  have he' : b = g := he
  subst he'
  have := hb.symm.trans g1
  injection this with this
  injection this with _ this _
  exact ht this
/-- An append onto a row of another kind. -/
theorem SpL.grown {w w' : World} {v : Value} {l : List Sp} (h : SpL w v l) {base : Nat} {e : TypeId} {size n : Nat} {u : Value} {xs : List Value} (hr : w.ownsRow base e size u n xs) (he : e ≠ 136) (hg : w.grownBy w' u.ownBlock) : SpL w' v l := by
  obtain ⟨oa, cap, ev, hc, hgg⟩ := h
  refine ⟨oa, cap, ev, hc, fun hp => ?_⟩
  obtain ⟨g, cs, e1, g1, g2⟩ := hgg hp
  refine ⟨g, cs, e1, g1.grown hg (fun hx => ?_), g2⟩
  obtain ⟨_, h | ⟨g', cap', cur, rfl, _, hcur, _⟩⟩ := hr
  · rw [h.1] at hx; cases hx
  · simp [Value.ownBlock] at hx
    subst hx
    have := g1.symm.trans hcur
    injection this with this
    injection this with _ this _
    exact he this.symm
theorem SpL.cells {w : World} {v : Value} {l : List Sp} (h : SpL w v l) : ∃ oa cap, v = .slice oa l.length cap ∧ l.length ≤ cap ∧ (0 < l.length → ∃ g, oa = some ⟨g, 0, none⟩ ∧ g < w.heap.size ∧ ∀ i (h : i < l.length), w.cell? ⟨g, i * 2, none⟩ = some (.int .i64 l[i].1) ∧ w.cell? ⟨g, i * 2 + 1, none⟩ = some (.int .i64 l[i].2)) := by
  obtain ⟨oa, cap, e, hc, hg⟩ := h
  refine ⟨oa, cap, e, hc, fun hp => ?_⟩
  obtain ⟨g, cs, e1, g1, g2⟩ := hg hp
  exact ⟨g, e1, g1.lt, fun i hi => by rw [g1.cell, g1.cell]; exact g2 i hi⟩
theorem spl_own {w : World} {base : Nat} {v : Value} {l : List Sp} (h : w.ownsRow base 136 2 v l.length (flatS l)) : ∃ oa cap, v = .slice oa l.length cap ∧ l.length ≤ cap ∧ SpL w (.slice oa l.length l.length) l := by
  obtain ⟨hl, h⟩ := h
  rcases h with ⟨rfl, h0⟩ | ⟨g, cap, cur, rfl, _, hc, h1, _, _, h2⟩
  · exact ⟨none, 0, by rw [h0], by omega, none, l.length, rfl, Nat.le_refl _, fun h => by omega⟩
  · refine ⟨_, cap, rfl, h1, _, l.length, rfl, Nat.le_refl _, fun _ => ⟨g, cur, rfl, hc, fun i hi => ?_⟩⟩
    obtain ⟨a, b⟩ := flatS_at l i hi
    rw [← h2, List.getElem?_take, if_pos (by omega), Array.getElem?_toList] at a b
    exact ⟨a, b⟩

theorem own_cell {w : World} {base : Nat} {e : TypeId} {size n g cap : Nat} {xs : List Value} (h : w.ownsRow base e size (.slice (some ⟨g, 0, none⟩) n cap) n xs) (j : Nat) (hj : j < n * size) : w.cell? ⟨g, j, none⟩ = xs[j]? := h.cellAt j hj
theorem own_frozen {w : World} {base : Nat} {e : TypeId} {size n g cap : Nat} {xs : List Value} (h : w.ownsRow base e size (.slice (some ⟨g, 0, none⟩) n cap) n xs) (j : Nat) : w.frozen? ⟨g, j, none⟩ = false := by
  obtain ⟨_, ⟨h, _⟩ | ⟨g', cap', cur, h, _, hc, _⟩⟩ := h
  · cases h
  · injection h with h1 _ _
    injection h1 with h1
    injection h1 with h1 _ _
    subst h1
    simp [World.frozen?, hc]
/-- A store into a row of one's own. -/
theorem own_set {w : World} {base : Nat} {e : TypeId} {size n g cap : Nat} {xs : List Value} (h : w.ownsRow base e size (.slice (some ⟨g, 0, none⟩) n cap) n xs) (j : Nat) (v : Value) :
    (w.setCell ⟨g, j, none⟩ v).ownsRow base e size (.slice (some ⟨g, 0, none⟩) n cap) n (xs.set j v) := by
  obtain ⟨hl, ⟨h, _⟩ | ⟨g', cap', cur, h, hb, hc, h1, h2, h3, h4⟩⟩ := h
  · cases h
  · injection h with e1 _ e3
    injection e1 with e1
    injection e1 with e1 _ _
    subst e1 e3
    refine ⟨by rw [List.length_set]; exact hl, .inr ⟨g, cap, cur.setIfInBounds j v, rfl, hb, ?_, h1, h2, by simpa using h3, ?_⟩⟩
    · exact heap_setCell_same w g j cur e v hc
    · rw [Array.toList_setIfInBounds, List.take_set, h4]
theorem runA_snoc (s : Sp) (a b : Int) : ∀ l : List Sp, runA (l ++ [s]) a b = if a ≤ s.2 then l ++ [(s.1, max s.2 b)] else l ++ [s, (a, b)]
  | [] => by simp [runA]
  | [q] => by
    show runA (q :: [s]) a b = _
    rw [runA]
    · rw [runA]; split <;> rfl
    · intro h; cases h
  | q :: u :: t => by
    have ih := runA_snoc s a b (u :: t)
    show runA (q :: (u :: t ++ [s])) a b = _
    rw [runA]
    · rw [ih]; split <;> rfl
    · intro h; cases h

theorem info_span : (Tryz.prog.info? 136).map (fun i => (i.zero, i.size, i.bytes)) = some (some (.agg #[.int .i64 0, .int .i64 0]), 2, 16) := by kernel_rfl
theorem info_rect : (Tryz.prog.info? 55).map (fun i => (i.zero, i.size, i.bytes)) = some (some (.agg #[.int .i64 0, .int .i64 0, .int .i64 0, .int .i64 0]), 4, 32) := by kernel_rfl

/-- A list's errors. -/
def lisE (rs : List Rc) : Int := if 1024 < rs.length then 4 else if rs.all (fun r => mayB r.x r.y r.w r.h) = true then 0 else 5

set_option maxHeartbeats 1000000 in
theorem listed_any (rs : List Rc) (v : Value) (w : World) (hv : LsR w v rs) (hs : ∀ r ∈ rs, I64 r.x ∧ I64 r.y) :
    Calls Tryz.prog 32 #[v] w fun e w' => e = .returned (.int .i64 (lisE rs)) ∧ Below w.heap.size w w' := by
  obtain ⟨oa, cap, rfl, hc, hg⟩ := hv
  have HG : Hid (0 < rs.length → ∃ g o, oa = some ⟨g, o, none⟩ ∧ g < w.heap.size ∧ ∀ i (h : i < rs.length), RcAt w g (o + i * 4) rs[i]) := hg
  have HH : Hid (∀ r ∈ rs, I64 r.x ∧ I64 r.y) := hs
  clear hg hs
  unfold lisE
  by_cases hm : 1024 < rs.length
  · rw [if_pos hm]
    go_enter Tryz.func32, Tryz.ntmps32
    go_wp2
    go_ret
    exact ⟨rfl, Below.refl _ _⟩
  rw [if_neg hm]
  obtain ⟨R, hR⟩ : ∃ R : Int, (if rs.all (fun r => mayB r.x r.y r.w r.h) = true then 0 else 5) = R := ⟨_, rfl⟩
  rw [hR]
  have HF : Hid ((rs.all (fun r => mayB r.x r.y r.w r.h) = false → R = 5) ∧ (rs.all (fun r => mayB r.x r.y r.w r.h) = true → R = 0)) := ⟨fun h => by rw [← hR, h]; rfl, fun h => by rw [← hR, h]; rfl⟩
  clear hR
  go_enter Tryz.func32, Tryz.ntmps32
  go_wp2_with fail
  go_loopw [11] (fun i wr => ∃ k : Nat, k ≤ rs.length ∧ i = .int .i64 k ∧ (rs.take k).all (fun r => mayB r.x r.y r.w r.h) = true ∧ Below w.heap.size w wr) (fun i _ => rs.length - (intOf i).toNat)
  case atStart => exact ⟨0, Nat.zero_le _, rfl, rfl, Below.refl _ _⟩
  case round =>
    obtain ⟨k, hk, rfl, ha, L⟩ := hrel
    by_cases hlt : k < rs.length
    · obtain ⟨g, o, rfl, hg, hat⟩ := HG.out (by omega)
      have hx := (hat k hlt).kept (w' := wr) fun j => L.cell (p := ⟨g, j, none⟩) hg
      have e1 : rs.take (k + 1) = rs.take k ++ [rs[k]] := (List.take_append_getElem hlt).symm
      have e2 : (rs.take (k + 1)).all (fun r => mayB r.x r.y r.w r.h) = mayB rs[k].x rs[k].y rs[k].w rs[k].h := by rw [e1, List.all_append, ha]; simp
      have e3 : mayB rs[k].x rs[k].y rs[k].w rs[k].h = false → R = 5 := fun h => HF.out.1 <| by
        rw [List.all_eq_false]; exact ⟨rs[k], List.getElem_mem hlt, by rw [h]; simp⟩
      obtain ⟨i1, i2⟩ := HH.out _ (List.getElem_mem hlt)
      have HR : Hid (∀ w, Calls Tryz.prog 60 #[.agg #[.int .i64 rs[k].x, .int .i64 rs[k].y, .int .i64 rs[k].w, .int .i64 rs[k].h]] w fun e w' => e = .returned (.int .i64 (chk rs[k].x rs[k].y rs[k].w rs[k].h)) ∧ Below w.heap.size w w') := fun w => check_any _ _ _ _ w i1 i2
      have hch := chk_ne rs[k].x rs[k].y rs[k].w rs[k].h
      have hch5 : mayB rs[k].x rs[k].y rs[k].w rs[k].h = false → chk rs[k].x rs[k].y rs[k].w rs[k].h = 5 := fun h => by unfold chk; rw [h]; rfl
      have hch0 : mayB rs[k].x rs[k].y rs[k].w rs[k].h = true → chk rs[k].x rs[k].y rs[k].w rs[k].h = 0 := fun h => by unfold chk; rw [h]; rfl
      have L' : Below w.heap.size w (wr.alloc (.cells #[.int .i64 rs[k].x, .int .i64 rs[k].y, .int .i64 rs[k].w, .int .i64 rs[k].h] 55)) := L.alloc L.size _
      have HL : Hid ((rs.take (k + 1)).all (fun r => mayB r.x r.y r.w r.h) = mayB rs[k].x rs[k].y rs[k].w rs[k].h ∧ (mayB rs[k].x rs[k].y rs[k].w rs[k].h = false → R = 5) ∧ Below w.heap.size w (wr.alloc (.cells #[.int .i64 rs[k].x, .int .i64 rs[k].y, .int .i64 rs[k].w, .int .i64 rs[k].h] 55))) := ⟨e2, e3, L'⟩
      clear e1 e2 e3 L L' hat ha hch i1 i2
      generalize mayB rs[k].x rs[k].y rs[k].w rs[k].h = b at *
      generalize chk rs[k].x rs[k].y rs[k].w rs[k].h = c at *
      generalize rs[k] = x at *
      obtain ⟨x0, x1, x2, x3⟩ := hx
      have HE : Hid (b = false → R = 5) := HL.out.2.1
      cases b
      · obtain rfl : c = 5 := hch5 rfl
        clear hch5 hch0
        go_wp2_with fail
        refine (HR.out _).mono ?_
        rintro e w1 ⟨rfl, hb⟩
        have H1 : Hid (Below w.heap.size w w1) := HL.out.2.2.trans (hb.mono HL.out.2.2.size)
        clear hb
        go_wp2
        go_ret
        have e5 : R = 5 := by first | exact HE.out rfl | exact HE.out trivial
        exact ⟨by rw [e5]; rfl, H1.out⟩
      · obtain rfl : c = 0 := hch0 rfl
        clear hch5 hch0
        go_wp2_with fail
        refine (HR.out _).mono ?_
        rintro e w1 ⟨rfl, hb⟩
        have H1 : Hid (Below w.heap.size w w1) := HL.out.2.2.trans (hb.mono HL.out.2.2.size)
        clear hb
        go_wp2
        go_roundw
        case rel => exact ⟨k + 1, by omega, by go_num, HL.out.1, H1.out⟩
        case measure => simp [intOf]; omega
    · obtain rfl : k = rs.length := by omega
      rw [List.take_length] at ha
      go_wp2
      go_ret
      have e5 := HF.out.2 ha
      exact ⟨by rw [e5]; rfl, L⟩

end Go.Proofs.YtleoaanjcccooaaGreatDoor

/-
  Contracts of package region: the runs of a row.
-/
namespace Go.Proofs.YtleoaanjcccooaaGreatDoor
open Go.RowKit
attribute [local go_sem] ite_max ite_min

theorem info_parts {t : TypeId} {z : Value} {s b : Nat} (h : (Tryz.prog.info? t).map (fun i => (i.zero, i.size, i.bytes)) = some (some z, s, b)) : ∃ i, Tryz.prog.info? t = some i ∧ i.zero = some z ∧ i.size = s ∧ i.bytes = b := by
  cases hi : Tryz.prog.info? t with
  | none => rw [hi] at h; cases h
  | some i =>
    rw [hi] at h
    simp only [Option.map_some, Option.some.injEq, Prod.mk.injEq] at h
    exact ⟨i, rfl, h.1, h.2.1, h.2.2⟩
theorem row_lt {base : Nat} {e : TypeId} {size : Nat} {v : Value} {n : Nat} {xs : List Value} {X : World} (h : X.ownsRow base e size v n xs) (g : Nat) (hg : v.ownBlock = some g) : base ≤ g ∧ g < X.heap.size := by
  obtain ⟨hl, h⟩ := h
  rcases h with ⟨rfl, _⟩ | ⟨g', cap, cur, rfl, hb, hc, _⟩
  · cases hg
  · simp [Value.ownBlock] at hg
    subst hg
    exact ⟨hb, (Array.getElem?_eq_some_iff.1 hc).1⟩
theorem row_below {base : Nat} {e : TypeId} {size : Nat} {v : Value} {n : Nat} {xs : List Value} {X Y : World} (h : X.ownsRow base e size v n xs) (hb : Below X.heap.size X Y) : Y.ownsRow base e size v n xs := by
  obtain ⟨hl, h⟩ := h
  refine ⟨hl, ?_⟩
  rcases h with h | ⟨g, cap, cur, rfl, h0, h1, h2⟩
  · exact .inl h
  · exact .inr ⟨g, cap, cur, rfl, h0, (hb.block g (Array.getElem?_eq_some_iff.1 h1).1).trans h1, h2⟩
theorem row_weaken {base base' : Nat} {e : TypeId} {size : Nat} {v : Value} {n : Nat} {xs : List Value} {X : World} (h : X.ownsRow base e size v n xs) (hb : base' ≤ base) : X.ownsRow base' e size v n xs := by
  obtain ⟨hl, h⟩ := h
  refine ⟨hl, ?_⟩
  rcases h with h | ⟨g, cap, cur, rfl, h0, h1⟩
  · exact .inl h
  · exact .inr ⟨g, cap, cur, rfl, Nat.le_trans hb h0, h1⟩
/-- The value of a row of one's own. -/
theorem row_val {base : Nat} {e : TypeId} {size : Nat} {v : Value} {n : Nat} {xs : List Value} {X : World} (h : X.ownsRow base e size v n xs) : ∃ oa cap, v = .slice oa n cap ∧ n ≤ cap ∧ (0 < n → ∃ g, oa = some ⟨g, 0, none⟩ ∧ base ≤ g ∧ g < X.heap.size) := by
  obtain ⟨hl, h⟩ := h
  rcases h with ⟨rfl, rfl⟩ | ⟨g, cap, cur, rfl, h0, h1, h2, _⟩
  · exact ⟨none, 0, rfl, Nat.le_refl _, fun h => absurd h (Nat.lt_irrefl 0)⟩
  · exact ⟨_, cap, rfl, h2, fun _ => ⟨g, rfl, h0, (Array.getElem?_eq_some_iff.1 h1).1⟩⟩
theorem cell_two (w : World) (x y : Value) (t : TypeId) : ∀ (j : Nat) (u : Value), [x, y][j]? = some u → (w.alloc (.cells #[x, y] t)).cell? ((⟨w.heap.size, 0, none⟩ : Addr).add j) = some u := by
  intro j u hj
  match j, hj with
  | 0, hj => simp at hj; subst hj; simp [Addr.add]
  | 1, hj => simp at hj; subst hj; simp [Addr.add]
theorem one2 (a b : Int) : ∀ u ∈ [Value.int .i64 a, .int .i64 b], u.oneCell' = true := by
  intro u hu
  simp at hu
  rcases hu with rfl | rfl <;> rfl
theorem app_below {B : Nat} {w w1 w4 : World} {e : TypeId} {size n : Nat} {u : Value} {xs : List Value} (hB : Below w.heap.size w w1) (ar : w1.ownsRow B e size u n xs) (hBw : w.heap.size ≤ B) (hgrow : w1.grownBy w4 u.ownBlock) : Below w.heap.size w w4 :=
  hB.grown hgrow hB.size (fun g hg => Nat.le_trans hBw (row_lt ar g hg).1)

theorem below_drewN {B : Nat} {a w : World} {n : Nat} (h : Below B a w) : Below B a (w.drewN n) := ⟨h.os, h.tape, h.output, h.size, h.block⟩

theorem flatS_set (init : List Sp) (s : Sp) (z : Int) : (flatS (init ++ [s])).set (init.length * 2 + 1) (.int .i64 z) = flatS (init ++ [(s.1, z)]) := by
  induction init with
  | nil => rfl
  | cons q t ih =>
    have e : (q :: t).length * 2 + 1 = (t.length * 2 + 1) + 1 + 1 := by simp; omega
    rw [e]
    simpa [flatS] using ih
def RInv (L : List Rc) (y : Int) (w : World) (k : Nat) (acc : List Sp) (v : Value) (wr : World) : Prop :=
  k ≤ L.length ∧ acc.length ≤ k ∧ runsF y (L.drop k) acc = runsF y L [] ∧ wr.ownsRow w.heap.size 136 2 v acc.length (flatS acc) ∧ Below w.heap.size w wr

set_option maxRecDepth 10000 in
set_option maxHeartbeats 4000000 in
theorem runs_any (L : List Rc) (v : Value) (y : Int) (w : World) (hv : LsR w v L) (hk : ∀ r ∈ L, keepE r = true) (hl : L.length ≤ 1000000) :
    Calls Tryz.prog 108 #[v, .int .i64 y] w fun e w' => ∃ u, e = .returned u ∧ SpL w' u (runsF y L []) ∧ Below w.heap.size w w' := by
  obtain ⟨oa, cap, rfl, hc, hg⟩ := hv
  have HG : Hid (0 < L.length → ∃ g o, oa = some ⟨g, o, none⟩ ∧ g < w.heap.size ∧ ∀ i (h : i < L.length), RcAt w g (o + i * 4) L[i]) := hg
  have HH : Hid (∀ r ∈ L, keepE r = true) := hk
  obtain ⟨i0, hi, hz0, hz1, hz2⟩ := info_parts info_span
  have HI : Hid (Tryz.prog.info? 136 = some i0 ∧ i0.zero = some (.agg #[.int .i64 0, .int .i64 0]) ∧ i0.size = 2 ∧ i0.bytes = 16) := ⟨hi, hz0, hz1, hz2⟩
  clear hg hk hi hz0 hz1 hz2
  obtain ⟨R, HR⟩ : ∃ R, Hid (R = runsF y L []) := ⟨_, rfl⟩
  rw [← HR.out]
  go_enter Tryz.func108, Tryz.ntmps108
  go_wp2_with fail
  go_loopw [5, 13] (fun v i wr => ∃ (k : Nat) (acc : List Sp), i = .int .i64 k ∧ RInv L y w k acc v wr) (fun _ i _ => L.length - (intOf i).toNat)
  case atStart => exact ⟨0, [], rfl, Nat.zero_le _, Nat.le_refl _, rfl, World.ownsRow_nil _ _ _ _, Below.refl _ _⟩
  case round =>
    obtain ⟨k, acc, rfl, hI⟩ := hrel
    have HV : Hid (RInv L y w k acc u5 wr) := hI
    obtain ⟨hkl, hal, hrun, hown, hBr⟩ := hI
    by_cases hlt : k < L.length
    · obtain ⟨g, o, rfl, hg, hat⟩ := HG.out (by omega)
      have hx := (hat k hlt).kept (w' := wr) fun j => hBr.cell (p := ⟨g, j, none⟩) hg
      have hd : L.drop k = L[k] :: L.drop (k + 1) := List.drop_eq_getElem_cons hlt
      have hkp := (keepE_iff _).1 (HH.out _ (List.getElem_mem hlt))
      generalize L[k] = r at *
      rw [hd, runsF] at hrun
      obtain ⟨x0, x1, x2, x3⟩ := hx
      have HB1 : Hid (∀ o, Below w.heap.size w (wr.alloc o) ∧ (wr.alloc o).ownsRow w.heap.size 136 2 u5 acc.length (flatS acc)) := fun o => ⟨hBr.alloc hBr.size o, row_below hown ((Below.refl _ wr).alloc (Nat.le_refl _) o)⟩
      obtain ⟨oa, cap2, rfl, hcap2, hoa⟩ := row_val hown
      clear hown hBr hat
      by_cases c1 : y < r.y
      · rw [if_pos (.inl c1)] at hrun
        have HRun : Hid (runsF y (L.drop (k + 1)) acc = runsF y L []) := hrun
        clear hrun hoa
        go_wp2
        exact ⟨⟨k + 1, acc, by go_num, by omega, by omega, HRun.out, (HB1.out _).2, (HB1.out _).1⟩, by simp [intOf]; omega⟩
      · by_cases c2 : r.y + r.h ≤ y
        · rw [if_pos (.inr c2)] at hrun
          have HRun : Hid (runsF y (L.drop (k + 1)) acc = runsF y L []) := hrun
          clear hrun hoa
          go_wp2
          exact ⟨⟨k + 1, acc, by go_num, by omega, by omega, HRun.out, (HB1.out _).2, (HB1.out _).1⟩, by simp [intOf]; omega⟩
        · rw [if_neg (by omega)] at hrun
          have HRun : Hid (runsF y (L.drop (k + 1)) (runA acc r.x (r.x + r.w)) = runsF y L []) := hrun
          clear hrun
          have HW : Hid (∀ W, Below wr.heap.size wr W → W.ownsRow w.heap.size 136 2 (.slice oa acc.length cap2) acc.length (flatS acc) ∧ Below w.heap.size w W) := fun W hb => ⟨row_below HV.out.2.2.2.1 hb, HV.out.2.2.2.2.trans (hb.mono HV.out.2.2.2.2.size)⟩
          rcases List.eq_nil_or_concat acc with rfl | ⟨init, s, hcc⟩
          · go_wp2_with fail
            go_quiet (fail)
            have hbW : Below wr.heap.size wr ((wr.alloc (.cells #[.int .i64 r.x, .int .i64 r.y, .int .i64 r.w, .int .i64 r.h] 55)).drewN nq) := below_drewN ((Below.refl _ wr).alloc (Nat.le_refl _) _)
            obtain ⟨W, hW⟩ : ∃ W, W = (wr.alloc (.cells #[.int .i64 r.x, .int .i64 r.y, .int .i64 r.w, .int .i64 r.h] 55)).drewN nq := ⟨_, rfl⟩
            rw [← hW] at hbW ⊢
            have HbW : Hid (Below wr.heap.size wr W) := hbW
            clear hW hbW
            obtain ⟨hi, hz0, hz1, hz2⟩ := HI.out
            have hc3 : Hid (0 + 1 ≤ maxLen) := by unfold Hid maxLen; omega
            have hc4 : Hid ((0 + 1) * 16 ≤ 140737488355328) := by unfold Hid; omega
            have Hown : Hid (∀ o1, (W.alloc o1).ownsRow w.heap.size 136 2 (.slice oa 0 cap2) 0 (flatS ([] : List Sp)) ∧ Below w.heap.size w (W.alloc o1)) := fun o1 => HW.out _ (HbW.out.alloc HbW.out.size o1)
            have hc5 : Hid (∀ o1, w.heap.size ≤ (W.alloc o1).heap.size) := fun o1 => (Hown.out o1).2.size
            go_wp2_with (at_builtin; refine wpList_append_own _ rfl _ _ 132 rfl w.heap.size 136 i0 (.agg #[.int .i64 0, .int .i64 0]) 2 16 Tryz.underlying132 hi hz0 hz1 hz2 rfl (by decide) (.slice oa 0 cap2) 0 (flatS ([] : List Sp)) rfl (Hown.out _).1 _ 1 1 [.int .i64 r.x, .int .i64 (r.x + r.w)] rfl rfl (cell_two _ _ _ _) (one2 _ _) hc3.out hc4.out (hc5.out _) ?_)
            intro v' w4 hown' hgrow hnil
            have H4 : Hid (w4.ownsRow w.heap.size 136 2 v' (([] : List Sp) ++ [(r.x, r.x + r.w)]).length (flatS (([] : List Sp) ++ [(r.x, r.x + r.w)])) ∧ Below w.heap.size w w4) := by
              refine ⟨?_, app_below (Hown.out _).2 (Hown.out _).1 (Nat.le_refl _) hgrow⟩
              rw [flatS_app, List.length_append]
              exact hown'
            clear hown' hgrow hnil hi hz0 hz1 hz2
            have HRel : Hid (∃ (k' : Nat) (acc : List Sp), Value.int .i64 ((k : Int) + 1) = .int .i64 k' ∧ RInv L y w k' acc v' w4) := ⟨k + 1, ([] : List Sp) ++ [(r.x, r.x + r.w)], by go_num, by omega, by simp, HRun.out, H4.out.1, H4.out.2⟩
            go_wp2
            go_roundw
            case rel => exact HRel.out
            case measure => simp [intOf]; omega
          · rw [List.concat_eq_append] at hcc
            subst hcc
            have hlen : (init ++ [s]).length = init.length + 1 := by simp
            rw [hlen] at hal hcap2 hoa HW ⊢
            obtain ⟨g2, rfl, hg2, hg3⟩ := hoa (by omega)
            have hrs := runA_snoc s r.x (r.x + r.w) init
            have hown := HV.out.2.2.2.1
            rw [hlen] at hown
            have hcel := own_cell hown (init.length * 2 + 1) (by omega)
            rw [(flatS_at (init ++ [s]) init.length (by simp)).2] at hcel
            have hfr := own_frozen hown (init.length * 2 + 1)
            have hs2 : (init ++ [s])[init.length]'(by simp) = s := by simp
            rw [hs2] at hcel
            clear hown hoa
            by_cases c3 : r.x ≤ s.2
            · rw [if_pos c3] at hrs
              go_wp2_with fail
              go_quiet (fail)
              have HRel : Hid (∀ W, Below wr.heap.size wr W → ∃ (k' : Nat) (acc : List Sp), Value.int .i64 ((k : Int) + 1) = .int .i64 k' ∧ RInv L y w k' acc (.slice (some ⟨g2, 0, none⟩) (init.length + 1) cap2) (W.setCell ⟨g2, init.length * 2 + 1, none⟩ (.int .i64 (max s.2 (r.x + r.w))))) := by
                intro W hb
                obtain ⟨ho, hB⟩ := HW.out W hb
                refine ⟨k + 1, init ++ [(s.1, max s.2 (r.x + r.w))], by go_num, by omega, by simp; omega, by rw [← HRun.out, hrs], ?_, hB.setCell (p := ⟨g2, _, none⟩) (by simpa using hg2) _⟩
                have := own_set ho (init.length * 2 + 1) (.int .i64 (max s.2 (r.x + r.w)))
                rw [flatS_set] at this
                simpa using this
              have HbW : Hid (Below wr.heap.size wr ((wr.alloc (.cells #[.int .i64 r.x, .int .i64 r.y, .int .i64 r.w, .int .i64 r.h] 55)).drewN nq)) := below_drewN ((Below.refl _ wr).alloc (Nat.le_refl _) _)
              go_wp2
              go_roundw
              case rel => exact HRel.out _ HbW.out
              case measure => simp [intOf]; omega
            · rw [if_neg c3] at hrs
              go_wp2_with fail
              go_quiet (fail)
              have hbW : Below wr.heap.size wr ((wr.alloc (.cells #[.int .i64 r.x, .int .i64 r.y, .int .i64 r.w, .int .i64 r.h] 55)).drewN nq) := below_drewN ((Below.refl _ wr).alloc (Nat.le_refl _) _)
              obtain ⟨W, hW⟩ : ∃ W, W = (wr.alloc (.cells #[.int .i64 r.x, .int .i64 r.y, .int .i64 r.w, .int .i64 r.h] 55)).drewN nq := ⟨_, rfl⟩
              rw [← hW] at hbW ⊢
              have HbW : Hid (Below wr.heap.size wr W) := hbW
              clear hW hbW
              have hcW : W.cell? ⟨g2, init.length * 2 + 1, none⟩ = some (.int .i64 s.2) := (HbW.out.cell (p := ⟨g2, init.length * 2 + 1, none⟩) hg3).trans hcel
              obtain ⟨hi, hz0, hz1, hz2⟩ := HI.out
              have hc3 : Hid (init.length + 1 + 1 ≤ maxLen) := by unfold Hid maxLen; omega
              have hc4 : Hid ((init.length + 1 + 1) * 16 ≤ 140737488355328) := by unfold Hid; omega
              have Hown : Hid (∀ o1, (W.alloc o1).ownsRow w.heap.size 136 2 (.slice (some ⟨g2, 0, none⟩) (init.length + 1) cap2) (init.length + 1) (flatS (init ++ [s])) ∧ Below w.heap.size w (W.alloc o1)) := fun o1 => HW.out _ (HbW.out.alloc HbW.out.size o1)
              have hc5 : Hid (∀ o1, w.heap.size ≤ (W.alloc o1).heap.size) := fun o1 => (Hown.out o1).2.size
              go_wp2_with (at_builtin; refine wpList_append_own _ rfl _ _ 132 rfl w.heap.size 136 i0 (.agg #[.int .i64 0, .int .i64 0]) 2 16 Tryz.underlying132 hi hz0 hz1 hz2 rfl (by decide) (.slice (some ⟨g2, 0, none⟩) (init.length + 1) cap2) (init.length + 1) (flatS (init ++ [s])) rfl (Hown.out _).1 _ 1 1 [.int .i64 r.x, .int .i64 (r.x + r.w)] rfl rfl (cell_two _ _ _ _) (one2 _ _) hc3.out hc4.out (hc5.out _) ?_)
              intro v' w4 hown' hgrow hnil
              have H4 : Hid (w4.ownsRow w.heap.size 136 2 v' ((init ++ [s]) ++ [(r.x, r.x + r.w)]).length (flatS ((init ++ [s]) ++ [(r.x, r.x + r.w)])) ∧ Below w.heap.size w w4) := by
                refine ⟨?_, app_below (Hown.out _).2 (Hown.out _).1 (Nat.le_refl _) hgrow⟩
                rw [flatS_app, List.length_append, hlen]
                exact hown'
              clear hown' hgrow hnil hi hz0 hz1 hz2
              have HRel : Hid (∃ (k' : Nat) (acc : List Sp), Value.int .i64 ((k : Int) + 1) = .int .i64 k' ∧ RInv L y w k' acc v' w4) := ⟨k + 1, (init ++ [s]) ++ [(r.x, r.x + r.w)], by go_num, by omega, by simp at hal ⊢; omega, by rw [← HRun.out, hrs, List.append_assoc]; rfl, H4.out.1, H4.out.2⟩
              go_wp2
              go_roundw
              case rel => exact HRel.out
              case measure => simp [intOf]; omega
    · obtain rfl : k = L.length := by omega
      rw [List.drop_length] at hrun
      obtain rfl : acc = R := by rw [HR.out]; exact hrun
      obtain ⟨oa2, cap2, rfl, hcap2, hsp⟩ := spl_own hown
      have HS : Hid (SpL wr (.slice oa2 acc.length acc.length) acc) := hsp
      clear hsp
      have HB : Hid (Below w.heap.size w wr) := hBr
      clear hown hBr hrun
      go_wp2
      go_ret
      exact ⟨_, rfl, HS.out, HB.out⟩

end Go.Proofs.YtleoaanjcccooaaGreatDoor

/-
  No room behind no list; an append of nothing.
-/
namespace Go.Proofs.YtleoaanjcccooaaGreatDoor
open Go.RowKit

/-- No room behind no list. -/
def NoNil (v : Value) : Prop := ∀ c, v = .slice none 0 c → c = 0
theorem own_nil {w : World} {base : Nat} {e : TypeId} {size n : Nat} {v : Value} {xs : List Value} (h : w.ownsRow base e size v n xs) : NoNil v := by
  intro c hc
  obtain ⟨_, ⟨h, _⟩ | ⟨g, cap, cur, h, _⟩⟩ := h
  · rw [h] at hc; injection hc with _ _ hc; exact hc.symm
  · rw [h] at hc; injection hc with hc _ _; cases hc

theorem app_none {P : Program} {w : World} {ops : Array Oper} {rest : List Oper} {o : Oper} {a : Act} {Q : Exit → Act → World → Prop} (hgd : o.guard = none) (s x : Operand) (t : TypeId)
    (ho : o.op = .call { callee := .builtin .append, args := #[s, x], argTypes := #[t, t] })
    (base : Nat) (e : TypeId) (i : TypeInfo) (size : Nat) (ht : P.underlying t = some (.slice e)) (hi : P.info? e = some i)
    (v : Value) (n : Nat) (xs : List Value) (hs : a.eval s = v) (hown : w.ownsRow base e size v n xs) (hx : a.eval x = .slice none 0 0)
    (h : ∀ v' w', v' = v → w' = w → wpList P ops Q rest (a.put o.dst v') w') : wpList P ops Q (o :: rest) a w :=
  wpList_append_own_none hgd s x t ho base e i size ht hi v n xs hs hown hx (h v w rfl rfl)

end Go.Proofs.YtleoaanjcccooaaGreatDoor

/-
  A region that draws its order, whose own operations only read and whose callees leave what was there: one walk. Contracts of the document's answer: its leaves.
-/
namespace Go.Proofs.YtleoaanjcccooaaGreatDoor
open Go.RowKit

/-- A world that has grown out of W: below W's size nothing has turned. -/
structure Gw (W : World) where
  wd : World
  below : Below W.heap.size W wd

theorem wp_region_gw {P : Program} {id : Nat} {Q : Exit → Act → World → Prop} {a : Act} {w : World} {l : List Oper} (hm : P.follows .mixedOrders = true) (hB : Region.lexB .any l.toArray = true)
    (h : wpQuiet P l.toArray (fun w' => ∃ t : Gw w, w' = t.wd) (fun a' => ∀ w', (∃ t : Gw w, w' = t.wd) → Q .normal a' w') l a) : (Code.region id l.toArray true).wp P Q a w :=
  wp_region_quiet (C := fun w' => ∃ t : Gw w, w' = t.wd) hm hB ⟨⟨w.drew, (Below.refl _ _).drew⟩, rfl⟩ (by simpa using h)
theorem gw_call {P : Program} {f : FuncId} {args : Array Value} {W : World} {v : Value} {t : Gw W}
    (h : Calls P f args t.wd fun e w' => e = .returned v ∧ Below t.wd.heap.size t.wd w') : Calls P f args t.wd fun e w'' => e = .returned v ∧ ∃ t' : Gw W, w'' = t'.wd :=
  h.mono fun _ w'' ⟨he, hb⟩ => ⟨he, ⟨⟨w'', t.below.trans (hb.mono t.below.size)⟩, rfl⟩⟩
theorem gw_same {P : Program} {f : FuncId} {args : Array Value} {W : World} {v : Value} {t : Gw W}
    (h : Calls P f args t.wd fun e w' => e = .returned v ∧ w' = t.wd) : Calls P f args t.wd fun e w'' => e = .returned v ∧ ∃ t' : Gw W, w'' = t'.wd :=
  h.mono fun _ _ ⟨he, hw⟩ => ⟨he, ⟨t, hw⟩⟩
theorem gw_ne {B : Nat} {w W : World} (_h : Below B w W) : Nonempty (Gw W) := ⟨⟨W, Below.refl _ _⟩⟩
theorem gw4 {W : World} {b : Nat} {x y n m : Int} (h : At4 W b x y n m) (t : Gw W) : At4 t.wd b x y n m := h.below t.below
theorem gw2 {W : World} {b : Nat} {x y : Int} (h : At2 W b x y) (t : Gw W) : At2 t.wd b x y := h.below t.below

end Go.Proofs.YtleoaanjcccooaaGreatDoor
