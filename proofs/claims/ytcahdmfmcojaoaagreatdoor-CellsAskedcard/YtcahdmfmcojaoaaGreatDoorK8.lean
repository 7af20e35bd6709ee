/-
  Texts of this claim, one behind the other: what each is about stands ahead of it.
-/
import Derived.Test.YtcahdmfmcojaoaaGreatDoorK7
import Derived.Test.YtcahdmfmcojaoaaGreatDoorK0
import Derived.Test.YtcahdmfmcojaoaaGreatDoorK2
import Derived.Test.YtcahdmfmcojaoaaGreatDoorK3
import Derived.Deep.RegionWith
import Derived.Deep.DeepCutAuto
/-
  Cells written over in memory of one's own.
-/
namespace Go.Proofs.YtcahdmfmcojaoaaGreatDoor
open Go.RowKit

def ScM (lo : Nat) (w : World) (g n cap : Nat) (L : List Ce) : Prop := L.length = n ∧ w.ownsRow lo 34 11 (.slice (some ⟨g, 0, none⟩) n cap) n (flatC L)
theorem ScM.own {lo : Nat} {w : World} {g n cap : Nat} {L : List Ce} (h : ScM lo w g n cap L) : OwC lo w (.slice (some ⟨g, 0, none⟩) n cap) L := by
  unfold OwC
  rw [h.1]
  exact h.2
theorem ScM.below {lo : Nat} {w w' : World} {g n cap : Nat} {L : List Ce} (h : ScM lo w g n cap L) (hb : Below w.heap.size w w') : ScM lo w' g n cap L := ⟨h.1, row_below h.2 hb⟩
theorem ScM.lt {lo : Nat} {w : World} {g n cap : Nat} {L : List Ce} (h : ScM lo w g n cap L) : lo ≤ g ∧ g < w.heap.size := row_lt h.2 g rfl
theorem ScM.cap {lo : Nat} {w : World} {g n cap : Nat} {L : List Ce} (h : ScM lo w g n cap L) : n ≤ cap := by
  obtain ⟨_, ⟨h, _⟩ | ⟨g', cap', cur, h, hb, hc, h1, _⟩⟩ := h.2
  · cases h
  · injection h with _ _ e3
    subst e3
    exact h1
theorem ScM.at {lo : Nat} {w : World} {g n cap : Nat} {L : List Ce} (h : ScM lo w g n cap L) (k : Nat) (hk : k < L.length) : CeAt w g (k * 11) L[k] := by
  rw [ceat_iff]
  intro j hj
  rw [own_cell h.2 (k * 11 + j) (by have := h.1; omega), flatC_at L k hk j hj]
theorem ScM.frozen {lo : Nat} {w : World} {g n cap : Nat} {L : List Ce} (h : ScM lo w g n cap L) (j : Nat) : w.frozen? ⟨g, j, none⟩ = false := own_frozen h.2 j
theorem OwC.scm {lo : Nat} {w : World} {v : Value} {L : List Ce} (h : OwC lo w v L) (hp : 0 < L.length) : ∃ g cap, v = .slice (some ⟨g, 0, none⟩) L.length cap ∧ ScM lo w g L.length cap L := by
  obtain ⟨hl, ⟨rfl, h0⟩ | ⟨g, cap, cur, rfl, hb, hc, h1, h2, h3, h4⟩⟩ := id h
  · omega
  · exact ⟨g, cap, rfl, rfl, h⟩

theorem flatC_put : ∀ (L : List Ce) (k : Nat) (_ : k < L.length) (c : Ce), (((((((((((flatC L).set (k * 11) (.int .i32 c.r)).set (k * 11 + 1) (.int .u8 c.c.r)).set (k * 11 + 2) (.int .u8 c.c.g)).set (k * 11 + 3) (.int .u8 c.c.b)).set (k * 11 + 4) (.int .u8 c.c.a)).set (k * 11 + 5) (.int .u8 c.b.r)).set (k * 11 + 6) (.int .u8 c.b.g)).set (k * 11 + 7) (.int .u8 c.b.b)).set (k * 11 + 8) (.int .u8 c.b.a)).set (k * 11 + 9) (.bool c.wd)).set (k * 11 + 10) (.bool c.tl) = flatC (L.set k c)
  | [], k, h, _ => absurd h (Nat.not_lt_zero _)
  | s :: L, 0, _, c => rfl
  | s :: L, k + 1, h, c => by
    have h' : k < L.length := by simpa using h
    have ih := flatC_put L k h' c
    have e : ∀ (X : List Value) (j : Nat) (v : Value), (cCel s ++ X).set ((k + 1) * 11 + j) v = cCel s ++ X.set (k * 11 + j) v := fun X j v => by
      rw [List.set_append_right _ _ (by rw [cCel_len]; omega), cCel_len]
      congr 2
      omega
    have e0 := fun X v => e X 0 v
    simp only [Nat.add_zero] at e0
    show (((((((((((cCel s ++ flatC L).set ((k + 1) * 11) (.int .i32 c.r)).set ((k + 1) * 11 + 1) (.int .u8 c.c.r)).set ((k + 1) * 11 + 2) (.int .u8 c.c.g)).set ((k + 1) * 11 + 3) (.int .u8 c.c.b)).set ((k + 1) * 11 + 4) (.int .u8 c.c.a)).set ((k + 1) * 11 + 5) (.int .u8 c.b.r)).set ((k + 1) * 11 + 6) (.int .u8 c.b.g)).set ((k + 1) * 11 + 7) (.int .u8 c.b.b)).set ((k + 1) * 11 + 8) (.int .u8 c.b.a)).set ((k + 1) * 11 + 9) (.bool c.wd)).set ((k + 1) * 11 + 10) (.bool c.tl) = _
    rw [e0, e, e, e, e, e, e, e, e, e, e, ih]
    rfl
theorem flatC_fore : ∀ (L : List Ce) (k : Nat) (h : k < L.length) (c : Ce), ((((flatC L).set (k * 11 + 1) (.int .u8 c.c.r)).set (k * 11 + 2) (.int .u8 c.c.g)).set (k * 11 + 3) (.int .u8 c.c.b)).set (k * 11 + 4) (.int .u8 c.c.a) = flatC (L.set k ⟨L[k].r, c.c, L[k].b, L[k].wd, L[k].tl⟩)
  | [], k, h, _ => absurd h (Nat.not_lt_zero _)
  | s :: L, 0, _, c => rfl
  | s :: L, k + 1, h, c => by
    have h' : k < L.length := by simpa using h
    have ih := flatC_fore L k h' c
    have e : ∀ (X : List Value) (j : Nat) (v : Value), (cCel s ++ X).set ((k + 1) * 11 + j) v = cCel s ++ X.set (k * 11 + j) v := fun X j v => by
      rw [List.set_append_right _ _ (by rw [cCel_len]; omega), cCel_len]
      congr 2
      omega
    show ((((cCel s ++ flatC L).set ((k + 1) * 11 + 1) (.int .u8 c.c.r)).set ((k + 1) * 11 + 2) (.int .u8 c.c.g)).set ((k + 1) * 11 + 3) (.int .u8 c.c.b)).set ((k + 1) * 11 + 4) (.int .u8 c.c.a) = _
    rw [e, e, e, e, ih]
    rfl
theorem flatC_back : ∀ (L : List Ce) (k : Nat) (h : k < L.length) (c : Ce), ((((flatC L).set (k * 11 + 5) (.int .u8 c.b.r)).set (k * 11 + 6) (.int .u8 c.b.g)).set (k * 11 + 7) (.int .u8 c.b.b)).set (k * 11 + 8) (.int .u8 c.b.a) = flatC (L.set k ⟨L[k].r, L[k].c, c.b, L[k].wd, L[k].tl⟩)
  | [], k, h, _ => absurd h (Nat.not_lt_zero _)
  | s :: L, 0, _, c => rfl
  | s :: L, k + 1, h, c => by
    have h' : k < L.length := by simpa using h
    have ih := flatC_back L k h' c
    have e : ∀ (X : List Value) (j : Nat) (v : Value), (cCel s ++ X).set ((k + 1) * 11 + j) v = cCel s ++ X.set (k * 11 + j) v := fun X j v => by
      rw [List.set_append_right _ _ (by rw [cCel_len]; omega), cCel_len]
      congr 2
      omega
    show ((((cCel s ++ flatC L).set ((k + 1) * 11 + 5) (.int .u8 c.b.r)).set ((k + 1) * 11 + 6) (.int .u8 c.b.g)).set ((k + 1) * 11 + 7) (.int .u8 c.b.b)).set ((k + 1) * 11 + 8) (.int .u8 c.b.a) = _
    rw [e, e, e, e, ih]
    rfl
theorem ScM.put {lo : Nat} {w : World} {g n cap : Nat} {L : List Ce} (h : ScM lo w g n cap L) (k : Nat) (hk : k < L.length) (p : Nat) (hp : p = k * 11) (c : Ce) : ScM lo ((((((((((((w).setCell ⟨g, p, none⟩ (.int .i32 c.r)).setCell ⟨g, p + 1, none⟩ (.int .u8 c.c.r)).setCell ⟨g, p + 2, none⟩ (.int .u8 c.c.g)).setCell ⟨g, p + 3, none⟩ (.int .u8 c.c.b)).setCell ⟨g, p + 4, none⟩ (.int .u8 c.c.a)).setCell ⟨g, p + 5, none⟩ (.int .u8 c.b.r)).setCell ⟨g, p + 6, none⟩ (.int .u8 c.b.g)).setCell ⟨g, p + 7, none⟩ (.int .u8 c.b.b)).setCell ⟨g, p + 8, none⟩ (.int .u8 c.b.a)).setCell ⟨g, p + 9, none⟩ (.bool c.wd)).setCell ⟨g, p + 10, none⟩ (.bool c.tl)) g n cap (L.set k c) := by
  subst hp
  refine ⟨by rw [List.length_set]; exact h.1, ?_⟩
  rw [← flatC_put L k hk c]
  exact own_set (own_set (own_set (own_set (own_set (own_set (own_set (own_set (own_set (own_set (own_set (h.2) _ _) _ _) _ _) _ _) _ _) _ _) _ _) _ _) _ _) _ _) _ _
theorem ScM.fore {lo : Nat} {w : World} {g n cap : Nat} {L : List Ce} (h : ScM lo w g n cap L) (k : Nat) (hk : k < L.length) (p : Nat) (hp : p = k * 11) (c : Ce) : ScM lo (((((w).setCell ⟨g, p + 1, none⟩ (.int .u8 c.c.r)).setCell ⟨g, p + 2, none⟩ (.int .u8 c.c.g)).setCell ⟨g, p + 3, none⟩ (.int .u8 c.c.b)).setCell ⟨g, p + 4, none⟩ (.int .u8 c.c.a)) g n cap (L.set k ⟨L[k].r, c.c, L[k].b, L[k].wd, L[k].tl⟩) := by
  subst hp
  refine ⟨by rw [List.length_set]; exact h.1, ?_⟩
  rw [← flatC_fore L k hk c]
  exact own_set (own_set (own_set (own_set (h.2) _ _) _ _) _ _) _ _
theorem ScM.back {lo : Nat} {w : World} {g n cap : Nat} {L : List Ce} (h : ScM lo w g n cap L) (k : Nat) (hk : k < L.length) (p : Nat) (hp : p = k * 11) (c : Ce) : ScM lo (((((w).setCell ⟨g, p + 5, none⟩ (.int .u8 c.b.r)).setCell ⟨g, p + 6, none⟩ (.int .u8 c.b.g)).setCell ⟨g, p + 7, none⟩ (.int .u8 c.b.b)).setCell ⟨g, p + 8, none⟩ (.int .u8 c.b.a)) g n cap (L.set k ⟨L[k].r, L[k].c, c.b, L[k].wd, L[k].tl⟩) := by
  subst hp
  refine ⟨by rw [List.length_set]; exact h.1, ?_⟩
  rw [← flatC_back L k hk c]
  exact own_set (own_set (own_set (own_set (h.2) _ _) _ _) _ _) _ _
theorem ob_transC {w W W' : World} {r : Option Nat} (h : w.grownBy W r) (k : W.grownBy W' r) : w.grownBy W' r := 
  ⟨k.os.trans h.os, k.tape.trans h.tape, k.output.trans h.output, Nat.le_trans h.size k.size, fun b hb hr => (k.block b (Nat.lt_of_lt_of_le hb h.size) hr).trans (h.block b hb hr)⟩
theorem ob_setC (w : World) (g o : Nat) (v : Value) : w.grownBy (w.setCell ⟨g, o, none⟩ v) (some g) := 
  ⟨rfl, rfl, rfl, ((Below.refl 0 w).setCell (p := ⟨g, o, none⟩) (Nat.zero_le _) v).size, fun b _ hb => Below.heap_setCell _ _ _ b (fun e => hb (by rw [e]))⟩
theorem ob_putC (w : World) (g p : Nat) (c : Ce) : w.grownBy ((((((((((((w).setCell ⟨g, p, none⟩ (.int .i32 c.r)).setCell ⟨g, p + 1, none⟩ (.int .u8 c.c.r)).setCell ⟨g, p + 2, none⟩ (.int .u8 c.c.g)).setCell ⟨g, p + 3, none⟩ (.int .u8 c.c.b)).setCell ⟨g, p + 4, none⟩ (.int .u8 c.c.a)).setCell ⟨g, p + 5, none⟩ (.int .u8 c.b.r)).setCell ⟨g, p + 6, none⟩ (.int .u8 c.b.g)).setCell ⟨g, p + 7, none⟩ (.int .u8 c.b.b)).setCell ⟨g, p + 8, none⟩ (.int .u8 c.b.a)).setCell ⟨g, p + 9, none⟩ (.bool c.wd)).setCell ⟨g, p + 10, none⟩ (.bool c.tl)) (some g) :=
  ob_transC (ob_transC (ob_transC (ob_transC (ob_transC (ob_transC (ob_transC (ob_transC (ob_transC (ob_transC (ob_setC _ _ _ _) (ob_setC _ _ _ _)) (ob_setC _ _ _ _)) (ob_setC _ _ _ _)) (ob_setC _ _ _ _)) (ob_setC _ _ _ _)) (ob_setC _ _ _ _)) (ob_setC _ _ _ _)) (ob_setC _ _ _ _)) (ob_setC _ _ _ _)) (ob_setC _ _ _ _)
theorem ob_foreC (w : World) (g p : Nat) (c : Ce) : w.grownBy (((((w).setCell ⟨g, p + 1, none⟩ (.int .u8 c.c.r)).setCell ⟨g, p + 2, none⟩ (.int .u8 c.c.g)).setCell ⟨g, p + 3, none⟩ (.int .u8 c.c.b)).setCell ⟨g, p + 4, none⟩ (.int .u8 c.c.a)) (some g) :=
  ob_transC (ob_transC (ob_transC (ob_setC _ _ _ _) (ob_setC _ _ _ _)) (ob_setC _ _ _ _)) (ob_setC _ _ _ _)
theorem ob_backC (w : World) (g p : Nat) (c : Ce) : w.grownBy (((((w).setCell ⟨g, p + 5, none⟩ (.int .u8 c.b.r)).setCell ⟨g, p + 6, none⟩ (.int .u8 c.b.g)).setCell ⟨g, p + 7, none⟩ (.int .u8 c.b.b)).setCell ⟨g, p + 8, none⟩ (.int .u8 c.b.a)) (some g) :=
  ob_transC (ob_transC (ob_transC (ob_setC _ _ _ _) (ob_setC _ _ _ _)) (ob_setC _ _ _ _)) (ob_setC _ _ _ _)

def updR (L : List Ce) (o m : Nat) (f : Nat → Ce → Ce) : List Ce := L.mapIdx fun k c => if o ≤ k ∧ k < o + m then f k c else c
theorem updR_len (L : List Ce) (o m : Nat) (f : Nat → Ce → Ce) : (updR L o m f).length = L.length := by simp [updR]
theorem updR_at (L : List Ce) (o m : Nat) (f : Nat → Ce → Ce) (k : Nat) (h : k < (updR L o m f).length) : (updR L o m f)[k] = if o ≤ k ∧ k < o + m then f k (L[k]'(by rw [updR_len] at h; exact h)) else L[k]'(by rw [updR_len] at h; exact h) := by simp [updR]
theorem updR_zero (L : List Ce) (o : Nat) (f : Nat → Ce → Ce) : updR L o 0 f = L := by
  apply List.ext_getElem (updR_len _ _ _ _)
  intro k h1 h2
  rw [updR_at, if_neg (by omega)]
theorem updR_next (L : List Ce) (o m : Nat) (f : Nat → Ce → Ce) (h : o + m < L.length) : (updR L o m f).set (o + m) (f (o + m) L[o + m]) = updR L o (m + 1) f := by
  apply List.ext_getElem (by rw [List.length_set, updR_len, updR_len])
  intro k h1 h2
  rw [List.getElem_set, updR_at L o (m + 1) f k h2]
  by_cases e : o + m = k
  · subst e
    rw [if_pos rfl, if_pos (by omega)]
  · rw [if_neg e, updR_at]
    by_cases c : o ≤ k ∧ k < o + m
    · rw [if_pos c, if_pos (by omega)]
    · rw [if_neg c, if_neg (by omega)]
theorem updR_own (L : List Ce) (o m : Nat) (f : Nat → Ce → Ce) (h : o + m < L.length) : (updR L o m f)[o + m]'(by rw [updR_len]; exact h) = L[o + m] := by
  rw [updR_at, if_neg (by omega)]

end Go.Proofs.YtcahdmfmcojaoaaGreatDoor

/-
  Boxes of colours; contracts of what two weights make of two numbers.
-/
namespace Go.Proofs.YtcahdmfmcojaoaaGreatDoor
open Go.RowKit

def AtC (w : World) (k : Nat) (c : Co) : Prop := w.cell? ⟨k, 0, none⟩ = some (.int .u8 c.r) ∧ w.cell? ⟨k, 1, none⟩ = some (.int .u8 c.g) ∧ w.cell? ⟨k, 2, none⟩ = some (.int .u8 c.b) ∧ w.cell? ⟨k, 3, none⟩ = some (.int .u8 c.a)
theorem AtC.below {W w1 : World} {k : Nat} {c : Co} (h : AtC W k c) (hb : Below W.heap.size W w1) : AtC w1 k c := by
  have e := keepAt hb h.1
  exact ⟨(e 0).trans h.1, (e 1).trans h.2.1, (e 2).trans h.2.2.1, (e 3).trans h.2.2.2⟩
theorem AtC.alloc {w : World} {k : Nat} {c : Co} (h : AtC w k c) (o : Obj) : AtC (w.alloc o) k c := h.below ((Below.refl _ _).alloc (Nat.le_refl _) o)
theorem AtC.new (w : World) (r g b a : Int) (t : TypeId) : AtC (w.alloc (.cells #[.int .u8 r, .int .u8 g, .int .u8 b, .int .u8 a] t)) w.heap.size ⟨r, g, b, a⟩ := by
  unfold AtC; simp
set_option maxHeartbeats 400000 in
theorem sharC_any (x y p q : Int) (w : World) (hx : By x) (hy : By y) (hp : 0 ≤ p) (hp' : p ≤ 65025) (hq : 0 ≤ q) (hq' : q ≤ 65025) (h : 0 < p + q) :
    Calls Tryz.prog 142 #[.int .u8 x, .int .u8 y, .int .i64 p, .int .i64 q] w fun e w' => e = .returned (.int .u8 (shr x y p q)) ∧ w' = w := by
  have hs := shr_by hx hy hp hq h
  obtain ⟨x1, x2⟩ := hx
  obtain ⟨y1, y2⟩ := hy
  obtain ⟨s1, s2⟩ := hs
  have m1 : 0 ≤ p * x := Int.mul_nonneg hp x1
  have m2 : p * x ≤ 65025 * 255 := Int.mul_le_mul hp' x2 x1 (by omega)
  have m3 : 0 ≤ q * y := Int.mul_nonneg hq y1
  have m4 : q * y ≤ 65025 * 255 := Int.mul_le_mul hq' y2 y1 (by omega)
  go_enter Tryz.func142, Tryz.ntmps142
  go_wp2
  go_ret
  have e : shr x y p q % 256 = shr x y p q := Int.emod_eq_of_lt s1 (by omega)
  exact ⟨congrArg (fun z => Ending.returned (.int .u8 z)) e, rfl⟩

theorem boxes_ccc (w : World) (a b : Co) (t t' t'' : TypeId) : AtC (((w.alloc (.cells #[.int .u8 a.r, .int .u8 a.g, .int .u8 a.b, .int .u8 a.a] t)).alloc (.cells #[.int .u8 b.r, .int .u8 b.g, .int .u8 b.b, .int .u8 b.a] t')).alloc (.cells #[.int .u8 0, .int .u8 0, .int .u8 0, .int .u8 0] t'')) w.heap.size a ∧
    AtC (((w.alloc (.cells #[.int .u8 a.r, .int .u8 a.g, .int .u8 a.b, .int .u8 a.a] t)).alloc (.cells #[.int .u8 b.r, .int .u8 b.g, .int .u8 b.b, .int .u8 b.a] t')).alloc (.cells #[.int .u8 0, .int .u8 0, .int .u8 0, .int .u8 0] t'')) (w.heap.size + 1) b ∧
    AtC (((w.alloc (.cells #[.int .u8 a.r, .int .u8 a.g, .int .u8 a.b, .int .u8 a.a] t)).alloc (.cells #[.int .u8 b.r, .int .u8 b.g, .int .u8 b.b, .int .u8 b.a] t')).alloc (.cells #[.int .u8 0, .int .u8 0, .int .u8 0, .int .u8 0] t'')) (w.heap.size + 1 + 1) ⟨0, 0, 0, 0⟩ ∧
    Fr (((w.alloc (.cells #[.int .u8 a.r, .int .u8 a.g, .int .u8 a.b, .int .u8 a.a] t)).alloc (.cells #[.int .u8 b.r, .int .u8 b.g, .int .u8 b.b, .int .u8 b.a] t')).alloc (.cells #[.int .u8 0, .int .u8 0, .int .u8 0, .int .u8 0] t'')) (w.heap.size + 1 + 1) ∧
    Below w.heap.size w (((w.alloc (.cells #[.int .u8 a.r, .int .u8 a.g, .int .u8 a.b, .int .u8 a.a] t)).alloc (.cells #[.int .u8 b.r, .int .u8 b.g, .int .u8 b.b, .int .u8 b.a] t')).alloc (.cells #[.int .u8 0, .int .u8 0, .int .u8 0, .int .u8 0] t'')) := by
  have B := (AtC.new (w.alloc (.cells #[.int .u8 a.r, .int .u8 a.g, .int .u8 a.b, .int .u8 a.a] t)) b.r b.g b.b b.a t').alloc (.cells #[.int .u8 0, .int .u8 0, .int .u8 0, .int .u8 0] t'')
  have C := AtC.new ((w.alloc (.cells #[.int .u8 a.r, .int .u8 a.g, .int .u8 a.b, .int .u8 a.a] t)).alloc (.cells #[.int .u8 b.r, .int .u8 b.g, .int .u8 b.b, .int .u8 b.a] t')) 0 0 0 0 t''
  simp only [World.size_alloc] at B C
  exact ⟨((AtC.new w a.r a.g a.b a.a t).alloc _).alloc _, B, C, fr2 _ _ _ _ _, (((Below.refl _ w).alloc (Nat.le_refl _) _).alloc (by simp) _).alloc (by simp; omega) _⟩

set_option maxHeartbeats 1000000 in
theorem overK_any (a b : Co) (w : World) (ha : a.ok) (hb : b.ok) :
    Calls Tryz.prog 110 #[(Value.agg #[.int .u8 a.r, .int .u8 a.g, .int .u8 a.b, .int .u8 a.a]), (Value.agg #[.int .u8 b.r, .int .u8 b.g, .int .u8 b.b, .int .u8 b.a])] w fun e w' => e = .returned (Value.agg #[.int .u8 (overC a b).r, .int .u8 (overC a b).g, .int .u8 (overC a b).b, .int .u8 (overC a b).a]) ∧ Below w.heap.size w w' := by
  by_cases c0 : a.a = 0
  · rw [show overC a b = b by unfold overC; rw [if_pos c0]]
    go_enter Tryz.func110, Tryz.ntmps110
    go_wp2
    exact bodyPost_ret (v := (Value.agg #[.int .u8 b.r, .int .u8 b.g, .int .u8 b.b, .int .u8 b.a])) (by simp [results, Tryz.results110, go_sem]) rfl ⟨rfl, (((Below.refl _ w).alloc (Nat.le_refl _) _).alloc (by simp) _).alloc (by simp; omega) _⟩
  · have c1 : (a.a == 0) = false := by simpa using c0
    rw [show overC a b = ⟨shr a.r b.r (fro a) (beh a b), shr a.g b.g (fro a) (beh a b), shr a.b b.b (fro a) (beh a b), (fro a + beh a b + 127) / 255⟩ by unfold overC; rw [if_neg c0]]
    obtain ⟨w1, w2, w3, w4, w5⟩ := wts ha hb
    have w6 := wts_pos ha hb c0
    have hS : Hid (∀ x y w, By x → By y → Calls Tryz.prog 142 #[.int .u8 x, .int .u8 y, .int .i64 (255 * a.a), .int .i64 ((255 - a.a) * b.a)] w fun e w' => e = .returned (.int .u8 (shr x y (fro a) (beh a b))) ∧ w' = w) :=
      fun x y w hx hy => sharC_any x y _ _ w hx hy w1 w2 w3 w4 w6
    have hA : Hid (a.ok ∧ b.ok) := ⟨ha, hb⟩
    obtain ⟨_, _, _, a1, a2⟩ := id ha
    obtain ⟨_, _, _, b1, b2⟩ := id hb
    simp only [fro, beh] at w1 w2 w3 w4 w5 w6
    go_enter Tryz.func110, Tryz.ntmps110
    go_wp2_with fail
    obtain ⟨A, B, C, F, L⟩ := boxes_ccc w a b 30 30 30
    clear ha hb
    generalize hW : ((w.alloc (.cells #[.int .u8 a.r, .int .u8 a.g, .int .u8 a.b, .int .u8 a.a] 30)).alloc (.cells #[.int .u8 b.r, .int .u8 b.g, .int .u8 b.b, .int .u8 b.a] 30)).alloc (.cells #[.int .u8 0, .int .u8 0, .int .u8 0, .int .u8 0] 30) = W at *
    have HL : Hid (AtC W w.heap.size a ∧ AtC W (w.heap.size + 1) b ∧ AtC W (w.heap.size + 1 + 1) ⟨0, 0, 0, 0⟩ ∧ Fr W (w.heap.size + 1 + 1) ∧ Below w.heap.size w W) := ⟨A, B, C, F, L⟩
    clear A B C F L hW
    refine wp_region_lit 24 0 1 (fun _ => .cells #[] 0) [] (by kernel_rfl) (by kernel_rfl) rfl (fun k hk => absurd hk (by omega)) rfl (fun i h1 h2 => absurd h2 (by omega)) ?_
    apply Exists.intro
    refine ⟨fun bs ne => ?_, ?_⟩
    · obtain ⟨HA, HB, _⟩ := HL.out
      have d0 := fun t : Gb W bs => (HA.below t.below).1
      have d1 := fun t : Gb W bs => (HA.below t.below).2.1
      have d2 := fun t : Gb W bs => (HA.below t.below).2.2.1
      have d3 := fun t : Gb W bs => (HA.below t.below).2.2.2
      have e0 := fun t : Gb W bs => (HB.below t.below).1
      have e1 := fun t : Gb W bs => (HB.below t.below).2.1
      have e2 := fun t : Gb W bs => (HB.below t.below).2.2.1
      have e3 := fun t : Gb W bs => (HB.below t.below).2.2.2
      clear HA HB
      simp only [List.take_succ_cons, List.take_zero]
      repeat (go_big_quiet_step (first
        | (go_at_call_of 142 (Value.int .u8 a.r); exact gb_same (hS.out _ _ _ hA.out.1.1 hA.out.2.1))
        | (go_at_call_of 142 (Value.int .u8 a.g); exact gb_same (hS.out _ _ _ hA.out.1.2.1 hA.out.2.2.1))
        | (go_at_call_of 142 (Value.int .u8 a.b); exact gb_same (hS.out _ _ _ hA.out.1.2.2.1 hA.out.2.2.2.1))))
      exact wpQuiet_nil rfl
    · intro bl wr hb _ _
      obtain ⟨HA, HB, HC, HF, HD⟩ := HL.out
      replace HC := HC.below hb
      replace HF := (HF.below hb).2
      replace HD := HD.trans (hb.mono HD.size)
      obtain ⟨c0, c1, c2, c3⟩ := HC
      simp only [layL]
      refine wpAny_one 24 (by kernel_rfl) rfl ?_
      intro K hK
      go_simp
      refine hK _ _ ?_
      clear hK K
      refine wpAny_done (by kernel_rfl) ?_ _
      go_wp2
      exact bodyPost_ret (v := .agg #[.int .u8 _, .int .u8 _, .int .u8 _, .int .u8 _]) (by simp [results, Tryz.results110, go_sem, c0, c1, c2, c3, fro, beh]) rfl ⟨rfl, set4_below HD (by omega) _ _ _ _⟩

end Go.Proofs.YtcahdmfmcojaoaaGreatDoor

/-
  Package cells: wipe, tint, edges: what is made of a piece of a row.
-/
namespace Go.Proofs.YtcahdmfmcojaoaaGreatDoor
open Go.RowKit

theorem Bk.at11 {W : World} {b : Nat} {c : Ce} {t : TypeId} (h : Bk W b (#[.int .i32 c.r, .int .u8 c.c.r, .int .u8 c.c.g, .int .u8 c.c.b, .int .u8 c.c.a, .int .u8 c.b.r, .int .u8 c.b.g, .int .u8 c.b.b, .int .u8 c.b.a, .bool c.wd, .bool c.tl]) t) : CeAt W b 0 c := by
  rw [ceat_iff]
  intro j hj
  rw [Nat.zero_add, h.cell]
  show (cCel c).toArray[j]? = _
  rw [List.getElem?_toArray]
theorem ScM.look {lo : Nat} {w : World} {g n cap : Nat} {L : List Ce} (h : ScM lo w g n cap L) (k : Nat) (hk : k < L.length) (p : Nat) (hp : p = k * 11) : CeAt w g p L[k] := by
  rw [hp]
  exact h.at k hk
structure WiP (w : World) (lo g n cap o bc : Nat) (L : List Ce) (c : Ce) (k : Nat) (wr : World) : Prop where
  s : ScM lo wr g n cap (updR L o k fun _ _ => c)
  b : Bk wr bc (#[.int .i32 c.r, .int .u8 c.c.r, .int .u8 c.c.g, .int .u8 c.c.b, .int .u8 c.c.a, .int .u8 c.b.r, .int .u8 c.b.g, .int .u8 c.b.b, .int .u8 c.b.a, .bool c.wd, .bool c.tl]) 34
  g : w.grownBy wr (some g)

set_option maxRecDepth 10000 in
set_option maxHeartbeats 4000000 in
theorem wipe_any (lo g n cap o m c' B : Nat) (L : List Ce) (cb : Co) (w : World) (h : ScM lo w g n cap L) (hm : o + m ≤ n) (hB : B = o * 11) (hl : n ≤ 1000000) :
    Calls Tryz.prog 106 #[.slice (some ⟨g, B, none⟩) m c', (Value.agg #[.int .u8 cb.r, .int .u8 cb.g, .int .u8 cb.b, .int .u8 cb.a])] w fun e w' => e = .returned (.tuple #[]) ∧ ScM lo w' g n cap (updR L o m fun _ _ => (⟨32, coZ, cb, false, false⟩ : Ce)) ∧ w.grownBy w' (some g) := by
  obtain ⟨q, hq⟩ : ∃ q : Ce, q = ⟨32, coZ, cb, false, false⟩ := ⟨_, rfl⟩
  have HC : Hid (∀ W, Calls Tryz.prog 34 #[(Value.agg #[.int .u8 cb.r, .int .u8 cb.g, .int .u8 cb.b, .int .u8 cb.a])] W fun e w' => e = .returned (Value.agg #[.int .i32 q.r, .int .u8 q.c.r, .int .u8 q.c.g, .int .u8 q.c.b, .int .u8 q.c.a, .int .u8 q.b.r, .int .u8 q.b.g, .int .u8 q.b.b, .int .u8 q.b.a, .bool q.wd, .bool q.tl]) ∧ Below W.heap.size W w') := fun W => by rw [hq]; exact blank_any cb W
  have H0 : Hid (∀ W, Below (w.alloc (.cells #[.int .u8 cb.r, .int .u8 cb.g, .int .u8 cb.b, .int .u8 cb.a] 30)).heap.size (w.alloc (.cells #[.int .u8 cb.r, .int .u8 cb.g, .int .u8 cb.b, .int .u8 cb.a] 30)) W → WiP w lo g n cap o W.heap.size L q 0 (W.alloc (.cells (#[.int .i32 q.r, .int .u8 q.c.r, .int .u8 q.c.g, .int .u8 q.c.b, .int .u8 q.c.a, .int .u8 q.b.r, .int .u8 q.b.g, .int .u8 q.b.b, .int .u8 q.b.a, .bool q.wd, .bool q.tl]) 34)) ∧ g < W.heap.size) := fun W hW => by
    have h1 : Below w.heap.size w (w.alloc (.cells #[.int .u8 cb.r, .int .u8 cb.g, .int .u8 cb.b, .int .u8 cb.a] 30)) := (Below.refl _ w).alloc (Nat.le_refl _) _
    have h2 : Below w.heap.size w W := h1.trans (hW.mono h1.size)
    have h3 : Below w.heap.size w (W.alloc (.cells (#[.int .i32 q.r, .int .u8 q.c.r, .int .u8 q.c.g, .int .u8 q.c.b, .int .u8 q.c.a, .int .u8 q.b.r, .int .u8 q.b.g, .int .u8 q.b.b, .int .u8 q.b.a, .bool q.wd, .bool q.tl]) 34)) := h2.alloc h2.size _
    exact ⟨⟨by rw [updR_zero]; exact h.below h3, Bk.new _ _ _, ⟨h3.os, h3.tape, h3.output, h3.size, fun b hb _ => h3.block b hb⟩⟩, Nat.lt_of_lt_of_le h.lt.2 h2.size⟩
  have HL : Hid (L.length = n) := h.1
  have HB : Hid (B = o * 11) := hB
  rw [← hq]
  clear h hq hB
  go_enter Tryz.func106, Tryz.ntmps106
  go_wp2_with fail
  refine (HC.out _).mono ?_
  rintro e w1 ⟨rfl, hb⟩
  obtain ⟨h0, hg⟩ := H0.out _ hb
  have HI : Hid (WiP w lo g n cap o w1.heap.size L q 0 (w1.alloc (.cells (#[.int .i32 q.r, .int .u8 q.c.r, .int .u8 q.c.g, .int .u8 q.c.b, .int .u8 q.c.a, .int .u8 q.b.r, .int .u8 q.b.g, .int .u8 q.b.b, .int .u8 q.b.a, .bool q.wd, .bool q.tl]) 34))) := h0
  obtain ⟨bc, hbc⟩ : ∃ bc, bc = w1.heap.size := ⟨_, rfl⟩
  rw [← hbc] at HI hg
  have hne : g ≠ bc := by omega
  clear hb h0 H0 HC
  go_wp2_with fail
  rw [← hbc]
  clear hbc
  go_loopw [10] (fun i wr => ∃ k : Nat, k ≤ m ∧ i = .int .i64 k ∧ Hid (WiP w lo g n cap o bc L q k wr)) (fun i _ => m - (intOf i).toNat)
  case atStart => exact ⟨0, Nat.zero_le _, rfl, HI⟩
  case round =>
    obtain ⟨k, hk, rfl, HR⟩ := hrel
    clear HI
    by_cases hlt : k < m
    · have ik : (k : Int) < m := by omega
      have hkl : o + k < (updR L o k fun _ _ => q).length := by rw [updR_len, HL.out]; omega
      obtain ⟨d0, d1, d2, d3, d4, d5, d6, d7, d8, d9, d10⟩ := HR.out.b.at11
      simp only [Nat.zero_add] at d1 d2 d3 d4 d5 d6 d7 d8 d9 d10
      obtain ⟨e0, e1, e2, e3, e4, e5, e6, e7, e8, e9, e10⟩ := HR.out.s.look (o + k) hkl (B + k * 11) (by have := HB.out; omega)
      have ff := HR.out.s.frozen
      have f0 := ff (B + k * 11)
      have f1 := ff (B + k * 11 + 1)
      have f2 := ff (B + k * 11 + 2)
      have f3 := ff (B + k * 11 + 3)
      have f4 := ff (B + k * 11 + 4)
      have f5 := ff (B + k * 11 + 5)
      have f6 := ff (B + k * 11 + 6)
      have f7 := ff (B + k * 11 + 7)
      have f8 := ff (B + k * 11 + 8)
      have f9 := ff (B + k * 11 + 9)
      have f10 := ff (B + k * 11 + 10)
      clear ff
      generalize (updR L o k fun _ _ => q)[o + k] = z at *
      have HN : Hid (∀ W, W = (((((((((((wr).setCell ⟨g, B + k * 11, none⟩ (.int .i32 q.r)).setCell ⟨g, B + k * 11 + 1, none⟩ (.int .u8 q.c.r)).setCell ⟨g, B + k * 11 + 2, none⟩ (.int .u8 q.c.g)).setCell ⟨g, B + k * 11 + 3, none⟩ (.int .u8 q.c.b)).setCell ⟨g, B + k * 11 + 4, none⟩ (.int .u8 q.c.a)).setCell ⟨g, B + k * 11 + 5, none⟩ (.int .u8 q.b.r)).setCell ⟨g, B + k * 11 + 6, none⟩ (.int .u8 q.b.g)).setCell ⟨g, B + k * 11 + 7, none⟩ (.int .u8 q.b.b)).setCell ⟨g, B + k * 11 + 8, none⟩ (.int .u8 q.b.a)).setCell ⟨g, B + k * 11 + 9, none⟩ (.bool q.wd)).setCell ⟨g, B + k * 11 + 10, none⟩ (.bool q.tl) → WiP w lo g n cap o bc L q (k + 1) W) := fun W hW => by
        have hL := HL.out
        refine ⟨?_, ?_, ?_⟩
        · have := HR.out.s.put (o + k) hkl (B + k * 11) (by have := HB.out; omega) q
          have e := updR_next L o k (fun _ _ => q) (by omega)
          rw [← e, hW]
          exact this
        · rw [hW]
          exact (((((((((((HR.out.b).other _ _ hne).other _ _ hne).other _ _ hne).other _ _ hne).other _ _ hne).other _ _ hne).other _ _ hne).other _ _ hne).other _ _ hne).other _ _ hne).other _ _ hne
        · rw [hW]
          exact ob_transC HR.out.g (ob_putC _ _ _ _)
      go_wp2
      go_roundw
      case rel => exact ⟨k + 1, by omega, by go_num, HN.out _ rfl⟩
      case measure => simp [intOf]; omega
    · obtain rfl : m = k := by omega
      go_wp2
      go_end0
      exact ⟨rfl, HR.out.s, HR.out.g⟩

end Go.Proofs.YtcahdmfmcojaoaaGreatDoor
