/-
  Texts of this claim, one behind the other: what each is about stands ahead of it.
-/
import Derived.Test.YtfjbnejmcanamaaGreatDoorK7
import Derived.Deep.RegionWith
import Derived.Deep.WholeRow
import Derived.Test.YtfjbnejmcanamaaGreatDoorK2
import Derived.Test.YtfjbnejmcanamaaGreatDoorK1
/-
  Cells written over in memory of one's own.
-/
namespace Go.Proofs.YtfjbnejmcanamaaGreatDoor
open Go.RowKit

/-- A screen's cells in a row of one's own, in the block g. -/
def ScM (lo : Nat) (w : World) (g n cap : Nat) (L : List Ce) : Prop := L.length = n ∧ w.ownsRow lo 63 11 (.slice (some ⟨g, 0, none⟩) n cap) n (flatC L)
theorem ScM.own {lo : Nat} {w : World} {g n cap : Nat} {L : List Ce} (h : ScM lo w g n cap L) : OwC lo w (.slice (some ⟨g, 0, none⟩) n cap) L := by
  unfold OwC
  rw [h.1]
  exact h.2
theorem ScM.below {lo : Nat} {w w' : World} {g n cap : Nat} {L : List Ce} (h : ScM lo w g n cap L) (hb : Below w.heap.size w w') : ScM lo w' g n cap L := ⟨h.1, row_below h.2 hb⟩
theorem ScM.lt {lo : Nat} {w : World} {g n cap : Nat} {L : List Ce} (h : ScM lo w g n cap L) : lo ≤ g ∧ g < w.heap.size := row_lt h.2 g rfl
theorem ScM.cap {lo : Nat} {w : World} {g n cap : Nat} {L : List Ce} (h : ScM lo w g n cap L) : n ≤ cap := by
  obtain ⟨_, ⟨h, _⟩ | ⟨g', cap', cur, h, hb, hc, h1, _⟩⟩ := h.2
  · cases h
  · injection h with _ _ e3
    subst e3
    exact h1
theorem ScM.at {lo : Nat} {w : World} {g n cap : Nat} {L : List Ce} (h : ScM lo w g n cap L) (k : Nat) (hk : k < L.length) : CeAt w g (k * 11) L[k] := by
  rw [ceat_iff]
  intro j hj
  rw [own_cell h.2 (k * 11 + j) (by have := h.1; omega), flatC_at L k hk j hj]
theorem ScM.frozen {lo : Nat} {w : World} {g n cap : Nat} {L : List Ce} (h : ScM lo w g n cap L) (j : Nat) : w.frozen? ⟨g, j, none⟩ = false := own_frozen h.2 j
/-- Cells of a block of its own become a screen's memory. -/
theorem OwC.scm {lo : Nat} {w : World} {v : Value} {L : List Ce} (h : OwC lo w v L) (hp : 0 < L.length) : ∃ g cap, v = .slice (some ⟨g, 0, none⟩) L.length cap ∧ ScM lo w g L.length cap L := by
  obtain ⟨hl, ⟨rfl, h0⟩ | ⟨g, cap, cur, rfl, hb, hc, h1, h2, h3, h4⟩⟩ := id h
  · omega
  · exact ⟨g, cap, rfl, rfl, h⟩

theorem flatC_put : ∀ (L : List Ce) (k : Nat) (_ : k < L.length) (c : Ce), (((((((((((flatC L).set (k * 11) (.int .i32 c.r)).set (k * 11 + 1) (.int .u8 c.c.r)).set (k * 11 + 2) (.int .u8 c.c.g)).set (k * 11 + 3) (.int .u8 c.c.b)).set (k * 11 + 4) (.int .u8 c.c.a)).set (k * 11 + 5) (.int .u8 c.b.r)).set (k * 11 + 6) (.int .u8 c.b.g)).set (k * 11 + 7) (.int .u8 c.b.b)).set (k * 11 + 8) (.int .u8 c.b.a)).set (k * 11 + 9) (.bool c.wd)).set (k * 11 + 10) (.bool c.tl) = flatC (L.set k c)
  | [], k, h, _ => absurd h (Nat.not_lt_zero _)
  | s :: L, 0, _, c => rfl
  | s :: L, k + 1, h, c => by
    have h' : k < L.length := by simpa using h
    have ih := flatC_put L k h' c
    have e : ∀ (X : List Value) (j : Nat) (v : Value), (cCel s ++ X).set ((k + 1) * 11 + j) v = cCel s ++ X.set (k * 11 + j) v := fun X j v => by
      rw [List.set_append_right _ _ (by rw [cCel_len]; omega), cCel_len]
      congr 2
      omega
    have e0 := fun X v => e X 0 v
    simp only [Nat.add_zero] at e0
    show (((((((((((cCel s ++ flatC L).set ((k + 1) * 11) (.int .i32 c.r)).set ((k + 1) * 11 + 1) (.int .u8 c.c.r)).set ((k + 1) * 11 + 2) (.int .u8 c.c.g)).set ((k + 1) * 11 + 3) (.int .u8 c.c.b)).set ((k + 1) * 11 + 4) (.int .u8 c.c.a)).set ((k + 1) * 11 + 5) (.int .u8 c.b.r)).set ((k + 1) * 11 + 6) (.int .u8 c.b.g)).set ((k + 1) * 11 + 7) (.int .u8 c.b.b)).set ((k + 1) * 11 + 8) (.int .u8 c.b.a)).set ((k + 1) * 11 + 9) (.bool c.wd)).set ((k + 1) * 11 + 10) (.bool c.tl) = _
    rw [e0, e, e, e, e, e, e, e, e, e, e, ih]
    rfl
theorem flatC_fore : ∀ (L : List Ce) (k : Nat) (h : k < L.length) (c : Ce), ((((flatC L).set (k * 11 + 1) (.int .u8 c.c.r)).set (k * 11 + 2) (.int .u8 c.c.g)).set (k * 11 + 3) (.int .u8 c.c.b)).set (k * 11 + 4) (.int .u8 c.c.a) = flatC (L.set k ⟨L[k].r, c.c, L[k].b, L[k].wd, L[k].tl⟩)
  | [], k, h, _ => absurd h (Nat.not_lt_zero _)
  | s :: L, 0, _, c => rfl
  | s :: L, k + 1, h, c => by
    have h' : k < L.length := by simpa using h
    have ih := flatC_fore L k h' c
    have e : ∀ (X : List Value) (j : Nat) (v : Value), (cCel s ++ X).set ((k + 1) * 11 + j) v = cCel s ++ X.set (k * 11 + j) v := fun X j v => by
      rw [List.set_append_right _ _ (by rw [cCel_len]; omega), cCel_len]
      congr 2
      omega
    show ((((cCel s ++ flatC L).set ((k + 1) * 11 + 1) (.int .u8 c.c.r)).set ((k + 1) * 11 + 2) (.int .u8 c.c.g)).set ((k + 1) * 11 + 3) (.int .u8 c.c.b)).set ((k + 1) * 11 + 4) (.int .u8 c.c.a) = _
    rw [e, e, e, e, ih]
    rfl
theorem flatC_back : ∀ (L : List Ce) (k : Nat) (h : k < L.length) (c : Ce), ((((flatC L).set (k * 11 + 5) (.int .u8 c.b.r)).set (k * 11 + 6) (.int .u8 c.b.g)).set (k * 11 + 7) (.int .u8 c.b.b)).set (k * 11 + 8) (.int .u8 c.b.a) = flatC (L.set k ⟨L[k].r, L[k].c, c.b, L[k].wd, L[k].tl⟩)
  | [], k, h, _ => absurd h (Nat.not_lt_zero _)
  | s :: L, 0, _, c => rfl
  | s :: L, k + 1, h, c => by
    have h' : k < L.length := by simpa using h
    have ih := flatC_back L k h' c
    have e : ∀ (X : List Value) (j : Nat) (v : Value), (cCel s ++ X).set ((k + 1) * 11 + j) v = cCel s ++ X.set (k * 11 + j) v := fun X j v => by
      rw [List.set_append_right _ _ (by rw [cCel_len]; omega), cCel_len]
      congr 2
      omega
    show ((((cCel s ++ flatC L).set ((k + 1) * 11 + 5) (.int .u8 c.b.r)).set ((k + 1) * 11 + 6) (.int .u8 c.b.g)).set ((k + 1) * 11 + 7) (.int .u8 c.b.b)).set ((k + 1) * 11 + 8) (.int .u8 c.b.a) = _
    rw [e, e, e, e, ih]
    rfl
theorem ScM.put {lo : Nat} {w : World} {g n cap : Nat} {L : List Ce} (h : ScM lo w g n cap L) (k : Nat) (hk : k < L.length) (p : Nat) (hp : p = k * 11) (c : Ce) : ScM lo ((((((((((((w).setCell ⟨g, p, none⟩ (.int .i32 c.r)).setCell ⟨g, p + 1, none⟩ (.int .u8 c.c.r)).setCell ⟨g, p + 2, none⟩ (.int .u8 c.c.g)).setCell ⟨g, p + 3, none⟩ (.int .u8 c.c.b)).setCell ⟨g, p + 4, none⟩ (.int .u8 c.c.a)).setCell ⟨g, p + 5, none⟩ (.int .u8 c.b.r)).setCell ⟨g, p + 6, none⟩ (.int .u8 c.b.g)).setCell ⟨g, p + 7, none⟩ (.int .u8 c.b.b)).setCell ⟨g, p + 8, none⟩ (.int .u8 c.b.a)).setCell ⟨g, p + 9, none⟩ (.bool c.wd)).setCell ⟨g, p + 10, none⟩ (.bool c.tl)) g n cap (L.set k c) := by
  subst hp
  refine ⟨by rw [List.length_set]; exact h.1, ?_⟩
  rw [← flatC_put L k hk c]
  exact own_set (own_set (own_set (own_set (own_set (own_set (own_set (own_set (own_set (own_set (own_set (h.2) _ _) _ _) _ _) _ _) _ _) _ _) _ _) _ _) _ _) _ _) _ _
theorem ScM.fore {lo : Nat} {w : World} {g n cap : Nat} {L : List Ce} (h : ScM lo w g n cap L) (k : Nat) (hk : k < L.length) (p : Nat) (hp : p = k * 11) (c : Ce) : ScM lo (((((w).setCell ⟨g, p + 1, none⟩ (.int .u8 c.c.r)).setCell ⟨g, p + 2, none⟩ (.int .u8 c.c.g)).setCell ⟨g, p + 3, none⟩ (.int .u8 c.c.b)).setCell ⟨g, p + 4, none⟩ (.int .u8 c.c.a)) g n cap (L.set k ⟨L[k].r, c.c, L[k].b, L[k].wd, L[k].tl⟩) := by
  subst hp
  refine ⟨by rw [List.length_set]; exact h.1, ?_⟩
  rw [← flatC_fore L k hk c]
  exact own_set (own_set (own_set (own_set (h.2) _ _) _ _) _ _) _ _
theorem ScM.back {lo : Nat} {w : World} {g n cap : Nat} {L : List Ce} (h : ScM lo w g n cap L) (k : Nat) (hk : k < L.length) (p : Nat) (hp : p = k * 11) (c : Ce) : ScM lo (((((w).setCell ⟨g, p + 5, none⟩ (.int .u8 c.b.r)).setCell ⟨g, p + 6, none⟩ (.int .u8 c.b.g)).setCell ⟨g, p + 7, none⟩ (.int .u8 c.b.b)).setCell ⟨g, p + 8, none⟩ (.int .u8 c.b.a)) g n cap (L.set k ⟨L[k].r, L[k].c, c.b, L[k].wd, L[k].tl⟩) := by
  subst hp
  refine ⟨by rw [List.length_set]; exact h.1, ?_⟩
  rw [← flatC_back L k hk c]
  exact own_set (own_set (own_set (own_set (h.2) _ _) _ _) _ _) _ _
theorem ob_transC {w W W' : World} {r : Option Nat} (h : w.grownBy W r) (k : W.grownBy W' r) : w.grownBy W' r := 
  ⟨k.os.trans h.os, k.tape.trans h.tape, k.output.trans h.output, Nat.le_trans h.size k.size, fun b hb hr => (k.block b (Nat.lt_of_lt_of_le hb h.size) hr).trans (h.block b hb hr)⟩
theorem ob_setC (w : World) (g o : Nat) (v : Value) : w.grownBy (w.setCell ⟨g, o, none⟩ v) (some g) := 
  ⟨rfl, rfl, rfl, ((Below.refl 0 w).setCell (p := ⟨g, o, none⟩) (Nat.zero_le _) v).size, fun b _ hb => Below.heap_setCell _ _ _ b (fun e => hb (by rw [e]))⟩
theorem ob_putC (w : World) (g p : Nat) (c : Ce) : w.grownBy ((((((((((((w).setCell ⟨g, p, none⟩ (.int .i32 c.r)).setCell ⟨g, p + 1, none⟩ (.int .u8 c.c.r)).setCell ⟨g, p + 2, none⟩ (.int .u8 c.c.g)).setCell ⟨g, p + 3, none⟩ (.int .u8 c.c.b)).setCell ⟨g, p + 4, none⟩ (.int .u8 c.c.a)).setCell ⟨g, p + 5, none⟩ (.int .u8 c.b.r)).setCell ⟨g, p + 6, none⟩ (.int .u8 c.b.g)).setCell ⟨g, p + 7, none⟩ (.int .u8 c.b.b)).setCell ⟨g, p + 8, none⟩ (.int .u8 c.b.a)).setCell ⟨g, p + 9, none⟩ (.bool c.wd)).setCell ⟨g, p + 10, none⟩ (.bool c.tl)) (some g) :=
  ob_transC (ob_transC (ob_transC (ob_transC (ob_transC (ob_transC (ob_transC (ob_transC (ob_transC (ob_transC (ob_setC _ _ _ _) (ob_setC _ _ _ _)) (ob_setC _ _ _ _)) (ob_setC _ _ _ _)) (ob_setC _ _ _ _)) (ob_setC _ _ _ _)) (ob_setC _ _ _ _)) (ob_setC _ _ _ _)) (ob_setC _ _ _ _)) (ob_setC _ _ _ _)) (ob_setC _ _ _ _)
theorem ob_foreC (w : World) (g p : Nat) (c : Ce) : w.grownBy (((((w).setCell ⟨g, p + 1, none⟩ (.int .u8 c.c.r)).setCell ⟨g, p + 2, none⟩ (.int .u8 c.c.g)).setCell ⟨g, p + 3, none⟩ (.int .u8 c.c.b)).setCell ⟨g, p + 4, none⟩ (.int .u8 c.c.a)) (some g) :=
  ob_transC (ob_transC (ob_transC (ob_setC _ _ _ _) (ob_setC _ _ _ _)) (ob_setC _ _ _ _)) (ob_setC _ _ _ _)
theorem ob_backC (w : World) (g p : Nat) (c : Ce) : w.grownBy (((((w).setCell ⟨g, p + 5, none⟩ (.int .u8 c.b.r)).setCell ⟨g, p + 6, none⟩ (.int .u8 c.b.g)).setCell ⟨g, p + 7, none⟩ (.int .u8 c.b.b)).setCell ⟨g, p + 8, none⟩ (.int .u8 c.b.a)) (some g) :=
  ob_transC (ob_transC (ob_transC (ob_setC _ _ _ _) (ob_setC _ _ _ _)) (ob_setC _ _ _ _)) (ob_setC _ _ _ _)

/-- Some cells of a row made anew, by their numbers. -/
def updR (L : List Ce) (o m : Nat) (f : Nat → Ce → Ce) : List Ce := L.mapIdx fun k c => if o ≤ k ∧ k < o + m then f k c else c
theorem updR_len (L : List Ce) (o m : Nat) (f : Nat → Ce → Ce) : (updR L o m f).length = L.length := by simp [updR]
theorem updR_at (L : List Ce) (o m : Nat) (f : Nat → Ce → Ce) (k : Nat) (h : k < (updR L o m f).length) : (updR L o m f)[k] = if o ≤ k ∧ k < o + m then f k (L[k]'(by rw [updR_len] at h; exact h)) else L[k]'(by rw [updR_len] at h; exact h) := by simp [updR]
theorem updR_zero (L : List Ce) (o : Nat) (f : Nat → Ce → Ce) : updR L o 0 f = L := by
  apply List.ext_getElem (updR_len _ _ _ _)
  intro k h1 h2
  rw [updR_at, if_neg (by omega)]
theorem updR_next (L : List Ce) (o m : Nat) (f : Nat → Ce → Ce) (h : o + m < L.length) : (updR L o m f).set (o + m) (f (o + m) L[o + m]) = updR L o (m + 1) f := by
  apply List.ext_getElem (by rw [List.length_set, updR_len, updR_len])
  intro k h1 h2
  rw [List.getElem_set, updR_at L o (m + 1) f k h2]
  by_cases e : o + m = k
  · subst e
    rw [if_pos rfl, if_pos (by omega)]
  · rw [if_neg e, updR_at]
    by_cases c : o ≤ k ∧ k < o + m
    · rw [if_pos c, if_pos (by omega)]
    · rw [if_neg c, if_neg (by omega)]
theorem updR_own (L : List Ce) (o m : Nat) (f : Nat → Ce → Ce) (h : o + m < L.length) : (updR L o m f)[o + m]'(by rw [updR_len]; exact h) = L[o + m] := by
  rw [updR_at, if_neg (by omega)]

end Go.Proofs.YtfjbnejmcanamaaGreatDoor

/-
  Package cells: edges, At, copied.
-/
namespace Go.Proofs.YtfjbnejmcanamaaGreatDoor
open Go.RowKit

/-- At which ends of so many a number lies. -/
def edgN (k n : Int) : Int := (if k = 0 then 1 else 0) + (if k = n - 1 then 2 else 0)
theorem edgN_bd (k n : Int) : 0 ≤ edgN k n ∧ edgN k n ≤ 3 := by unfold edgN; split <;> split <;> omega
theorem edgesC_any (k n : Int) (w : World) (hn : -100000 ≤ n ∧ n ≤ 100000) : Calls Tryz.prog 95 #[.int .i64 k, .int .i64 n] w fun e w' => e = .returned (.int .i64 (edgN k n)) ∧ w' = w := by
  by_cases h1 : k = 0
  · by_cases h2 : k = n - 1
    · have e : edgN k n = 3 := by unfold edgN; rw [if_pos h1, if_pos h2]; rfl
      have h3 : (k == 0) = true := by simpa using h1
      have h4 : (k == n - 1) = true := by simpa using h2
      have He : Hid (edgN k n = 3) := e
      clear e h1 h2
      go_enter Tryz.func95, Tryz.ntmps95
      go_wp2
      go_ret
      exact ⟨by rw [He.out]; rfl, rfl⟩
    · have e : edgN k n = 1 := by unfold edgN; rw [if_pos h1, if_neg h2]; rfl
      have h3 : (k == 0) = true := by simpa using h1
      have h4 : (k == n - 1) = false := by simpa using h2
      have He : Hid (edgN k n = 1) := e
      clear e h1 h2
      go_enter Tryz.func95, Tryz.ntmps95
      go_wp2
      go_ret
      exact ⟨by rw [He.out]; rfl, rfl⟩
  · by_cases h2 : k = n - 1
    · have e : edgN k n = 2 := by unfold edgN; rw [if_neg h1, if_pos h2]; rfl
      have h3 : (k == 0) = false := by simpa using h1
      have h4 : (k == n - 1) = true := by simpa using h2
      have He : Hid (edgN k n = 2) := e
      clear e h1 h2
      go_enter Tryz.func95, Tryz.ntmps95
      go_wp2
      go_ret
      exact ⟨by rw [He.out]; rfl, rfl⟩
    · have e : edgN k n = 0 := by unfold edgN; rw [if_neg h1, if_neg h2]; rfl
      have h3 : (k == 0) = false := by simpa using h1
      have h4 : (k == n - 1) = false := by simpa using h2
      have He : Hid (edgN k n = 0) := e
      clear e h1 h2
      go_enter Tryz.func95, Tryz.ntmps95
      go_wp2
      go_ret
      exact ⟨by rw [He.out]; rfl, rfl⟩

theorem Bk.put3S {W : World} {b : Nat} {a0 a1 a2 v0 v1 v2 : Value} {t : TypeId} (h : Bk W b #[a0, a1, a2] t) : Bk (((W.setCell ⟨b, 0, none⟩ v0).setCell ⟨b, 1, none⟩ v1).setCell ⟨b, 2, none⟩ v2) b #[v0, v1, v2] t := by
  have h0 : Bk (W.setCell ⟨b, 0, none⟩ v0) b #[v0, a1, a2] t := h.put 0 v0
  have h1 : Bk ((W.setCell ⟨b, 0, none⟩ v0).setCell ⟨b, 1, none⟩ v1) b #[v0, v1, a2] t := h0.put 1 v1
  exact h1.put 2 v2
theorem OwC.set {lo : Nat} {w : World} {u : Value} {l : List Ce} (h : OwC lo w u l) (p : Addr) (v : Value) (hp : p.block < lo) : OwC lo (w.setCell p v) u l := by
  refine ⟨h.1, ?_⟩
  rcases h.2 with ⟨h1, h2⟩ | ⟨g', cap', cur, h1, hb, hc, h2⟩
  · exact .inl ⟨h1, h2⟩
  · exact .inr ⟨g', cap', cur, h1, hb, (Below.heap_setCell _ _ _ g' (by omega)).trans hc, h2⟩
theorem scr_size : (Tryz.prog.info? 36).map (·.size) = some 3 := by kernel_rfl

set_option maxRecDepth 10000 in
set_option maxHeartbeats 2000000 in
theorem copied_any (a b : Int) (l : List Ce) (v : Value) (w : World) (hv : LsC w v l) (hn : NoNil v) (hl : l.length ≤ 1000000) : Calls Tryz.prog 24 #[.agg #[.int .i64 a, .int .i64 b, v]] w fun e w' => ∃ u, e = .returned (.agg #[.int .i64 a, .int .i64 b, u]) ∧ Hid (OwC w.heap.size w' u l ∧ Below w.heap.size w w') := by
  obtain ⟨oa, cap, rfl, hcap, hg⟩ := id hv
  have HC : Hid (∀ W, Below w.heap.size w W → Calls Tryz.prog 41 #[.slice oa l.length cap] W fun e w' => ∃ u, e = .returned u ∧ OwC W.heap.size w' u l ∧ Below W.heap.size W w') := fun W h => cloneC_any l _ W (hv.below h) hn hl
  have HB : Hid (Bk ((w.alloc (.cells #[.int .i64 a, .int .i64 b, .slice oa l.length cap] 36)).alloc (.cells #[.int .i64 0, .int .i64 0, .slice none 0 0] 36)) w.heap.size #[.int .i64 a, .int .i64 b, .slice oa l.length cap] 36 ∧ Bk ((w.alloc (.cells #[.int .i64 a, .int .i64 b, .slice oa l.length cap] 36)).alloc (.cells #[.int .i64 0, .int .i64 0, .slice none 0 0] 36)) (w.heap.size + 1) #[.int .i64 0, .int .i64 0, .slice none 0 0] 36 ∧ Below w.heap.size w ((w.alloc (.cells #[.int .i64 a, .int .i64 b, .slice oa l.length cap] 36)).alloc (.cells #[.int .i64 0, .int .i64 0, .slice none 0 0] 36))) := by
    have k1 := Bk.new w #[.int .i64 a, .int .i64 b, .slice oa l.length cap] 36
    have k2 := Bk.new (w.alloc (.cells #[.int .i64 a, .int .i64 b, .slice oa l.length cap] 36)) #[.int .i64 0, .int .i64 0, .slice none 0 0] 36
    rw [World.size_alloc] at k2
    exact ⟨k1.below ((Below.refl _ _).alloc (Nat.le_refl _) _), k2, ((Below.refl _ w).alloc (Nat.le_refl _) _).alloc (by simp) _⟩
  clear hg hv hn
  go_enter Tryz.func24, Tryz.ntmps24
  go_wp2_with fail
  generalize (w.alloc (.cells #[.int .i64 a, .int .i64 b, .slice oa l.length cap] 36)).alloc (.cells #[.int .i64 0, .int .i64 0, .slice none 0 0] 36) = w1 at *
  obtain ⟨a0, a1, a2⟩ := Bk.at3S HB.out.1
  have HM : Hid (∀ W, Below w1.heap.size w1 W → (W.cell? ⟨w.heap.size, 0, none⟩ = some (.int .i64 a) ∧ W.cell? ⟨w.heap.size, 1, none⟩ = some (.int .i64 b) ∧ W.cell? ⟨w.heap.size, 2, none⟩ = some (.slice oa l.length cap)) ∧ Bk W (w.heap.size + 1) #[.int .i64 0, .int .i64 0, .slice none 0 0] 36 ∧ Below w.heap.size w W) := fun W h => ⟨Bk.at3S (HB.out.1.below h), HB.out.2.1.below h, HB.out.2.2.trans (h.mono HB.out.2.2.size)⟩
  go_region_with (go_at_call 41; refine (HC.out _ (HB.out.2.2.drew)).mono ?_; rintro e w2 ⟨u, rfl, hu, hb⟩; obtain ⟨⟨k0, k1, k2⟩, k3, k4⟩ := HM.out w2 (((Below.refl w1.heap.size w1).drew).trans hb); obtain ⟨z0, z1, z2⟩ := Bk.at3S k3; have y0 := k3.frozen 0; have y1 := k3.frozen 1; have y2 := k3.frozen 2; have HU : Hid (OwC w1.heap.size w2 u l ∧ Below w.heap.size w w2 ∧ Bk w2 (w.heap.size + 1) #[.int .i64 0, .int .i64 0, .slice none 0 0] 36) := ⟨hu, k4, k3⟩; obtain ⟨ou, cu, eu, hcu, -⟩ := row_val hu; subst eu; clear hu hb k3 k4)
  all_goals
    obtain ⟨W3, hW3⟩ : ∃ W3, W3 = ((w2.setCell ⟨w.heap.size + 1, 0, none⟩ (.int .i64 a)).setCell ⟨w.heap.size + 1, 1, none⟩ (.int .i64 b)).setCell ⟨w.heap.size + 1, 2, none⟩ (.slice ou l.length cu) := ⟨_, rfl⟩
    have H3 : Hid (OwC w.heap.size W3 (.slice ou l.length cu) l ∧ Below w.heap.size w W3 ∧ Bk W3 (w.heap.size + 1) #[.int .i64 a, .int .i64 b, .slice ou l.length cu] 36) := by
      obtain ⟨u1, u2, u3⟩ := HU.out
      have hl1 := HB.out.2.1.lt
      rw [hW3]
      exact ⟨row_weaken (OwC.set (OwC.set (OwC.set u1 _ _ hl1) _ _ hl1) _ _ hl1) HB.out.2.2.size, ((u2.setCell (p := ⟨w.heap.size + 1, 0, none⟩) (by simp) _).setCell (p := ⟨w.heap.size + 1, 1, none⟩) (by simp) _).setCell (p := ⟨w.heap.size + 1, 2, none⟩) (by simp) _, u3.put3S⟩
    rw [← hW3]
    clear hW3 HU k0 k1 k2 z0 z1 z2 y0 y1 y2 HM HB HC a0 a1 a2
    obtain ⟨k0, k1, k2⟩ := Bk.at3S H3.out.2.2
    go_wp2
    exact bodyPost_ret (v := .agg #[.int .i64 a, .int .i64 b, .slice ou l.length cu]) (by simp [results, Tryz.results24, go_sem, k0, k1, k2]) rfl ⟨_, rfl, H3.out.1, H3.out.2.1⟩

end Go.Proofs.YtfjbnejmcanamaaGreatDoor

/-
  Contract of package geom: what a rectangle has around another one that lies in it.
-/
namespace Go.Proofs.YtfjbnejmcanamaaGreatDoor
open Go.RowKit

theorem heap_new (w : World) (o : Obj) {b : Nat} (h : b = w.heap.size) : (w.alloc o).heap[b]? = some o := by
  subst h
  show (w.heap.push o)[w.heap.size]? = _
  simp

set_option maxRecDepth 20000 in
set_option maxHeartbeats 4000000 in
theorem around_any (ax ay aw ah mx my mw mh : Int) (w : World) (lax : -16384 ≤ ax) (uax : ax ≤ 16384) (lay : -16384 ≤ ay) (uay : ay ≤ 16384) (lmx : -16384 ≤ mx) (umx : mx ≤ 16384) (lmy : -16384 ≤ my) (umy : my ≤ 16384) (law : 0 ≤ aw) (uaw : aw ≤ 32768) (lah : 0 ≤ ah) (uah : ah ≤ 32768) (lmw : 0 ≤ mw) (umw : mw ≤ 32768) (lmh : 0 ≤ mh) (umh : mh ≤ 32768) :
    Calls Tryz.prog 112 #[.agg #[.int .i64 ax, .int .i64 ay, .int .i64 aw, .int .i64 ah], .agg #[.int .i64 mx, .int .i64 my, .int .i64 mw, .int .i64 mh]] w fun e w' => e = .returned (.agg #[.int .i64 (btw ax ay (ax + aw) my).x, .int .i64 (btw ax ay (ax + aw) my).y, .int .i64 (btw ax ay (ax + aw) my).w, .int .i64 (btw ax ay (ax + aw) my).h, .int .i64 (btw ax my mx (my + mh)).x, .int .i64 (btw ax my mx (my + mh)).y, .int .i64 (btw ax my mx (my + mh)).w, .int .i64 (btw ax my mx (my + mh)).h, .int .i64 (btw (mx + mw) my (ax + aw) (my + mh)).x, .int .i64 (btw (mx + mw) my (ax + aw) (my + mh)).y, .int .i64 (btw (mx + mw) my (ax + aw) (my + mh)).w, .int .i64 (btw (mx + mw) my (ax + aw) (my + mh)).h, .int .i64 (btw ax (my + mh) (ax + aw) (ay + ah)).x, .int .i64 (btw ax (my + mh) (ax + aw) (ay + ah)).y, .int .i64 (btw ax (my + mh) (ax + aw) (ay + ah)).w, .int .i64 (btw ax (my + mh) (ax + aw) (ay + ah)).h]) ∧ Below w.heap.size w w' := by
  have hE1 : Hid (∀ w, Calls Tryz.prog 42 #[.agg #[.int .i64 ax, .int .i64 ay, .int .i64 aw, .int .i64 ah]] w fun e w' => e = .returned (.agg #[.int .i64 (ax + aw), .int .i64 (ay + ah)]) ∧ Below w.heap.size w w') := fun w => end_any _ _ _ _ _ (by omega) (by omega) (by omega) (by omega) (by omega) (by omega) (by omega) (by omega)
  have hE2 : Hid (∀ w, Calls Tryz.prog 42 #[.agg #[.int .i64 mx, .int .i64 my, .int .i64 mw, .int .i64 mh]] w fun e w' => e = .returned (.agg #[.int .i64 (mx + mw), .int .i64 (my + mh)]) ∧ Below w.heap.size w w') := fun w => end_any _ _ _ _ _ (by omega) (by omega) (by omega) (by omega) (by omega) (by omega) (by omega) (by omega)
  have hB0 : Hid (∀ w, Calls Tryz.prog 43 #[.agg #[.int .i64 ax, .int .i64 ay], .agg #[.int .i64 (ax + aw), .int .i64 my]] w fun e w' => e = .returned (.agg #[.int .i64 (btw ax ay (ax + aw) my).x, .int .i64 (btw ax ay (ax + aw) my).y, .int .i64 (btw ax ay (ax + aw) my).w, .int .i64 (btw ax ay (ax + aw) my).h]) ∧ Below w.heap.size w w') := fun w => between_any _ _ _ _ _ (by omega) (by omega) (by omega) (by omega) (by omega) (by omega) (by omega) (by omega)
  have hB1 : Hid (∀ w, Calls Tryz.prog 43 #[.agg #[.int .i64 ax, .int .i64 my], .agg #[.int .i64 mx, .int .i64 (my + mh)]] w fun e w' => e = .returned (.agg #[.int .i64 (btw ax my mx (my + mh)).x, .int .i64 (btw ax my mx (my + mh)).y, .int .i64 (btw ax my mx (my + mh)).w, .int .i64 (btw ax my mx (my + mh)).h]) ∧ Below w.heap.size w w') := fun w => between_any _ _ _ _ _ (by omega) (by omega) (by omega) (by omega) (by omega) (by omega) (by omega) (by omega)
  have hB2 : Hid (∀ w, Calls Tryz.prog 43 #[.agg #[.int .i64 (mx + mw), .int .i64 my], .agg #[.int .i64 (ax + aw), .int .i64 (my + mh)]] w fun e w' => e = .returned (.agg #[.int .i64 (btw (mx + mw) my (ax + aw) (my + mh)).x, .int .i64 (btw (mx + mw) my (ax + aw) (my + mh)).y, .int .i64 (btw (mx + mw) my (ax + aw) (my + mh)).w, .int .i64 (btw (mx + mw) my (ax + aw) (my + mh)).h]) ∧ Below w.heap.size w w') := fun w => between_any _ _ _ _ _ (by omega) (by omega) (by omega) (by omega) (by omega) (by omega) (by omega) (by omega)
  have hB3 : Hid (∀ w, Calls Tryz.prog 43 #[.agg #[.int .i64 ax, .int .i64 (my + mh)], .agg #[.int .i64 (ax + aw), .int .i64 (ay + ah)]] w fun e w' => e = .returned (.agg #[.int .i64 (btw ax (my + mh) (ax + aw) (ay + ah)).x, .int .i64 (btw ax (my + mh) (ax + aw) (ay + ah)).y, .int .i64 (btw ax (my + mh) (ax + aw) (ay + ah)).w, .int .i64 (btw ax (my + mh) (ax + aw) (ay + ah)).h]) ∧ Below w.heap.size w w') := fun w => between_any _ _ _ _ _ (by omega) (by omega) (by omega) (by omega) (by omega) (by omega) (by omega) (by omega)
  generalize btw ax ay (ax + aw) my = o0 at *
  generalize btw ax my mx (my + mh) = o1 at *
  generalize btw (mx + mw) my (ax + aw) (my + mh) = o2 at *
  generalize btw ax (my + mh) (ax + aw) (ay + ah) = o3 at *
  generalize ax + aw = ex at *
  generalize ay + ah = ey at *
  generalize mx + mw = fx at *
  generalize my + mh = fy at *
  clear lax uax lay uay lmx umx lmy umy law uaw lah uah lmw umw lmh umh
  go_enter Tryz.func112, Tryz.ntmps112
  go_upto_region 1 with fail
  have A := ((At4.new w ax ay aw ah 51).alloc (.cells #[.int .i64 mx, .int .i64 my, .int .i64 mw, .int .i64 mh] 51)).alloc (.cells #[.int .i64 0, .int .i64 0, .int .i64 0, .int .i64 0, .int .i64 0, .int .i64 0, .int .i64 0, .int .i64 0, .int .i64 0, .int .i64 0, .int .i64 0, .int .i64 0, .int .i64 0, .int .i64 0, .int .i64 0, .int .i64 0] 187)
  have M := (At4.new' (w.alloc (.cells #[.int .i64 ax, .int .i64 ay, .int .i64 aw, .int .i64 ah] 51)) (w.heap.size + 1) mx my mw mh 51 (by simp)).alloc (.cells #[.int .i64 0, .int .i64 0, .int .i64 0, .int .i64 0, .int .i64 0, .int .i64 0, .int .i64 0, .int .i64 0, .int .i64 0, .int .i64 0, .int .i64 0, .int .i64 0, .int .i64 0, .int .i64 0, .int .i64 0, .int .i64 0] 187)
  have G : (((w.alloc (.cells #[.int .i64 ax, .int .i64 ay, .int .i64 aw, .int .i64 ah] 51)).alloc (.cells #[.int .i64 mx, .int .i64 my, .int .i64 mw, .int .i64 mh] 51)).alloc (.cells #[.int .i64 0, .int .i64 0, .int .i64 0, .int .i64 0, .int .i64 0, .int .i64 0, .int .i64 0, .int .i64 0, .int .i64 0, .int .i64 0, .int .i64 0, .int .i64 0, .int .i64 0, .int .i64 0, .int .i64 0, .int .i64 0] 187)).heap[w.heap.size + 1 + 1]? = some (.cells #[.int .i64 0, .int .i64 0, .int .i64 0, .int .i64 0, .int .i64 0, .int .i64 0, .int .i64 0, .int .i64 0, .int .i64 0, .int .i64 0, .int .i64 0, .int .i64 0, .int .i64 0, .int .i64 0, .int .i64 0, .int .i64 0] 187) := by
    exact heap_new _ _ (by simp)
  have L := (((Below.refl w.heap.size w).alloc (Nat.le_refl _) (.cells #[.int .i64 ax, .int .i64 ay, .int .i64 aw, .int .i64 ah] 51)).alloc (by simp) (.cells #[.int .i64 mx, .int .i64 my, .int .i64 mw, .int .i64 mh] 51)).alloc (by simp; omega) (.cells #[.int .i64 0, .int .i64 0, .int .i64 0, .int .i64 0, .int .i64 0, .int .i64 0, .int .i64 0, .int .i64 0, .int .i64 0, .int .i64 0, .int .i64 0, .int .i64 0, .int .i64 0, .int .i64 0, .int .i64 0, .int .i64 0] 187)
  generalize ((w.alloc (.cells #[.int .i64 ax, .int .i64 ay, .int .i64 aw, .int .i64 ah] 51)).alloc (.cells #[.int .i64 mx, .int .i64 my, .int .i64 mw, .int .i64 mh] 51)).alloc (.cells #[.int .i64 0, .int .i64 0, .int .i64 0, .int .i64 0, .int .i64 0, .int .i64 0, .int .i64 0, .int .i64 0, .int .i64 0, .int .i64 0, .int .i64 0, .int .i64 0, .int .i64 0, .int .i64 0, .int .i64 0, .int .i64 0] 187) = W at *
  have HL : Hid (At4 W w.heap.size ax ay aw ah ∧ At4 W (w.heap.size + 1) mx my mw mh ∧ W.heap[w.heap.size + 1 + 1]? = some (.cells #[.int .i64 0, .int .i64 0, .int .i64 0, .int .i64 0, .int .i64 0, .int .i64 0, .int .i64 0, .int .i64 0, .int .i64 0, .int .i64 0, .int .i64 0, .int .i64 0, .int .i64 0, .int .i64 0, .int .i64 0, .int .i64 0] 187) ∧ Below w.heap.size w W) := ⟨A, M, G, L⟩
  clear A M G L
  refine wp_region_lit 4 2 2 (fun _ => .cells #[.int .i64 0, .int .i64 0] 49) [5, 6] (by kernel_rfl) (by kernel_rfl) rfl ?_ rfl ?_ ?_
  · intro k hk
    have hc : k = 0 ∨ k = 1 := by omega
    rcases hc with rfl | rfl <;> rfl
  · intro i h1 h2
    have hc : i = 4 ∨ i = 5 := by omega
    rcases hc with rfl | rfl
    · exact ⟨_, rfl, rfl, fun _ _ => rfl⟩
    · exact ⟨_, rfl, rfl, fun _ _ => rfl⟩
  apply Exists.intro
  refine ⟨fun bs ne => ?_, ?_⟩
  · obtain ⟨HA, HB, _⟩ := HL.out
    have d0 := fun t : Gb W bs => (HA.below t.below).1
    have d1 := fun t : Gb W bs => (HA.below t.below).2.1
    have d2 := fun t : Gb W bs => (HA.below t.below).2.2.1
    have d3 := fun t : Gb W bs => (HA.below t.below).2.2.2
    have e0 := fun t : Gb W bs => (HB.below t.below).1
    have e1 := fun t : Gb W bs => (HB.below t.below).2.1
    have e2 := fun t : Gb W bs => (HB.below t.below).2.2.1
    have e3 := fun t : Gb W bs => (HB.below t.below).2.2.2
    clear HA HB
    simp only [List.take_succ_cons, List.take_zero]
    repeat (go_big_quiet_step (first
      | (go_at_call_of 42 (Value.agg #[.int .i64 ax, .int .i64 ay, .int .i64 aw, .int .i64 ah]); exact gb_call (hE1.out _))
      | (go_at_call_of 42 (Value.agg #[.int .i64 mx, .int .i64 my, .int .i64 mw, .int .i64 mh]); exact gb_call (hE2.out _))))
    exact wpQuiet_nil rfl
  · intro bl wr hb hlo hinj
    obtain ⟨k1, k2⟩ := hlo 4 (by omega) (by omega)
    obtain ⟨k3, k4⟩ := hlo 5 (by omega) (by omega)
    have k5 := hinj 4 5 (by omega) (by omega) (by omega) (by omega) (by omega)
    obtain ⟨c1, f1, l1⟩ := heap_cells k2
    obtain ⟨c2, f2, l2⟩ := heap_cells k4
    simp only [layL, ptr]
    generalize bl 4 = g5 at *
    generalize bl 5 = g6 at *
    clear hlo hinj k2 k4
    refine wpAny_one 6 (by kernel_rfl) rfl ?_
    intro K hK
    go_simp
    refine hK _ _ ?_
    clear hK K
    refine wpAny_one 7 (by kernel_rfl) rfl ?_
    intro K hK
    go_simp
    refine hK _ _ ?_
    clear hK K
    refine wpAny_done (by kernel_rfl) ?_ _
    obtain ⟨HA, HB, HG, HD⟩ := HL.out
    have ha := HA.lt
    have hb1 := HB.lt
    have hd := HD.size
    have z5 : At2 wr g5 0 0 := ⟨by rw [c1]; rfl, by rw [c1]; rfl⟩
    have z6 : At2 wr g6 0 0 := ⟨by rw [c2]; rfl, by rw [c2]; rfl⟩
    have gl : w.heap.size + 1 + 1 < W.heap.size := (Array.getElem?_eq_some_iff.1 HG).1
    replace HG : wr.heap[w.heap.size + 1 + 1]? = some (.cells #[.int .i64 0, .int .i64 0, .int .i64 0, .int .i64 0, .int .i64 0, .int .i64 0, .int .i64 0, .int .i64 0, .int .i64 0, .int .i64 0, .int .i64 0, .int .i64 0, .int .i64 0, .int .i64 0, .int .i64 0, .int .i64 0] 187) := by rw [hb.block _ gl]; exact HG
    have y5 := ((z5.put ex ey).set (p := ⟨g6, 0, none⟩) (.int .i64 fx) (Ne.symm k5)).set (p := ⟨g6, 1, none⟩) (.int .i64 fy) (Ne.symm k5)
    have y6 := ((z6.set (p := ⟨g5, 0, none⟩) (.int .i64 ex) k5).set (p := ⟨g5, 1, none⟩) (.int .i64 ey) k5).put fx fy
    have yA := ((((HA.below hb).set (p := ⟨g5, 0, none⟩) (.int .i64 ex) (by show g5 ≠ _; omega)).set (p := ⟨g5, 1, none⟩) (.int .i64 ey) (by show g5 ≠ _; omega)).set (p := ⟨g6, 0, none⟩) (.int .i64 fx) (by show g6 ≠ _; omega)).set (p := ⟨g6, 1, none⟩) (.int .i64 fy) (by show g6 ≠ _; omega)
    have yM := ((((HB.below hb).set (p := ⟨g5, 0, none⟩) (.int .i64 ex) (by show g5 ≠ _; omega)).set (p := ⟨g5, 1, none⟩) (.int .i64 ey) (by show g5 ≠ _; omega)).set (p := ⟨g6, 0, none⟩) (.int .i64 fx) (by show g6 ≠ _; omega)).set (p := ⟨g6, 1, none⟩) (.int .i64 fy) (by show g6 ≠ _; omega)
    have yL := ((((HD.trans (hb.mono hd)).setCell (p := ⟨g5, 0, none⟩) (by show _ ≤ g5; omega) (.int .i64 ex)).setCell (p := ⟨g5, 1, none⟩) (by show _ ≤ g5; omega) (.int .i64 ey)).setCell (p := ⟨g6, 0, none⟩) (by show _ ≤ g6; omega) (.int .i64 fx)).setCell (p := ⟨g6, 1, none⟩) (by show _ ≤ g6; omega) (.int .i64 fy)
    have yG : ((((wr.setCell ⟨g5, 0, none⟩ (.int .i64 ex)).setCell ⟨g5, 1, none⟩ (.int .i64 ey)).setCell ⟨g6, 0, none⟩ (.int .i64 fx)).setCell ⟨g6, 1, none⟩ (.int .i64 fy)).heap[w.heap.size + 1 + 1]? = some (.cells #[.int .i64 0, .int .i64 0, .int .i64 0, .int .i64 0, .int .i64 0, .int .i64 0, .int .i64 0, .int .i64 0, .int .i64 0, .int .i64 0, .int .i64 0, .int .i64 0, .int .i64 0, .int .i64 0, .int .i64 0, .int .i64 0] 187) := by
      rw [Below.heap_setCell _ _ _ _ (by show _ ≠ g6; omega), Below.heap_setCell _ _ _ _ (by show _ ≠ g6; omega), Below.heap_setCell _ _ _ _ (by show _ ≠ g5; omega), Below.heap_setCell _ _ _ _ (by show _ ≠ g5; omega)]
      exact HG
    generalize (((wr.setCell ⟨g5, 0, none⟩ (.int .i64 ex)).setCell ⟨g5, 1, none⟩ (.int .i64 ey)).setCell ⟨g6, 0, none⟩ (.int .i64 fx)).setCell ⟨g6, 1, none⟩ (.int .i64 fy) = X at *
    have HX : Hid (At4 X w.heap.size ax ay aw ah ∧ At4 X (w.heap.size + 1) mx my mw mh ∧ At2 X g5 ex ey ∧ At2 X g6 fx fy ∧ X.heap[w.heap.size + 1 + 1]? = some (.cells #[.int .i64 0, .int .i64 0, .int .i64 0, .int .i64 0, .int .i64 0, .int .i64 0, .int .i64 0, .int .i64 0, .int .i64 0, .int .i64 0, .int .i64 0, .int .i64 0, .int .i64 0, .int .i64 0, .int .i64 0, .int .i64 0] 187) ∧ Below w.heap.size w X) := ⟨yA, yM, y5, y6, yG, yL⟩
    clear HL HA HB HG HD hb ha hb1 hd z5 z6 gl y5 y6 yA yM yL yG c1 f1 l1 c2 f2 l2 k1 k3 k5 hE1 hE2
    go_upto_region 2 with fail
    refine wp_region_lit 44 0 1 (fun _ => .cells #[] 0) [] (by kernel_rfl) (by kernel_rfl) rfl (fun k hk => absurd hk (Nat.not_lt_zero _)) rfl (fun i h1 h2 => absurd h2 (by omega)) ?_
    apply Exists.intro
    refine ⟨fun bs ne => ?_, ?_⟩
    · obtain ⟨HA, HB, H5, H6, _⟩ := HX.out
      have d0 := fun t : Gb X bs => (HA.below t.below).1
      have d1 := fun t : Gb X bs => (HA.below t.below).2.1
      have d2 := fun t : Gb X bs => (HA.below t.below).2.2.1
      have d3 := fun t : Gb X bs => (HA.below t.below).2.2.2
      have e0 := fun t : Gb X bs => (HB.below t.below).1
      have e1 := fun t : Gb X bs => (HB.below t.below).2.1
      have e2 := fun t : Gb X bs => (HB.below t.below).2.2.1
      have e3 := fun t : Gb X bs => (HB.below t.below).2.2.2
      have f0 := fun t : Gb X bs => (H5.below t.below).1
      have f1 := fun t : Gb X bs => (H5.below t.below).2
      have g0 := fun t : Gb X bs => (H6.below t.below).1
      have g1 := fun t : Gb X bs => (H6.below t.below).2
      clear HA HB H5 H6
      simp only [List.take_succ_cons, List.take_zero]
      repeat (go_big_quiet_step (first
        | (go_at_call_of 43 (Value.agg #[.int .i64 ax, .int .i64 ay]); exact gb_call (hB0.out _))
        | (go_at_call_of 43 (Value.agg #[.int .i64 ax, .int .i64 my]); exact gb_call (hB1.out _))
        | (go_at_call_of 43 (Value.agg #[.int .i64 fx, .int .i64 my]); exact gb_call (hB2.out _))
        | (go_at_call_of 43 (Value.agg #[.int .i64 ax, .int .i64 fy]); exact gb_call (hB3.out _))))
      exact wpQuiet_nil rfl
    · intro bl wr hb _ _
      simp only [layL]
      obtain ⟨HA, HB, H5, H6, HG, HD⟩ := HX.out
      have gl : w.heap.size + 1 + 1 < X.heap.size := (Array.getElem?_eq_some_iff.1 HG).1
      replace HG : wr.heap[w.heap.size + 1 + 1]? = some (.cells #[.int .i64 0, .int .i64 0, .int .i64 0, .int .i64 0, .int .i64 0, .int .i64 0, .int .i64 0, .int .i64 0, .int .i64 0, .int .i64 0, .int .i64 0, .int .i64 0, .int .i64 0, .int .i64 0, .int .i64 0, .int .i64 0] 187) := by rw [hb.block _ gl]; exact HG
      replace HD := HD.trans (hb.mono HD.size)
      obtain ⟨c1, f1, l1⟩ := heap_cells HG
      clear HA HB H5 H6 hb HX hB0 hB1 hB2 hB3 gl
      refine wpAny_one 44 (by kernel_rfl) rfl ?_
      intro K hK
      go_simp
      refine hK _ _ ?_
      clear hK K
      refine wpAny_done (by kernel_rfl) ?_ _
      go_wp2
      exact bodyPost_ret (v := .agg #[.int .i64 o0.x, .int .i64 o0.y, .int .i64 o0.w, .int .i64 o0.h, .int .i64 o1.x, .int .i64 o1.y, .int .i64 o1.w, .int .i64 o1.h, .int .i64 o2.x, .int .i64 o2.y, .int .i64 o2.w, .int .i64 o2.h, .int .i64 o3.x, .int .i64 o3.y, .int .i64 o3.w, .int .i64 o3.h]) (by simp [results, Tryz.results112, go_sem, c1]) rfl ⟨rfl, (((((((((((((((HD.setCell (by show _ ≤ w.heap.size + 1 + 1; omega) _).setCell (by show _ ≤ w.heap.size + 1 + 1; omega) _).setCell (by show _ ≤ w.heap.size + 1 + 1; omega) _).setCell (by show _ ≤ w.heap.size + 1 + 1; omega) _).setCell (by show _ ≤ w.heap.size + 1 + 1; omega) _).setCell (by show _ ≤ w.heap.size + 1 + 1; omega) _).setCell (by show _ ≤ w.heap.size + 1 + 1; omega) _).setCell (by show _ ≤ w.heap.size + 1 + 1; omega) _).setCell (by show _ ≤ w.heap.size + 1 + 1; omega) _).setCell (by show _ ≤ w.heap.size + 1 + 1; omega) _).setCell (by show _ ≤ w.heap.size + 1 + 1; omega) _).setCell (by show _ ≤ w.heap.size + 1 + 1; omega) _).setCell (by show _ ≤ w.heap.size + 1 + 1; omega) _).setCell (by show _ ≤ w.heap.size + 1 + 1; omega) _).setCell (by show _ ≤ w.heap.size + 1 + 1; omega) _).setCell (by show _ ≤ w.heap.size + 1 + 1; omega) _⟩

end Go.Proofs.YtfjbnejmcanamaaGreatDoor

/-
  Contracts of package geom: whether one lies in another, over another.
-/
namespace Go.Proofs.YtfjbnejmcanamaaGreatDoor
open Go.RowKit

end Go.Proofs.YtfjbnejmcanamaaGreatDoor

/-
  Contract of package geom: what one rectangle has and another one has not, as pieces in new memory.
-/
namespace Go.Proofs.YtfjbnejmcanamaaGreatDoor
open Go.RowKit

theorem info_rect : (Tryz.prog.info? 51).map (fun i => (i.zero, i.size, i.bytes)) = some (some (.agg #[.int .i64 0, .int .i64 0, .int .i64 0, .int .i64 0]), 4, 32) := by kernel_rfl
theorem idx0 (a0 a1 a2 a3 a4 a5 a6 a7 a8 a9 a10 a11 a12 a13 a14 a15 : Value) (w : World) : (Instr.index 187 (.agg #[a0, a1, a2, a3, a4, a5, a6, a7, a8, a9, a10, a11, a12, a13, a14, a15]) (.int .i64 0)).run Tryz.prog w = .ok (.agg #[a0, a1, a2, a3]) w := by kernel_rfl
theorem idx1 (a0 a1 a2 a3 a4 a5 a6 a7 a8 a9 a10 a11 a12 a13 a14 a15 : Value) (w : World) : (Instr.index 187 (.agg #[a0, a1, a2, a3, a4, a5, a6, a7, a8, a9, a10, a11, a12, a13, a14, a15]) (.int .i64 1)).run Tryz.prog w = .ok (.agg #[a4, a5, a6, a7]) w := by kernel_rfl
theorem idx2 (a0 a1 a2 a3 a4 a5 a6 a7 a8 a9 a10 a11 a12 a13 a14 a15 : Value) (w : World) : (Instr.index 187 (.agg #[a0, a1, a2, a3, a4, a5, a6, a7, a8, a9, a10, a11, a12, a13, a14, a15]) (.int .i64 2)).run Tryz.prog w = .ok (.agg #[a8, a9, a10, a11]) w := by kernel_rfl
theorem idx3 (a0 a1 a2 a3 a4 a5 a6 a7 a8 a9 a10 a11 a12 a13 a14 a15 : Value) (w : World) : (Instr.index 187 (.agg #[a0, a1, a2, a3, a4, a5, a6, a7, a8, a9, a10, a11, a12, a13, a14, a15]) (.int .i64 3)).run Tryz.prog w = .ok (.agg #[a12, a13, a14, a15]) w := by kernel_rfl

theorem ownsRow_lit' {base : Nat} {e : TypeId} {size : Nat} (w : World) (cs : Array Value) (n b : Nat) (h : b = w.heap.size) (hb : base ≤ w.heap.size) (hm : n ≤ maxLen) (hs : cs.size = n * size) :
    (w.alloc (.cells cs e)).ownsRow base e size (.slice (some ⟨b, 0, none⟩) n n) n cs.toList := by
  subst h
  exact World.ownsRow_lit w cs n hb hm hs
theorem cell_four (w : World) (x y n m : Value) (t : TypeId) (b : Nat) (h : b = w.heap.size) : ∀ (j : Nat) (u : Value), [x, y, n, m][j]? = some u → (w.alloc (.cells #[x, y, n, m] t)).cell? ((⟨b, 0, none⟩ : Addr).add j) = some u := by
  intro j u hj
  subst h
  match j, hj with
  | 0, hj => simp at hj; subst hj; simp [Addr.add]
  | 1, hj => simp at hj; subst hj; simp [Addr.add]
  | 2, hj => simp at hj; subst hj; simp [Addr.add]
  | 3, hj => simp at hj; subst hj; simp [Addr.add]
/-- The pieces gathered by the first k rounds. -/
def got (o0 o1 o2 o3 : Rc) (k : Nat) : List Rc := (([o0, o1, o2, o3] : List Rc).take k).filter keepB
theorem got_le (o0 o1 o2 o3 : Rc) (k : Nat) : (got o0 o1 o2 o3 k).length ≤ 4 := by
  have h := List.length_filter_le keepB (([o0, o1, o2, o3] : List Rc).take k)
  have h2 : (([o0, o1, o2, o3] : List Rc).take k).length ≤ 4 := by rw [List.length_take]; exact Nat.min_le_right _ _
  exact Nat.le_trans h h2

theorem got_y0 (o0 o1 o2 o3 : Rc) (h : keepB o0 = true) : got o0 o1 o2 o3 1 = got o0 o1 o2 o3 0 ++ [o0] := by
  unfold got
  rw [show ([o0, o1, o2, o3] : List Rc).take 1 = ([o0, o1, o2, o3] : List Rc).take 0 ++ [o0] from rfl, List.filter_append, List.filter_cons, if_pos h, List.filter_nil]
theorem got_n0 (o0 o1 o2 o3 : Rc) (h : keepB o0 = false) : got o0 o1 o2 o3 1 = got o0 o1 o2 o3 0 := by
  unfold got
  rw [show ([o0, o1, o2, o3] : List Rc).take 1 = ([o0, o1, o2, o3] : List Rc).take 0 ++ [o0] from rfl, List.filter_append, List.filter_cons, if_neg (by rw [h]; simp), List.filter_nil, List.append_nil]
theorem got_y1 (o0 o1 o2 o3 : Rc) (h : keepB o1 = true) : got o0 o1 o2 o3 2 = got o0 o1 o2 o3 1 ++ [o1] := by
  unfold got
  rw [show ([o0, o1, o2, o3] : List Rc).take 2 = ([o0, o1, o2, o3] : List Rc).take 1 ++ [o1] from rfl, List.filter_append, List.filter_cons, if_pos h, List.filter_nil]
theorem got_n1 (o0 o1 o2 o3 : Rc) (h : keepB o1 = false) : got o0 o1 o2 o3 2 = got o0 o1 o2 o3 1 := by
  unfold got
  rw [show ([o0, o1, o2, o3] : List Rc).take 2 = ([o0, o1, o2, o3] : List Rc).take 1 ++ [o1] from rfl, List.filter_append, List.filter_cons, if_neg (by rw [h]; simp), List.filter_nil, List.append_nil]
theorem got_y2 (o0 o1 o2 o3 : Rc) (h : keepB o2 = true) : got o0 o1 o2 o3 3 = got o0 o1 o2 o3 2 ++ [o2] := by
  unfold got
  rw [show ([o0, o1, o2, o3] : List Rc).take 3 = ([o0, o1, o2, o3] : List Rc).take 2 ++ [o2] from rfl, List.filter_append, List.filter_cons, if_pos h, List.filter_nil]
theorem got_n2 (o0 o1 o2 o3 : Rc) (h : keepB o2 = false) : got o0 o1 o2 o3 3 = got o0 o1 o2 o3 2 := by
  unfold got
  rw [show ([o0, o1, o2, o3] : List Rc).take 3 = ([o0, o1, o2, o3] : List Rc).take 2 ++ [o2] from rfl, List.filter_append, List.filter_cons, if_neg (by rw [h]; simp), List.filter_nil, List.append_nil]
theorem got_y3 (o0 o1 o2 o3 : Rc) (h : keepB o3 = true) : got o0 o1 o2 o3 4 = got o0 o1 o2 o3 3 ++ [o3] := by
  unfold got
  rw [show ([o0, o1, o2, o3] : List Rc).take 4 = ([o0, o1, o2, o3] : List Rc).take 3 ++ [o3] from rfl, List.filter_append, List.filter_cons, if_pos h, List.filter_nil]
theorem got_n3 (o0 o1 o2 o3 : Rc) (h : keepB o3 = false) : got o0 o1 o2 o3 4 = got o0 o1 o2 o3 3 := by
  unfold got
  rw [show ([o0, o1, o2, o3] : List Rc).take 4 = ([o0, o1, o2, o3] : List Rc).take 3 ++ [o3] from rfl, List.filter_append, List.filter_cons, if_neg (by rw [h]; simp), List.filter_nil, List.append_nil]

set_option maxHeartbeats 4000000 in
theorem less_any (ax ay aw ah bx by' bw bh : Int) (w : World) (hax : I64 ax) (hay : I64 ay) (hbx : I64 bx) (hby : I64 by') :
    Calls Tryz.prog 94 #[.agg #[.int .i64 ax, .int .i64 ay, .int .i64 aw, .int .i64 ah], .agg #[.int .i64 bx, .int .i64 by', .int .i64 bw, .int .i64 bh]] w fun e w' =>
      ∃ v, e = .returned (.tuple #[v, .int .i64 (lesE ax ay aw ah bx by' bw bh)]) ∧ w'.ownsRow w.heap.size 51 4 v (lesL ax ay aw ah bx by' bw bh).length (flat (lesL ax ay aw ah bx by' bw bh)) ∧ Below w.heap.size w w' := by
  have hka := chk_ne ax ay aw ah
  have hkb := chk_ne bx by' bw bh
  have cs : mayB ax ay aw ah = false ∨ (mayB ax ay aw ah = true ∧ mayB bx by' bw bh = false) ∨ (mayB ax ay aw ah = true ∧ mayB bx by' bw bh = true ∧ emptyB ax ay aw ah = true) ∨ (mayB ax ay aw ah = true ∧ mayB bx by' bw bh = true ∧ emptyB ax ay aw ah = false ∧ eqB (meetR ax ay aw ah bx by' bw bh) 0 0 0 0 = true) ∨ (mayB ax ay aw ah = true ∧ mayB bx by' bw bh = true ∧ emptyB ax ay aw ah = false ∧ eqB (meetR ax ay aw ah bx by' bw bh) 0 0 0 0 = false) := by
    cases mayB ax ay aw ah <;> cases mayB bx by' bw bh <;> cases emptyB ax ay aw ah <;> cases eqB (meetR ax ay aw ah bx by' bw bh) 0 0 0 0 <;> simp
  rcases cs with h1 | ⟨h1, h2⟩ | ⟨h1, h2, h3⟩ | ⟨h1, h2, h3, h4⟩ | ⟨h1, h2, h3, h4⟩
  · rw [show lesL ax ay aw ah bx by' bw bh = [] by simp [lesL, h1], show lesE ax ay aw ah bx by' bw bh = 5 by simp [lesE, h1]]
    go_enter Tryz.func94, Tryz.ntmps94
    go_wp2_with fail
    obtain ⟨A, B, L⟩ := boxes_rr w ax ay aw ah bx by' bw bh 51 51
    refine (check_any _ _ _ _ _ hax hay).mono ?_
    rintro e w1 ⟨rfl, hb⟩
    replace L := L.trans (hb.mono L.size)
    clear A B hb
    go_wp2
    go_ret2
    exact ⟨_, rfl, World.ownsRow_nil _ _ _ _, L⟩
  · rw [show lesL ax ay aw ah bx by' bw bh = [] by simp [lesL, h2], show lesE ax ay aw ah bx by' bw bh = 5 by simp [lesE, h2]]
    go_enter Tryz.func94, Tryz.ntmps94
    go_wp2_with fail
    obtain ⟨A, B, L⟩ := boxes_rr w ax ay aw ah bx by' bw bh 51 51
    refine (check_any _ _ _ _ _ hax hay).mono ?_
    rintro e w1 ⟨rfl, hb⟩
    replace B := B.below hb
    replace L := L.trans (hb.mono L.size)
    clear A hb
    obtain ⟨e0, e1, e2, e3⟩ := id B
    go_wp2_with fail
    clear e0 e1 e2 e3
    refine (check_any _ _ _ _ _ hbx hby).mono ?_
    rintro e w2 ⟨rfl, hb⟩
    replace L := L.trans (hb.mono L.size)
    clear B hb
    go_wp2
    go_ret2
    exact ⟨_, rfl, World.ownsRow_nil _ _ _ _, L⟩
  all_goals
    rw [show lesE ax ay aw ah bx by' bw bh = 0 by simp [lesE, h1, h2]]
    go_enter Tryz.func94, Tryz.ntmps94
    go_wp2_with fail
    obtain ⟨A, B, L⟩ := boxes_rr w ax ay aw ah bx by' bw bh 51 51
    refine (check_any _ _ _ _ _ hax hay).mono ?_
    rintro e w1 ⟨rfl, hb⟩
    replace A := A.below hb
    replace B := B.below hb
    replace L := L.trans (hb.mono L.size)
    clear hb
    obtain ⟨e0, e1, e2, e3⟩ := id B
    go_wp2_with fail
    clear e0 e1 e2 e3
    refine (check_any _ _ _ _ _ hbx hby).mono ?_
    rintro e w2 ⟨rfl, hb⟩
    replace A := A.below hb
    replace B := B.below hb
    replace L := L.trans (hb.mono L.size)
    clear hb
    obtain ⟨d0, d1, d2, d3⟩ := id A
    go_wp2_with fail
    clear d0 d1 d2 d3
    refine (empty_any _ _ _ _ _ hax hay).mono ?_
    rintro e w3 ⟨rfl, hb⟩
    replace A := A.below hb
    replace B := B.below hb
    replace L := L.trans (hb.mono L.size)
    clear hb
  · go_wp2
    go_ret2
    refine ⟨_, rfl, ?_, L⟩
    rw [show lesL ax ay aw ah bx by' bw bh = [] by simp [lesL, h3]]
    exact World.ownsRow_nil _ _ _ _
  all_goals
    obtain ⟨d0, d1, d2, d3⟩ := id A
    obtain ⟨e0, e1, e2, e3⟩ := id B
    go_wp2_with fail
    clear d0 d1 d2 d3 e0 e1 e2 e3
    refine (meet_any _ _ _ _ _ _ _ _ _ hax hay hbx hby).mono ?_
    rintro e w4 ⟨rfl, hb⟩
    replace A := A.below hb
    replace B := B.below hb
    replace L := L.trans (hb.mono L.size)
    clear hb
    have la := A.lt
    obtain ⟨d0, d1, d2, d3⟩ := id A
    have hq := eql_rect
    unfold eqB at h4
  · go_wp2
    go_ret2
    refine ⟨_, rfl, ?_, (L.alloc L.size _).alloc (by have := L.size; simp; omega) _⟩
    rw [show lesL ax ay aw ah bx by' bw bh = [⟨ax, ay, aw, ah⟩] by simp only [lesL, eqB, h1, h2, h3, h4]; simp]
    have hz := L.size
    exact ownsRow_lit' (w4.alloc _) #[.int .i64 ax, .int .i64 ay, .int .i64 aw, .int .i64 ah] 1 _ (by simp) (by simp; omega) (by unfold maxLen; omega) rfl
  · have hL : lesL ax ay aw ah bx by' bw bh = (pcR ax ay aw ah (meetR ax ay aw ah bx by' bw bh).x (meetR ax ay aw ah bx by' bw bh).y (meetR ax ay aw ah bx by' bw bh).w (meetR ax ay aw ah bx by' bw bh).h).filter keepB := by simp only [lesL, eqB, h1, h2, h3, h4]; simp
    obtain ⟨m1, m2, m3, m4, m5, m6, m7, m8⟩ := meet_bd (bx := bx) (by' := by') (bw := bw) (bh := bh) h3
    obtain ⟨a1, a2, a3, a4, a5, a6, a7, a8, a9, a10⟩ := bounds_of h3
    go_wp2_with fail
    clear d0 d1 d2 d3
    refine (around_any _ _ _ _ _ _ _ _ _ a1 a2 a3 a4 m1 m2 m3 m4 (by omega) a6 (by omega) a8 m5 m6 m7 m8).mono ?_
    rintro e w5 ⟨rfl, hb⟩
    replace L := (L.alloc L.size _).trans (hb.mono (by have := L.size; simp; omega))
    clear A B hb la hq h4
    unfold pcR at hL
    generalize btw ax ay (ax + aw) (meetR ax ay aw ah bx by' bw bh).y = o0 at *
    generalize btw ax (meetR ax ay aw ah bx by' bw bh).y (meetR ax ay aw ah bx by' bw bh).x ((meetR ax ay aw ah bx by' bw bh).y + (meetR ax ay aw ah bx by' bw bh).h) = o1 at *
    generalize btw ((meetR ax ay aw ah bx by' bw bh).x + (meetR ax ay aw ah bx by' bw bh).w) (meetR ax ay aw ah bx by' bw bh).y (ax + aw) ((meetR ax ay aw ah bx by' bw bh).y + (meetR ax ay aw ah bx by' bw bh).h) = o2 at *
    generalize btw ax ((meetR ax ay aw ah bx by' bw bh).y + (meetR ax ay aw ah bx by' bw bh).h) (ax + aw) (ay + ah) = o3 at *
    have HL : Hid (lesL ax ay aw ah bx by' bw bh = [o0, o1, o2, o3].filter keepB) := hL
    clear hL hka hkb h1 h2 h3 m1 m2 m3 m4 m5 m6 m7 m8 a1 a2 a3 a4 a5 a6 a7 a8 a9 a10 hax hay hbx hby
    obtain ⟨i0, hi, hz0, hz1, hz2⟩ := info_parts info_rect
    go_wp2_with fail
    go_loopw [7, 31] (fun v i wr => ∃ k : Nat, k ≤ 4 ∧ i = .int .i64 k ∧ wr.ownsRow w.heap.size 51 4 v (got o0 o1 o2 o3 k).length (flat (got o0 o1 o2 o3 k)) ∧ Below w.heap.size w wr) (fun _ i _ => 4 - (intOf i).toNat)
    case atStart => exact ⟨0, Nat.zero_le _, rfl, World.ownsRow_nil _ _ _ _, L⟩
    case round =>
      obtain ⟨k, hk, rfl, hown, hL⟩ := hrel
      have hq := neq_rect
      have hs := hL.size
      have hc : k = 0 ∨ k = 1 ∨ k = 2 ∨ k = 3 ∨ k = 4 := by omega
      clear L
      rcases hc with rfl | rfl | rfl | rfl | rfl
      · have hx := idx0
        cases hkp : keepB o0
        · have HK : Hid (keepB o0 = false) := hkp
          unfold keepB eqB at hkp
          go_wp2
          go_roundw
          case rel => exact ⟨1, by omega, rfl, by rw [got_n0 _ _ _ _ HK.out]; exact hown.alloc _, hL.alloc hs _⟩
          case measure => simp [intOf]
        · have HK : Hid (keepB o0 = true) := hkp
          unfold keepB eqB at hkp
          go_wp2_with (at_builtin; refine wpList_append_own _ rfl _ _ 66 rfl w.heap.size 51 i0 (.agg #[.int .i64 0, .int .i64 0, .int .i64 0, .int .i64 0]) 4 32 Tryz.underlying66 hi hz0 hz1 hz2 rfl (by decide) _ _ _ rfl ((hown.alloc _).alloc _) ⟨wr.heap.size + 1, 0, none⟩ 1 1 [.int .i64 o0.x, .int .i64 o0.y, .int .i64 o0.w, .int .i64 o0.h] rfl rfl ?c1 ?c2 ?c3 ?c4 ?c5 ?_)
          case c1 => exact cell_four _ _ _ _ _ _ _ (by simp)
          case c2 => intro u hu; simp at hu; rcases hu with rfl | rfl | rfl | rfl <;> rfl
          case c3 => have := got_le o0 o1 o2 o3 0; unfold maxLen; omega
          case c4 => have := got_le o0 o1 o2 o3 0; omega
          case c5 => simp; omega
          intro v' w1 hown' hgrow _
          have hn := got_y0 o0 o1 o2 o3 HK.out
          have R : w1.ownsRow w.heap.size 51 4 v' (got o0 o1 o2 o3 1).length (flat (got o0 o1 o2 o3 1)) := by rw [hn, List.length_append, flat_append, flat_one]; exact hown'
          have R2 : Below w.heap.size w w1 := ((hL.alloc hs _).alloc (by simp; omega) _).grown hgrow (by simp; omega) (fun b hb => (hown.lt b hb).1)
          clear hown' hgrow hown hn hkp hL hs
          go_wp2
          go_roundw
          case rel => exact ⟨1, by omega, rfl, R, R2⟩
          case measure => simp [intOf]
      · have hx := idx1
        cases hkp : keepB o1
        · have HK : Hid (keepB o1 = false) := hkp
          unfold keepB eqB at hkp
          go_wp2
          go_roundw
          case rel => exact ⟨2, by omega, rfl, by rw [got_n1 _ _ _ _ HK.out]; exact hown.alloc _, hL.alloc hs _⟩
          case measure => simp [intOf]
        · have HK : Hid (keepB o1 = true) := hkp
          unfold keepB eqB at hkp
          go_wp2_with (at_builtin; refine wpList_append_own _ rfl _ _ 66 rfl w.heap.size 51 i0 (.agg #[.int .i64 0, .int .i64 0, .int .i64 0, .int .i64 0]) 4 32 Tryz.underlying66 hi hz0 hz1 hz2 rfl (by decide) _ _ _ rfl ((hown.alloc _).alloc _) ⟨wr.heap.size + 1, 0, none⟩ 1 1 [.int .i64 o1.x, .int .i64 o1.y, .int .i64 o1.w, .int .i64 o1.h] rfl rfl ?c1 ?c2 ?c3 ?c4 ?c5 ?_)
          case c1 => exact cell_four _ _ _ _ _ _ _ (by simp)
          case c2 => intro u hu; simp at hu; rcases hu with rfl | rfl | rfl | rfl <;> rfl
          case c3 => have := got_le o0 o1 o2 o3 1; unfold maxLen; omega
          case c4 => have := got_le o0 o1 o2 o3 1; omega
          case c5 => simp; omega
          intro v' w1 hown' hgrow _
          have hn := got_y1 o0 o1 o2 o3 HK.out
          have R : w1.ownsRow w.heap.size 51 4 v' (got o0 o1 o2 o3 2).length (flat (got o0 o1 o2 o3 2)) := by rw [hn, List.length_append, flat_append, flat_one]; exact hown'
          have R2 : Below w.heap.size w w1 := ((hL.alloc hs _).alloc (by simp; omega) _).grown hgrow (by simp; omega) (fun b hb => (hown.lt b hb).1)
          clear hown' hgrow hown hn hkp hL hs
          go_wp2
          go_roundw
          case rel => exact ⟨2, by omega, rfl, R, R2⟩
          case measure => simp [intOf]
      · have hx := idx2
        cases hkp : keepB o2
        · have HK : Hid (keepB o2 = false) := hkp
          unfold keepB eqB at hkp
          go_wp2
          go_roundw
          case rel => exact ⟨3, by omega, rfl, by rw [got_n2 _ _ _ _ HK.out]; exact hown.alloc _, hL.alloc hs _⟩
          case measure => simp [intOf]
        · have HK : Hid (keepB o2 = true) := hkp
          unfold keepB eqB at hkp
          go_wp2_with (at_builtin; refine wpList_append_own _ rfl _ _ 66 rfl w.heap.size 51 i0 (.agg #[.int .i64 0, .int .i64 0, .int .i64 0, .int .i64 0]) 4 32 Tryz.underlying66 hi hz0 hz1 hz2 rfl (by decide) _ _ _ rfl ((hown.alloc _).alloc _) ⟨wr.heap.size + 1, 0, none⟩ 1 1 [.int .i64 o2.x, .int .i64 o2.y, .int .i64 o2.w, .int .i64 o2.h] rfl rfl ?c1 ?c2 ?c3 ?c4 ?c5 ?_)
          case c1 => exact cell_four _ _ _ _ _ _ _ (by simp)
          case c2 => intro u hu; simp at hu; rcases hu with rfl | rfl | rfl | rfl <;> rfl
          case c3 => have := got_le o0 o1 o2 o3 2; unfold maxLen; omega
          case c4 => have := got_le o0 o1 o2 o3 2; omega
          case c5 => simp; omega
          intro v' w1 hown' hgrow _
          have hn := got_y2 o0 o1 o2 o3 HK.out
          have R : w1.ownsRow w.heap.size 51 4 v' (got o0 o1 o2 o3 3).length (flat (got o0 o1 o2 o3 3)) := by rw [hn, List.length_append, flat_append, flat_one]; exact hown'
          have R2 : Below w.heap.size w w1 := ((hL.alloc hs _).alloc (by simp; omega) _).grown hgrow (by simp; omega) (fun b hb => (hown.lt b hb).1)
          clear hown' hgrow hown hn hkp hL hs
          go_wp2
          go_roundw
          case rel => exact ⟨3, by omega, rfl, R, R2⟩
          case measure => simp [intOf]
      · have hx := idx3
        cases hkp : keepB o3
        · have HK : Hid (keepB o3 = false) := hkp
          unfold keepB eqB at hkp
          go_wp2
          go_roundw
          case rel => exact ⟨4, by omega, rfl, by rw [got_n3 _ _ _ _ HK.out]; exact hown.alloc _, hL.alloc hs _⟩
          case measure => simp [intOf]
        · have HK : Hid (keepB o3 = true) := hkp
          unfold keepB eqB at hkp
          go_wp2_with (at_builtin; refine wpList_append_own _ rfl _ _ 66 rfl w.heap.size 51 i0 (.agg #[.int .i64 0, .int .i64 0, .int .i64 0, .int .i64 0]) 4 32 Tryz.underlying66 hi hz0 hz1 hz2 rfl (by decide) _ _ _ rfl ((hown.alloc _).alloc _) ⟨wr.heap.size + 1, 0, none⟩ 1 1 [.int .i64 o3.x, .int .i64 o3.y, .int .i64 o3.w, .int .i64 o3.h] rfl rfl ?c1 ?c2 ?c3 ?c4 ?c5 ?_)
          case c1 => exact cell_four _ _ _ _ _ _ _ (by simp)
          case c2 => intro u hu; simp at hu; rcases hu with rfl | rfl | rfl | rfl <;> rfl
          case c3 => have := got_le o0 o1 o2 o3 3; unfold maxLen; omega
          case c4 => have := got_le o0 o1 o2 o3 3; omega
          case c5 => simp; omega
          intro v' w1 hown' hgrow _
          have hn := got_y3 o0 o1 o2 o3 HK.out
          have R : w1.ownsRow w.heap.size 51 4 v' (got o0 o1 o2 o3 4).length (flat (got o0 o1 o2 o3 4)) := by rw [hn, List.length_append, flat_append, flat_one]; exact hown'
          have R2 : Below w.heap.size w w1 := ((hL.alloc hs _).alloc (by simp; omega) _).grown hgrow (by simp; omega) (fun b hb => (hown.lt b hb).1)
          clear hown' hgrow hown hn hkp hL hs
          go_wp2
          go_roundw
          case rel => exact ⟨4, by omega, rfl, R, R2⟩
          case measure => simp [intOf]
      · go_wp2
        go_ret2
        refine ⟨_, rfl, ?_, hL⟩
        rw [HL.out]
        exact hown

end Go.Proofs.YtfjbnejmcanamaaGreatDoor

/-
  Contracts: two corners make a rectangle, by the program and by the document's answer.
-/
namespace Go.Proofs.YtfjbnejmcanamaaGreatDoor
open Go.RowKit

theorem corn_bd {x y : Int} (h : cornB x y = true) : -16384 ≤ x ∧ x ≤ 16384 ∧ -16384 ≤ y ∧ y ≤ 16384 := by
  unfold cornB at h
  rw [Bool.and_eq_true, wit_iff, wit_iff] at h
  omega

theorem mnmx (a b : Int) : (a ≤ b ∧ a < b ∧ min a b = a ∧ max a b = b) ∨ (a ≤ b ∧ b ≤ a ∧ min a b = a ∧ max a b = a) ∨ (b ≤ a ∧ b < a ∧ min a b = b ∧ max a b = a) := by omega

end Go.Proofs.YtfjbnejmcanamaaGreatDoor
