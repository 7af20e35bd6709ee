/-
  Texts of this claim, one behind the other: what each is about stands ahead of it.
-/
import Derived.Test.YtfjbnejmcanamaaGreatDoorK8
import Derived.Test.YtfjbnejmcanamaaGreatDoorK2
import Derived.Test.YtfjbnejmcanamaaGreatDoorK4
import Derived.BigQuiet
import Derived.Deep.Onto
import Derived.Deep.QuietTactic
import Derived.Test.YtfjbnejmcanamaaGreatDoorK1
import Derived.Test.YtfjbnejmcanamaaGreatDoorK0
import Derived.Deep.RegionWith
import Derived.Deep.DeepCutAuto
import Derived.Test.YtfjbnejmcanamaaGreatDoorK7
/-
  Contracts of package geom: a rectangle inset, moved; a size within it.
-/
namespace Go.Proofs.YtfjbnejmcanamaaGreatDoor
open Go.RowKit

theorem i64_bd {x : Int} (h1 : -1000000 ≤ x) (h2 : x ≤ 1000000) : I64 x := ⟨by omega, by omega⟩

set_option maxHeartbeats 400000 in
theorem sized_any (x y n m : Int) (w : World) (hx : I64 x) (hy : I64 y) :
    Calls Tryz.prog 111 #[.agg #[.int .i64 x, .int .i64 y, .int .i64 n, .int .i64 m]] w fun e w' => e = .returned (.tuple #[.agg #[.int .i64 (szR ⟨x, y, n, m⟩).x, .int .i64 (szR ⟨x, y, n, m⟩).y, .int .i64 (szR ⟨x, y, n, m⟩).w, .int .i64 (szR ⟨x, y, n, m⟩).h], .int .i64 (szE ⟨x, y, n, m⟩)]) ∧ Below w.heap.size w w' := by
  have hk := chk_ne x y n m
  cases h1 : mayB x y n m
  · rw [show szR ⟨x, y, n, m⟩ = zr by simp [szR, h1], show szE ⟨x, y, n, m⟩ = 9 by simp [szE, h1]]
    go_enter Tryz.func111, Tryz.ntmps111
    go_wp2_with fail
    refine (check_any _ _ _ _ _ hx hy).mono ?_
    rintro e w1 ⟨rfl, hb⟩
    have F := ((fr1 w _ _ _).below hb).2
    obtain ⟨d0, d1, d2, d3⟩ := (At4.new' (w.alloc _) (w.heap.size + 1) 0 0 0 0 51 (by simp)).below hb
    have L := (((Below.refl w.heap.size w).alloc (Nat.le_refl _) _).alloc (by simp) _).trans (hb.mono (by simp; omega))
    clear hb
    go_wp2
    exact bodyPost_ret (v := .tuple #[.agg #[.int .i64 0, .int .i64 0, .int .i64 0, .int .i64 0], .int .i64 9]) (by simp [results, Tryz.results111, go_sem, d0, d1, d2, d3]) rfl ⟨rfl, set4_below L (by omega) _ _ _ _⟩
  · rw [show szR ⟨x, y, n, m⟩ = ⟨x, y, n, m⟩ by simp [szR, h1], show szE ⟨x, y, n, m⟩ = 0 by simp [szE, h1]]
    go_enter Tryz.func111, Tryz.ntmps111
    go_wp2_with fail
    refine (check_any _ _ _ _ _ hx hy).mono ?_
    rintro e w1 ⟨rfl, hb⟩
    have F := ((fr1 w _ _ _).below hb).2
    obtain ⟨d0, d1, d2, d3⟩ := (At4.new' (w.alloc _) (w.heap.size + 1) 0 0 0 0 51 (by simp)).below hb
    obtain ⟨e0, e1, e2, e3⟩ := ((At4.new w x y n m 51).alloc _).below hb
    have L := (((Below.refl w.heap.size w).alloc (Nat.le_refl _) _).alloc (by simp) _).trans (hb.mono (by simp; omega))
    clear hb
    go_wp2
    exact bodyPost_ret (v := .tuple #[.agg #[.int .i64 x, .int .i64 y, .int .i64 n, .int .i64 m], .int .i64 0]) (by simp [results, Tryz.results111, go_sem, d0, d1, d2, d3]) rfl ⟨rfl, set4_below L (by omega) _ _ _ _⟩

set_option maxHeartbeats 1000000 in
theorem inset_any (x y n m k : Int) (w : World) (hx : I64 x) (hy : I64 y) :
    Calls Tryz.prog 93 #[.agg #[.int .i64 x, .int .i64 y, .int .i64 n, .int .i64 m], .int .i64 k] w fun e w' => e = .returned (.tuple #[.agg #[.int .i64 (insR x y n m k).x, .int .i64 (insR x y n m k).y, .int .i64 (insR x y n m k).w, .int .i64 (insR x y n m k).h], .int .i64 (insE x y n m k)]) ∧ Below w.heap.size w w' := by
  have hk := chk_ne x y n m
  have cs : mayB x y n m = false ∨ (mayB x y n m = true ∧ witB k (-16384) 16384 = false) ∨ (mayB x y n m = true ∧ witB k (-16384) 16384 = true ∧ emptyB x y n m = true) ∨ (mayB x y n m = true ∧ witB k (-16384) 16384 = true ∧ emptyB x y n m = false) := by
    cases mayB x y n m <;> cases witB k (-16384) 16384 <;> cases emptyB x y n m <;> simp
  rcases cs with h1 | ⟨h1, h2⟩ | ⟨h1, h2, h3⟩ | ⟨h1, h2, h3⟩
  · rw [show insR x y n m k = zr by simp [insR, h1], show insE x y n m k = 5 by simp [insE, h1]]
    go_enter Tryz.func93, Tryz.ntmps93
    go_wp2_with fail
    refine (check_any _ _ _ _ _ hx hy).mono ?_
    rintro e w1 ⟨rfl, hb⟩
    have F := (fr1 w _ _ _).below hb
    have C := (At4.new' (w.alloc _) (w.heap.size + 1) 0 0 0 0 51 (by simp)).below hb
    have A := ((At4.new w x y n m 51).alloc _).below hb
    have L := (((Below.refl w.heap.size w).alloc (Nat.le_refl _) _).alloc (by simp) _).trans (hb.mono (by simp; omega))
    clear hb
    replace F := F.2
    obtain ⟨d0, d1, d2, d3⟩ := id C
    go_wp2
    exact bodyPost_ret (v := .tuple #[.agg #[.int .i64 0, .int .i64 0, .int .i64 0, .int .i64 0], .int .i64 5]) (by simp [results, Tryz.results93, go_sem, d0, d1, d2, d3]) rfl ⟨rfl, set4_below L (by omega) _ _ _ _⟩
  · rw [show insR x y n m k = zr by simp [insR, h2], show insE x y n m k = 2 by simp [insE, h1, h2]]
    go_enter Tryz.func93, Tryz.ntmps93
    go_wp2_with fail
    refine (check_any _ _ _ _ _ hx hy).mono ?_
    rintro e w1 ⟨rfl, hb⟩
    have F := (fr1 w _ _ _).below hb
    have C := (At4.new' (w.alloc _) (w.heap.size + 1) 0 0 0 0 51 (by simp)).below hb
    have A := ((At4.new w x y n m 51).alloc _).below hb
    have L := (((Below.refl w.heap.size w).alloc (Nat.le_refl _) _).alloc (by simp) _).trans (hb.mono (by simp; omega))
    clear hb
    replace F := F.2
    obtain ⟨d0, d1, d2, d3⟩ := id C
    go_wp2_with (go_at_call 110; refine (within_any _ _ _ _).mono ?_; rintro e w' ⟨rfl, rfl⟩)
    exact bodyPost_ret (v := .tuple #[.agg #[.int .i64 0, .int .i64 0, .int .i64 0, .int .i64 0], .int .i64 2]) (by simp [results, Tryz.results93, go_sem, d0, d1, d2, d3]) rfl ⟨rfl, set4_below L (by omega) _ _ _ _⟩
  · rw [show insR x y n m k = zr by simp [insR, h3], show insE x y n m k = 0 by simp [insE, h1, h2, h3]]
    go_enter Tryz.func93, Tryz.ntmps93
    go_wp2_with fail
    refine (check_any _ _ _ _ _ hx hy).mono ?_
    rintro e w1 ⟨rfl, hb⟩
    have F := (fr1 w _ _ _).below hb
    have C := (At4.new' (w.alloc _) (w.heap.size + 1) 0 0 0 0 51 (by simp)).below hb
    have A := ((At4.new w x y n m 51).alloc _).below hb
    have L := (((Below.refl w.heap.size w).alloc (Nat.le_refl _) _).alloc (by simp) _).trans (hb.mono (by simp; omega))
    clear hb
    obtain ⟨e0, e1, e2, e3⟩ := id A
    go_wp2_with (go_at_call 110; refine (within_any _ _ _ _).mono ?_; rintro e w' ⟨rfl, rfl⟩)
    clear e0 e1 e2 e3
    refine (empty_any _ _ _ _ _ hx hy).mono ?_
    rintro e w2 ⟨rfl, hb⟩
    replace F := F.below hb
    replace C := C.below hb
    replace L := L.trans (hb.mono L.size)
    clear hb
    replace F := F.2
    obtain ⟨d0, d1, d2, d3⟩ := id C
    go_wp2
    exact bodyPost_ret (v := .tuple #[.agg #[.int .i64 0, .int .i64 0, .int .i64 0, .int .i64 0], .int .i64 0]) (by simp [results, Tryz.results93, go_sem, d0, d1, d2, d3]) rfl ⟨rfl, set4_below L (by omega) _ _ _ _⟩
  · rw [show insR x y n m k = szR (btw (x + k) (y + k) (x + n - k) (y + m - k)) by simp [insR, h1, h2, h3], show insE x y n m k = szE (btw (x + k) (y + k) (x + n - k) (y + m - k)) by simp [insE, h1, h2, h3]]
    obtain ⟨a1, a2, a3, a4, a5, a6, a7, a8, a9, a10⟩ := bounds_of h3
    obtain ⟨b1, b2⟩ := wit_iff.1 h2
    go_enter Tryz.func93, Tryz.ntmps93
    go_wp2_with fail
    refine (check_any _ _ _ _ _ hx hy).mono ?_
    rintro e w1 ⟨rfl, hb⟩
    have F := (fr1 w _ _ _).below hb
    have C := (At4.new' (w.alloc _) (w.heap.size + 1) 0 0 0 0 51 (by simp)).below hb
    have A := ((At4.new w x y n m 51).alloc _).below hb
    have L := (((Below.refl w.heap.size w).alloc (Nat.le_refl _) _).alloc (by simp) _).trans (hb.mono (by simp; omega))
    clear hb
    obtain ⟨e0, e1, e2, e3⟩ := id A
    go_wp2_with (go_at_call 110; refine (within_any _ _ _ _).mono ?_; rintro e w' ⟨rfl, rfl⟩)
    clear e0 e1 e2 e3
    refine (empty_any _ _ _ _ _ hx hy).mono ?_
    rintro e w2 ⟨rfl, hb⟩
    replace F := F.below hb
    replace A := A.below hb
    replace C := C.below hb
    replace L := L.trans (hb.mono L.size)
    clear hb
    obtain ⟨e0, e1, e2, e3⟩ := id A
    go_wp2_with fail
    clear e0 e1 e2 e3
    refine (end_any _ _ _ _ _ (by omega) (by omega) (by omega) (by omega) (by omega) (by omega) (by omega) (by omega)).mono ?_
    rintro e w3 ⟨rfl, hb⟩
    replace F := F.below hb
    replace A := A.below hb
    replace C := C.below hb
    replace L := L.trans (hb.mono L.size)
    clear hb
    have la := A.lt
    obtain ⟨e0, e1, e2, e3⟩ := id A
    go_wp2_with fail
    clear e0 e1 e2 e3 la
    refine (between_any _ _ _ _ _ (by omega) (by omega) (by omega) (by omega) (by omega) (by omega) (by omega) (by omega)).mono ?_
    rintro e w4 ⟨rfl, hb⟩
    replace F := (F.alloc _).below hb
    replace C := (C.alloc _).below hb
    replace L := (L.alloc L.size _).trans (hb.mono (by have := L.size; simp; omega))
    clear A hb
    go_wp2_with fail
    obtain ⟨g1, g2, g3, g4⟩ := btw_bd (x + k) (y + k) (x + n - k) (y + m - k) 100000 (by omega) (by omega) (by omega) (by omega) (by omega)
    refine (sized_any _ _ _ _ _ (i64_bd (by omega) (by omega)) (i64_bd (by omega) (by omega))).mono ?_
    rintro e w5 ⟨rfl, hb⟩
    replace F := (F.below hb).2
    replace C := C.below hb
    replace L := L.trans (hb.mono L.size)
    clear hb
    obtain ⟨d0, d1, d2, d3⟩ := id C
    go_wp2
    exact bodyPost_ret (v := .tuple #[.agg #[.int .i64 _, .int .i64 _, .int .i64 _, .int .i64 _], .int .i64 _]) (by simp [results, Tryz.results93, go_sem, d0, d1, d2, d3]) rfl ⟨rfl, set4_below L (by omega) _ _ _ _⟩

end Go.Proofs.YtfjbnejmcanamaaGreatDoor

/-
  Package cells: border, boxRune.
-/
namespace Go.Proofs.YtfjbnejmcanamaaGreatDoor
open Go.RowKit

/-- The runes of a frame, as package cells keeps them. -/
def boxT : List Int := [0, 9474, 9474, 9474, 9472, 9484, 9488, 9474, 9472, 9492, 9496, 9474, 9472, 9472, 9472, 9633]
theorem edgN_at (p q n : Int) : edgN (p - q) n = (if p = q then 1 else 0) + (if p = q + n - 1 then 2 else 0) := by
  unfold edgN
  congr 1
  · by_cases h : p = q
    · rw [if_pos h, if_pos (by omega)]
    · rw [if_neg h, if_neg (by omega)]
  · by_cases h : p = q + n - 1
    · rw [if_pos h, if_pos (by omega)]
    · rw [if_neg h, if_neg (by omega)]
theorem box_frm {r : Rc} {px py : Int} (h : edgB r px py = true) (h1 : r.x ≤ px) (h2 : px < r.x + r.w) (h3 : r.y ≤ py) (h4 : py < r.y + r.h) : boxT.getD ((edgN (py - r.y) r.h).toNat * 4 + (edgN (px - r.x) r.w).toNat) 0 = frmR r px py := by
  unfold frmR
  rw [h, if_neg (show ¬ true = false by decide), edgN_at, edgN_at]
  have h' : px = r.x ∨ py = r.y ∨ px = r.x + r.w - 1 ∨ py = r.y + r.h - 1 := by
    unfold edgB at h
    simpa using h
  by_cases a1 : py = r.y <;> by_cases a2 : py = r.y + r.h - 1 <;> by_cases a3 : px = r.x <;> by_cases a4 : px = r.x + r.w - 1
  · rw [if_pos a1, if_pos a2, if_pos a3, if_pos a4, if_pos ⟨by omega, by omega⟩]
    rfl
  · rw [if_pos a1, if_pos a2, if_pos a3, if_neg a4, if_neg (by omega), if_neg (by omega), if_pos (by omega)]
    rfl
  · rw [if_pos a1, if_pos a2, if_neg a3, if_pos a4, if_neg (by omega), if_neg (by omega), if_pos (by omega)]
    rfl
  · rw [if_pos a1, if_pos a2, if_neg a3, if_neg a4, if_neg (by omega), if_neg (by omega), if_pos (by omega)]
    rfl
  · rw [if_pos a1, if_neg a2, if_pos a3, if_pos a4, if_neg (by omega), if_pos (by omega)]
    rfl
  · rw [if_pos a1, if_neg a2, if_pos a3, if_neg a4, if_neg (by omega), if_neg (by omega), if_neg (by omega), if_pos ⟨by omega, by omega⟩]
    rfl
  · rw [if_pos a1, if_neg a2, if_neg a3, if_pos a4, if_neg (by omega), if_neg (by omega), if_neg (by omega), if_neg (by omega), if_pos ⟨by omega, by omega⟩]
    rfl
  · rw [if_pos a1, if_neg a2, if_neg a3, if_neg a4, if_neg (by omega), if_neg (by omega), if_neg (by omega), if_neg (by omega), if_neg (by omega), if_neg (by omega), if_neg (by omega), if_pos (by omega)]
    rfl
  · rw [if_neg a1, if_pos a2, if_pos a3, if_pos a4, if_neg (by omega), if_pos (by omega)]
    rfl
  · rw [if_neg a1, if_pos a2, if_pos a3, if_neg a4, if_neg (by omega), if_neg (by omega), if_neg (by omega), if_neg (by omega), if_neg (by omega), if_pos ⟨by omega, by omega⟩]
    rfl
  · rw [if_neg a1, if_pos a2, if_neg a3, if_pos a4, if_neg (by omega), if_neg (by omega), if_neg (by omega), if_neg (by omega), if_neg (by omega), if_neg (by omega), if_pos ⟨by omega, by omega⟩]
    rfl
  · rw [if_neg a1, if_pos a2, if_neg a3, if_neg a4, if_neg (by omega), if_neg (by omega), if_neg (by omega), if_neg (by omega), if_neg (by omega), if_neg (by omega), if_neg (by omega), if_pos (by omega)]
    rfl
  · rw [if_neg a1, if_neg a2, if_pos a3, if_pos a4, if_neg (by omega), if_pos (by omega)]
    rfl
  · rw [if_neg a1, if_neg a2, if_pos a3, if_neg a4, if_neg (by omega), if_neg (by omega), if_neg (by omega), if_neg (by omega), if_neg (by omega), if_neg (by omega), if_neg (by omega), if_neg (by omega)]
    rfl
  · rw [if_neg a1, if_neg a2, if_neg a3, if_pos a4, if_neg (by omega), if_neg (by omega), if_neg (by omega), if_neg (by omega), if_neg (by omega), if_neg (by omega), if_neg (by omega), if_neg (by omega)]
    rfl
  · exfalso; omega

end Go.Proofs.YtfjbnejmcanamaaGreatDoor

/-
  Package cells: border, boxRune.
-/
namespace Go.Proofs.YtfjbnejmcanamaaGreatDoor
open Go.RowKit

/-- The sides of a frame. -/
def bordL (r : Rc) : List Rc := lesL r.x r.y r.w r.h (insR r.x r.y r.w r.h 1).x (insR r.x r.y r.w r.h 1).y (insR r.x r.y r.w r.h 1).w (insR r.x r.y r.w r.h 1).h
theorem border_any (r : Rc) (w : World) (hx : I64 r.x) (hy : I64 r.y) (hi : I64 (insR r.x r.y r.w r.h 1).x) (hj : I64 (insR r.x r.y r.w r.h 1).y) :
    Calls Tryz.prog 68 #[.agg #[.int .i64 r.x, .int .i64 r.y, .int .i64 r.w, .int .i64 r.h]] w fun e w' =>
      ∃ v, e = .returned v ∧ w'.ownsRow w.heap.size 51 4 v (bordL r).length (flat (bordL r)) ∧ Below w.heap.size w w' := by
  have hq : insR r.x r.y r.w r.h 1 = ⟨(insR r.x r.y r.w r.h 1).x, (insR r.x r.y r.w r.h 1).y, (insR r.x r.y r.w r.h 1).w, (insR r.x r.y r.w r.h 1).h⟩ := rfl
  obtain ⟨x, y, n, m⟩ := r
  simp only at hx hy hi hj ⊢
  have H1 := inset_any x y n m 1
  have H2 := less_any x y n m (insR x y n m 1).x (insR x y n m 1).y (insR x y n m 1).w (insR x y n m 1).h
  have hl : bordL ⟨x, y, n, m⟩ = lesL x y n m (insR x y n m 1).x (insR x y n m 1).y (insR x y n m 1).w (insR x y n m 1).h := rfl
  rw [hl]
  clear hl hq
  generalize lesL x y n m (insR x y n m 1).x (insR x y n m 1).y (insR x y n m 1).w (insR x y n m 1).h = l at *
  generalize lesE x y n m (insR x y n m 1).x (insR x y n m 1).y (insR x y n m 1).w (insR x y n m 1).h = le at *
  generalize (insR x y n m 1).x = i0 at *
  generalize (insR x y n m 1).y = i1 at *
  generalize (insR x y n m 1).w = i2 at *
  generalize (insR x y n m 1).h = i3 at *
  generalize insE x y n m 1 = ie at *
  replace H1 := fun w => H1 w hx hy
  replace H2 := fun w => H2 w hx hy hi hj
  have G1 : Hid (∀ w, Calls Tryz.prog 93 #[.agg #[.int .i64 x, .int .i64 y, .int .i64 n, .int .i64 m], .int .i64 1] w fun e w' => e = .returned (.tuple #[.agg #[.int .i64 i0, .int .i64 i1, .int .i64 i2, .int .i64 i3], .int .i64 ie]) ∧ Below w.heap.size w w') := H1
  have G2 : Hid (∀ w, Calls Tryz.prog 94 #[.agg #[.int .i64 x, .int .i64 y, .int .i64 n, .int .i64 m], .agg #[.int .i64 i0, .int .i64 i1, .int .i64 i2, .int .i64 i3]] w fun e w' => ∃ v, e = .returned (.tuple #[v, .int .i64 le]) ∧ w'.ownsRow w.heap.size 51 4 v l.length (flat l) ∧ Below w.heap.size w w') := H2
  clear H1 H2 hx hy hi hj
  go_enter Tryz.func68, Tryz.ntmps68
  have A := At4.new w x y n m 51
  have L := (Below.refl w.heap.size w).alloc (Nat.le_refl _) (.cells #[.int .i64 x, .int .i64 y, .int .i64 n, .int .i64 m] 51)
  obtain ⟨d0, d1, d2, d3⟩ := id A
  go_wp2_with fail
  clear d0 d1 d2 d3
  refine (G1.out _).mono ?_
  rintro e w1 ⟨rfl, hb⟩
  replace A := A.below hb
  replace L := L.trans (hb.mono L.size)
  clear hb
  have B := At4.new w1 i0 i1 i2 i3 51
  replace A := A.alloc (.cells #[.int .i64 i0, .int .i64 i1, .int .i64 i2, .int .i64 i3] 51)
  replace L := L.alloc L.size (.cells #[.int .i64 i0, .int .i64 i1, .int .i64 i2, .int .i64 i3] 51)
  obtain ⟨d0, d1, d2, d3⟩ := id A
  obtain ⟨e0, e1, e2, e3⟩ := id B
  go_wp2_with fail
  clear d0 d1 d2 d3 e0 e1 e2 e3
  refine (G2.out _).mono ?_
  rintro e w2 ⟨v, rfl, hv, hb⟩
  replace hv := hv.mono (base' := w.heap.size) L.size
  replace L := L.trans (hb.mono L.size)
  have HV : Hid (w2.ownsRow w.heap.size 51 4 v l.length (flat l) ∧ Below w.heap.size w w2) := ⟨hv, L⟩
  clear hb hv L A B
  go_wp2
  go_ret
  exact ⟨_, rfl, HV.out.1, HV.out.2⟩

/-- The runes of a frame, in memory. -/
def BoxM (w : World) : Prop := ∀ i j : Nat, i < 4 → j < 4 → w.cell? ⟨1, i * 4 + j, none⟩ = some (.int .i32 (boxT.getD (i * 4 + j) 0))
theorem edg_nat (k n : Int) : ∃ i : Nat, i < 4 ∧ edgN k n = i := by
  obtain ⟨h1, h2⟩ := edgN_bd k n
  exact ⟨(edgN k n).toNat, by omega, by omega⟩
theorem BoxM.bl {w : World} (h : BoxM w) : 1 < w.heap.size := by
  have h0 := h 0 0 (by omega) (by omega)
  rcases Nat.lt_or_ge 1 w.heap.size with h1 | h1
  · exact h1
  · rw [World.cell?, Array.getElem?_eq_none h1] at h0
    cases h0
set_option maxHeartbeats 1000000 in
theorem boxRune_any (r : Rc) (px py : Int) (w : World) (hB : BoxM w) (h1 : -100000 ≤ r.x ∧ r.x ≤ 100000) (h2 : -100000 ≤ r.y ∧ r.y ≤ 100000) (h3 : -100000 ≤ r.w ∧ r.w ≤ 100000) (h4 : -100000 ≤ r.h ∧ r.h ≤ 100000) (h5 : -100000 ≤ px ∧ px ≤ 100000) (h6 : -100000 ≤ py ∧ py ≤ 100000) :
    Calls Tryz.prog 69 #[.agg #[.int .i64 r.x, .int .i64 r.y, .int .i64 r.w, .int .i64 r.h], .agg #[.int .i64 px, .int .i64 py]] w fun e w' =>
      e = .returned (.int .i32 (boxT.getD ((edgN (py - r.y) r.h).toNat * 4 + (edgN (px - r.x) r.w).toNat) 0)) ∧ Below w.heap.size w w' := by
  obtain ⟨x, y, n, m⟩ := r
  simp only at h1 h2 h3 h4 ⊢
  have G1 := fun w => edgesC_any (py - y) m w h4
  have G2 := fun w => edgesC_any (px - x) n w h3
  obtain ⟨i, hi, ei⟩ := edg_nat (py - y) m
  obtain ⟨j, hj, ej⟩ := edg_nat (px - x) n
  rw [ei] at G1 ⊢
  rw [ej] at G2 ⊢
  clear ei ej
  have w1 : IntKind.i64.wrap (py - y) = py - y := by rw [IntKind.wrap_i64]; omega
  have w2 : IntKind.i64.wrap (px - x) = px - x := by rw [IntKind.wrap_i64]; omega
  have K1 : Hid (∀ w, Calls Tryz.prog 95 #[.int .i64 (py - y), .int .i64 m] w fun e w' => e = .returned (.int .i64 i) ∧ w' = w) := G1
  have K2 : Hid (∀ w, Calls Tryz.prog 95 #[.int .i64 (px - x), .int .i64 n] w fun e w' => e = .returned (.int .i64 j) ∧ w' = w) := G2
  have hb0 := hB.bl
  have hc := hB i j hi hj
  have ht : Hid (boxT.getD (((i : Nat) : Int).toNat * 4 + ((j : Nat) : Int).toNat) 0 = boxT.getD (i * 4 + j) 0) := rfl
  rw [ht.out]
  generalize boxT.getD (i * 4 + j) 0 = rv at *
  clear G1 G2 h1 h2 h3 h4 h5 h6 hB ht
  go_enter Tryz.func69, Tryz.ntmps69
  go_wp2_with fail
  have A := (At4.new w x y n m 51).alloc (.cells #[.int .i64 px, .int .i64 py] 49)
  have B := At2.new' (w.alloc (.cells #[.int .i64 x, .int .i64 y, .int .i64 n, .int .i64 m] 51)) (w.heap.size + 1) px py 49 (by simp)
  have L := ((Below.refl w.heap.size w).alloc (Nat.le_refl _) (.cells #[.int .i64 x, .int .i64 y, .int .i64 n, .int .i64 m] 51)).alloc (by simp) (.cells #[.int .i64 px, .int .i64 py] 49)
  replace hc := (L.cell (p := ⟨1, i * 4 + j, none⟩) hb0).trans hc
  generalize (w.alloc (.cells #[.int .i64 x, .int .i64 y, .int .i64 n, .int .i64 m] 51)).alloc (.cells #[.int .i64 px, .int .i64 py] 49) = W at *
  obtain ⟨d0, d1, d2, d3⟩ := id A
  obtain ⟨e0, e1⟩ := id B
  have HL : Hid (Below w.heap.size w W) := L
  clear A B L
  go_quiet (first
    | (go_at_call_of 95 (Value.int .i64 (py - y)); exact Calls.quiet_of_same (K1.out _))
    | (go_at_call_of 95 (Value.int .i64 (px - x)); exact Calls.quiet_of_same (K2.out _)))
  go_wp2
  go_ret
  have h := HL.out
  exact ⟨rfl, ⟨h.os, h.tape, h.output, h.size, h.block⟩⟩

end Go.Proofs.YtfjbnejmcanamaaGreatDoor

/-
  The sides of a frame in plain words: each place of the border lies in just one of them.
-/
namespace Go.Proofs.YtfjbnejmcanamaaGreatDoor
open Go.RowKit

/-- A place lies in a rectangle. -/
def inQ (q : Rc) (px py : Int) : Prop := q.x ≤ px ∧ px < q.x + q.w ∧ q.y ≤ py ∧ py < q.y + q.h
theorem emp_no {x y n m : Int} (h : mayB x y n m = true) (h1 : 0 < n) (h2 : 0 < m) : emptyB x y n m = false := by
  unfold emptyB
  rw [h]
  have e1 : (n == 0) = false := by simpa using (by omega : ¬ n = 0)
  have e2 : (m == 0) = false := by simpa using (by omega : ¬ m = 0)
  rw [e1, e2]
  rfl
theorem ins_one {x y n m : Int} (h : mayB x y n m = true) (h1 : 0 < n) (h2 : 0 < m) : insR x y n m 1 = if n ≤ 2 ∨ m ≤ 2 then zr else ⟨x + 1, y + 1, n - 2, m - 2⟩ := by
  have he := emp_no h h1 h2
  unfold insR
  rw [h, he, if_pos (by decide)]
  split
  · next hc =>
    rw [btw_no (by omega)]
    rfl
  · next hc =>
    rw [btw_yes (by omega) (by omega)]
    have hm : mayB (x + 1) (y + 1) (x + n - 1 - (x + 1)) (y + m - 1 - (y + 1)) = true := by
      rw [may_iff] at h ⊢
      omega
    unfold szR
    rw [if_pos hm]
    congr 1 <;> omega
theorem bord_form {r : Rc} (h : zMa r = true) (h1 : 0 < r.w) (h2 : 0 < r.h) : bordL r = if r.w ≤ 2 ∨ r.h ≤ 2 then [r] else [⟨r.x, r.y, r.w, 1⟩, ⟨r.x, r.y + 1, 1, r.h - 2⟩, ⟨r.x + r.w - 1, r.y + 1, 1, r.h - 2⟩, ⟨r.x, r.y + r.h - 1, r.w, 1⟩] := by
  obtain ⟨x, y, n, m⟩ := r
  have h : mayB x y n m = true := h
  replace h1 : 0 < n := h1
  replace h2 : 0 < m := h2
  show lesL x y n m (insR x y n m 1).x (insR x y n m 1).y (insR x y n m 1).w (insR x y n m 1).h = if n ≤ 2 ∨ m ≤ 2 then [⟨x, y, n, m⟩] else [⟨x, y, n, 1⟩, ⟨x, y + 1, 1, m - 2⟩, ⟨x + n - 1, y + 1, 1, m - 2⟩, ⟨x, y + m - 1, n, 1⟩]
  rw [ins_one h h1 h2]
  have he := emp_no h h1 h2
  split
  · next hc =>
    show lesL x y n m 0 0 0 0 = _
    unfold lesL
    rw [h, he, if_pos (by decide)]
    have hz : meetR x y n m 0 0 0 0 = zr := by
      unfold meetR
      rw [he, if_pos (by decide)]
    rw [hz, if_pos (by decide)]
  · next hc =>
    show lesL x y n m (x + 1) (y + 1) (n - 2) (m - 2) = _
    have hm : mayB (x + 1) (y + 1) (n - 2) (m - 2) = true := by
      rw [may_iff] at h ⊢
      omega
    have hf := emp_no hm (by omega) (by omega)
    have hz : meetR x y n m (x + 1) (y + 1) (n - 2) (m - 2) = ⟨x + 1, y + 1, n - 2, m - 2⟩ := by
      unfold meetR
      rw [he, hf, if_neg (by decide), btw_yes (by omega) (by omega)]
      congr 1 <;> omega
    unfold lesL
    rw [h, hm, he, if_pos (by decide), hz]
    have hq : eqB ⟨x + 1, y + 1, n - 2, m - 2⟩ 0 0 0 0 = false := by
      unfold eqB
      have e1 : (n - 2 == 0) = false := by simpa using (by omega : ¬ n - 2 = 0)
      simp only [e1, Bool.false_and, Bool.and_false]
    rw [hq, if_neg (by decide)]
    unfold pcR
    simp only
    rw [btw_yes (by omega) (by omega), btw_yes (by omega) (by omega), btw_yes (by omega) (by omega), btw_yes (by omega) (by omega)]
    have hk : ∀ a b c d : Int, 0 < c → keepB ⟨a, b, c, d⟩ = true := by
      intro a b c d hc
      unfold keepB eqB
      have e1 : (c == 0) = false := by simpa using (by omega : ¬ c = 0)
      simp only [e1, Bool.false_and, Bool.and_false, Bool.not_false]
    rw [List.filter_cons, if_pos (hk _ _ _ _ (by omega)), List.filter_cons, if_pos (hk _ _ _ _ (by omega)), List.filter_cons, if_pos (hk _ _ _ _ (by omega)), List.filter_cons, if_pos (hk _ _ _ _ (by omega)), List.filter_nil]
    congr 1
    · congr 1 <;> omega
    · congr 1
      · congr 1 <;> omega
      · congr 1
        · congr 1 <;> omega
        · congr 1
          congr 1 <;> omega
/-- The sides lie in the rectangle, they are not empty, and they may be. -/
theorem bord_sub {r q : Rc} (h : zMa r = true) (h1 : 0 < r.w) (h2 : 0 < r.h) (hq : q ∈ bordL r) : zMa q = true ∧ 0 < q.w ∧ 0 < q.h ∧ r.x ≤ q.x ∧ q.x + q.w ≤ r.x + r.w ∧ r.y ≤ q.y ∧ q.y + q.h ≤ r.y + r.h := by
  rw [bord_form h h1 h2] at hq
  unfold zMa at h ⊢
  rw [may_iff] at h ⊢
  split at hq
  · have hq := List.mem_singleton.1 hq
    subst hq
    exact ⟨h, h1, h2, by omega, by omega, by omega, by omega⟩
  · simp only [List.mem_cons, List.not_mem_nil, or_false] at hq
    rcases hq with rfl | rfl | rfl | rfl <;> simp only <;> omega
/-- A place in the rectangle lies in one of the sides just where it lies at an edge. -/
theorem bord_edge {r : Rc} (h : zMa r = true) {px py : Int} (hp : inQ r px py) : (∃ q ∈ bordL r, inQ q px py) ↔ edgB r px py = true := by
  obtain ⟨p1, p2, p3, p4⟩ := id hp
  rw [bord_form h (by omega) (by omega)]
  have he : edgB r px py = true ↔ (px = r.x ∨ py = r.y ∨ px = r.x + r.w - 1 ∨ py = r.y + r.h - 1) := by
    unfold edgB
    simp
  rw [he]
  split
  · simp only [List.mem_singleton, exists_eq_left]
    exact ⟨fun _ => by omega, fun _ => hp⟩
  · simp only [List.mem_cons, List.not_mem_nil, or_false, exists_eq_or_imp, exists_eq_left, inQ]
    omega
/-- No place lies in two of the sides. -/
theorem bord_once {r : Rc} (h : zMa r = true) (h1 : 0 < r.w) (h2 : 0 < r.h) : (bordL r).Pairwise fun q q' => ∀ px py, inQ q px py → ¬ inQ q' px py := by
  rw [bord_form h h1 h2]
  split
  · exact List.pairwise_singleton _ _
  · simp only [List.pairwise_cons, List.mem_cons, List.not_mem_nil, or_false, inQ]
    refine ⟨?_, ?_, ?_, ?_, .nil⟩
    · rintro q (rfl | rfl | rfl) px py <;> simp only <;> omega
    · rintro q (rfl | rfl) px py <;> simp only <;> omega
    · rintro q rfl px py <;> simp only <;> omega
    · intro q hq
      exact hq.elim

end Go.Proofs.YtfjbnejmcanamaaGreatDoor

/-
  Boxes of colours; contracts of what two weights make of two numbers.
-/
namespace Go.Proofs.YtfjbnejmcanamaaGreatDoor
open Go.RowKit

/-- A block that holds a colour. -/
def AtC (w : World) (k : Nat) (c : Co) : Prop := w.cell? ⟨k, 0, none⟩ = some (.int .u8 c.r) ∧ w.cell? ⟨k, 1, none⟩ = some (.int .u8 c.g) ∧ w.cell? ⟨k, 2, none⟩ = some (.int .u8 c.b) ∧ w.cell? ⟨k, 3, none⟩ = some (.int .u8 c.a)
theorem AtC.drew {w : World} {k : Nat} {c : Co} (h : AtC w k c) : AtC w.drew k c := h
theorem AtC.lt {w : World} {k : Nat} {c : Co} (h : AtC w k c) : k < w.heap.size := lt_of_cell h.1
theorem AtC.below {W w1 : World} {k : Nat} {c : Co} (h : AtC W k c) (hb : Below W.heap.size W w1) : AtC w1 k c := by
  have e := keepAt hb h.1
  exact ⟨(e 0).trans h.1, (e 1).trans h.2.1, (e 2).trans h.2.2.1, (e 3).trans h.2.2.2⟩
theorem AtC.alloc {w : World} {k : Nat} {c : Co} (h : AtC w k c) (o : Obj) : AtC (w.alloc o) k c := h.below ((Below.refl _ _).alloc (Nat.le_refl _) o)
theorem AtC.new (w : World) (r g b a : Int) (t : TypeId) : AtC (w.alloc (.cells #[.int .u8 r, .int .u8 g, .int .u8 b, .int .u8 a] t)) w.heap.size ⟨r, g, b, a⟩ := by
  unfold AtC; simp
theorem AtC.new' (w : World) (k : Nat) (r g b a : Int) (t : TypeId) (h : k = w.heap.size) : AtC (w.alloc (.cells #[.int .u8 r, .int .u8 g, .int .u8 b, .int .u8 a] t)) k ⟨r, g, b, a⟩ := by
  rw [h]; exact AtC.new w r g b a t
theorem AtC.set {w : World} {k : Nat} {c : Co} (h : AtC w k c) {p : Addr} (v : Value) (hp : p.block ≠ k) : AtC (w.setCell p v) k c := by
  have e : ∀ o, (w.setCell p v).cell? ⟨k, o, none⟩ = w.cell? ⟨k, o, none⟩ := fun o => World.cell?_setCell_other w p ⟨k, o, none⟩ v (fun e => hp (by rw [e]))
  exact ⟨(e 0).trans h.1, (e 1).trans h.2.1, (e 2).trans h.2.2.1, (e 3).trans h.2.2.2⟩
theorem AtC.put {w : World} {k : Nat} {c : Co} (h : AtC w k c) (r g b a : Int) : AtC ((((w.setCell ⟨k, 0, none⟩ (.int .u8 r)).setCell ⟨k, 1, none⟩ (.int .u8 g)).setCell ⟨k, 2, none⟩ (.int .u8 b)).setCell ⟨k, 3, none⟩ (.int .u8 a)) k ⟨r, g, b, a⟩ := by
  obtain ⟨h0, h1, h2, h3⟩ := h
  unfold AtC
  simp [go_sem, h0, h1, h2, h3]
theorem gwC {W : World} {k : Nat} {c : Co} (h : AtC W k c) (t : Gw W) : AtC t.wd k c := h.below t.below

set_option maxHeartbeats 400000 in
theorem sharC_any (x y p q : Int) (w : World) (hx : By x) (hy : By y) (hp : 0 ≤ p) (hp' : p ≤ 65025) (hq : 0 ≤ q) (hq' : q ≤ 65025) (h : 0 < p + q) :
    Calls Tryz.prog 96 #[.int .u8 x, .int .u8 y, .int .i64 p, .int .i64 q] w fun e w' => e = .returned (.int .u8 (shr x y p q)) ∧ w' = w := by
  have hs := shr_by hx hy hp hq h
  obtain ⟨x1, x2⟩ := hx
  obtain ⟨y1, y2⟩ := hy
  obtain ⟨s1, s2⟩ := hs
  have m1 : 0 ≤ p * x := Int.mul_nonneg hp x1
  have m2 : p * x ≤ 65025 * 255 := Int.mul_le_mul hp' x2 x1 (by omega)
  have m3 : 0 ≤ q * y := Int.mul_nonneg hq y1
  have m4 : q * y ≤ 65025 * 255 := Int.mul_le_mul hq' y2 y1 (by omega)
  go_enter Tryz.func96, Tryz.ntmps96
  go_wp2
  go_ret
  have e : shr x y p q % 256 = shr x y p q := Int.emod_eq_of_lt s1 (by omega)
  exact ⟨congrArg (fun z => Ending.returned (.int .u8 z)) e, rfl⟩

/-- What a call that takes two colours and answers one has laid when it begins. -/
theorem boxes_ccc (w : World) (a b : Co) (t t' t'' : TypeId) : AtC (((w.alloc (.cells #[.int .u8 a.r, .int .u8 a.g, .int .u8 a.b, .int .u8 a.a] t)).alloc (.cells #[.int .u8 b.r, .int .u8 b.g, .int .u8 b.b, .int .u8 b.a] t')).alloc (.cells #[.int .u8 0, .int .u8 0, .int .u8 0, .int .u8 0] t'')) w.heap.size a ∧
    AtC (((w.alloc (.cells #[.int .u8 a.r, .int .u8 a.g, .int .u8 a.b, .int .u8 a.a] t)).alloc (.cells #[.int .u8 b.r, .int .u8 b.g, .int .u8 b.b, .int .u8 b.a] t')).alloc (.cells #[.int .u8 0, .int .u8 0, .int .u8 0, .int .u8 0] t'')) (w.heap.size + 1) b ∧
    AtC (((w.alloc (.cells #[.int .u8 a.r, .int .u8 a.g, .int .u8 a.b, .int .u8 a.a] t)).alloc (.cells #[.int .u8 b.r, .int .u8 b.g, .int .u8 b.b, .int .u8 b.a] t')).alloc (.cells #[.int .u8 0, .int .u8 0, .int .u8 0, .int .u8 0] t'')) (w.heap.size + 1 + 1) ⟨0, 0, 0, 0⟩ ∧
    Fr (((w.alloc (.cells #[.int .u8 a.r, .int .u8 a.g, .int .u8 a.b, .int .u8 a.a] t)).alloc (.cells #[.int .u8 b.r, .int .u8 b.g, .int .u8 b.b, .int .u8 b.a] t')).alloc (.cells #[.int .u8 0, .int .u8 0, .int .u8 0, .int .u8 0] t'')) (w.heap.size + 1 + 1) ∧
    Below w.heap.size w (((w.alloc (.cells #[.int .u8 a.r, .int .u8 a.g, .int .u8 a.b, .int .u8 a.a] t)).alloc (.cells #[.int .u8 b.r, .int .u8 b.g, .int .u8 b.b, .int .u8 b.a] t')).alloc (.cells #[.int .u8 0, .int .u8 0, .int .u8 0, .int .u8 0] t'')) := by
  have B := (AtC.new (w.alloc (.cells #[.int .u8 a.r, .int .u8 a.g, .int .u8 a.b, .int .u8 a.a] t)) b.r b.g b.b b.a t').alloc (.cells #[.int .u8 0, .int .u8 0, .int .u8 0, .int .u8 0] t'')
  have C := AtC.new ((w.alloc (.cells #[.int .u8 a.r, .int .u8 a.g, .int .u8 a.b, .int .u8 a.a] t)).alloc (.cells #[.int .u8 b.r, .int .u8 b.g, .int .u8 b.b, .int .u8 b.a] t')) 0 0 0 0 t''
  simp only [World.size_alloc] at B C
  exact ⟨((AtC.new w a.r a.g a.b a.a t).alloc _).alloc _, B, C, fr2 _ _ _ _ _, (((Below.refl _ w).alloc (Nat.le_refl _) _).alloc (by simp) _).alloc (by simp; omega) _⟩

set_option maxHeartbeats 1000000 in
theorem overK_any (a b : Co) (w : World) (ha : a.ok) (hb : b.ok) :
    Calls Tryz.prog 70 #[(Value.agg #[.int .u8 a.r, .int .u8 a.g, .int .u8 a.b, .int .u8 a.a]), (Value.agg #[.int .u8 b.r, .int .u8 b.g, .int .u8 b.b, .int .u8 b.a])] w fun e w' => e = .returned (Value.agg #[.int .u8 (overC a b).r, .int .u8 (overC a b).g, .int .u8 (overC a b).b, .int .u8 (overC a b).a]) ∧ Below w.heap.size w w' := by
  by_cases c0 : a.a = 0
  · rw [show overC a b = b by unfold overC; rw [if_pos c0]]
    go_enter Tryz.func70, Tryz.ntmps70
    go_wp2
    exact bodyPost_ret (v := (Value.agg #[.int .u8 b.r, .int .u8 b.g, .int .u8 b.b, .int .u8 b.a])) (by simp [results, Tryz.results70, go_sem]) rfl ⟨rfl, (((Below.refl _ w).alloc (Nat.le_refl _) _).alloc (by simp) _).alloc (by simp; omega) _⟩
  · have c1 : (a.a == 0) = false := by simpa using c0
    rw [show overC a b = ⟨shr a.r b.r (fro a) (beh a b), shr a.g b.g (fro a) (beh a b), shr a.b b.b (fro a) (beh a b), (fro a + beh a b + 127) / 255⟩ by unfold overC; rw [if_neg c0]]
    obtain ⟨w1, w2, w3, w4, w5⟩ := wts ha hb
    have w6 := wts_pos ha hb c0
    have hS : Hid (∀ x y w, By x → By y → Calls Tryz.prog 96 #[.int .u8 x, .int .u8 y, .int .i64 (255 * a.a), .int .i64 ((255 - a.a) * b.a)] w fun e w' => e = .returned (.int .u8 (shr x y (fro a) (beh a b))) ∧ w' = w) :=
      fun x y w hx hy => sharC_any x y _ _ w hx hy w1 w2 w3 w4 w6
    have hA : Hid (a.ok ∧ b.ok) := ⟨ha, hb⟩
    obtain ⟨_, _, _, a1, a2⟩ := id ha
    obtain ⟨_, _, _, b1, b2⟩ := id hb
    simp only [fro, beh] at w1 w2 w3 w4 w5 w6
    go_enter Tryz.func70, Tryz.ntmps70
    go_wp2_with fail
    obtain ⟨A, B, C, F, L⟩ := boxes_ccc w a b 26 26 26
    clear ha hb
    generalize hW : ((w.alloc (.cells #[.int .u8 a.r, .int .u8 a.g, .int .u8 a.b, .int .u8 a.a] 26)).alloc (.cells #[.int .u8 b.r, .int .u8 b.g, .int .u8 b.b, .int .u8 b.a] 26)).alloc (.cells #[.int .u8 0, .int .u8 0, .int .u8 0, .int .u8 0] 26) = W at *
    have HL : Hid (AtC W w.heap.size a ∧ AtC W (w.heap.size + 1) b ∧ AtC W (w.heap.size + 1 + 1) ⟨0, 0, 0, 0⟩ ∧ Fr W (w.heap.size + 1 + 1) ∧ Below w.heap.size w W) := ⟨A, B, C, F, L⟩
    clear A B C F L hW
    refine wp_region_lit 24 0 1 (fun _ => .cells #[] 0) [] (by kernel_rfl) (by kernel_rfl) rfl (fun k hk => absurd hk (by omega)) rfl (fun i h1 h2 => absurd h2 (by omega)) ?_
    apply Exists.intro
    refine ⟨fun bs ne => ?_, ?_⟩
    · obtain ⟨HA, HB, _⟩ := HL.out
      have d0 := fun t : Gb W bs => (HA.below t.below).1
      have d1 := fun t : Gb W bs => (HA.below t.below).2.1
      have d2 := fun t : Gb W bs => (HA.below t.below).2.2.1
      have d3 := fun t : Gb W bs => (HA.below t.below).2.2.2
      have e0 := fun t : Gb W bs => (HB.below t.below).1
      have e1 := fun t : Gb W bs => (HB.below t.below).2.1
      have e2 := fun t : Gb W bs => (HB.below t.below).2.2.1
      have e3 := fun t : Gb W bs => (HB.below t.below).2.2.2
      clear HA HB
      simp only [List.take_succ_cons, List.take_zero]
      repeat (go_big_quiet_step (first
        | (go_at_call_of 96 (Value.int .u8 a.r); exact gb_same (hS.out _ _ _ hA.out.1.1 hA.out.2.1))
        | (go_at_call_of 96 (Value.int .u8 a.g); exact gb_same (hS.out _ _ _ hA.out.1.2.1 hA.out.2.2.1))
        | (go_at_call_of 96 (Value.int .u8 a.b); exact gb_same (hS.out _ _ _ hA.out.1.2.2.1 hA.out.2.2.2.1))))
      exact wpQuiet_nil rfl
    · intro bl wr hb _ _
      obtain ⟨HA, HB, HC, HF, HD⟩ := HL.out
      replace HC := HC.below hb
      replace HF := (HF.below hb).2
      replace HD := HD.trans (hb.mono HD.size)
      obtain ⟨c0, c1, c2, c3⟩ := HC
      simp only [layL]
      refine wpAny_one 24 (by kernel_rfl) rfl ?_
      intro K hK
      go_simp
      refine hK _ _ ?_
      clear hK K
      refine wpAny_done (by kernel_rfl) ?_ _
      go_wp2
      exact bodyPost_ret (v := .agg #[.int .u8 _, .int .u8 _, .int .u8 _, .int .u8 _]) (by simp [results, Tryz.results70, go_sem, c0, c1, c2, c3, fro, beh]) rfl ⟨rfl, set4_below HD (by omega) _ _ _ _⟩

end Go.Proofs.YtfjbnejmcanamaaGreatDoor

/-
  Package cells: wipe, tint, edges: what is made of a piece of a row.
-/
namespace Go.Proofs.YtfjbnejmcanamaaGreatDoor
open Go.RowKit

theorem Bk.at11 {W : World} {b : Nat} {c : Ce} {t : TypeId} (h : Bk W b (#[.int .i32 c.r, .int .u8 c.c.r, .int .u8 c.c.g, .int .u8 c.c.b, .int .u8 c.c.a, .int .u8 c.b.r, .int .u8 c.b.g, .int .u8 c.b.b, .int .u8 c.b.a, .bool c.wd, .bool c.tl]) t) : CeAt W b 0 c := by
  rw [ceat_iff]
  intro j hj
  rw [Nat.zero_add, h.cell]
  show (cCel c).toArray[j]? = _
  rw [List.getElem?_toArray]
theorem ScM.look {lo : Nat} {w : World} {g n cap : Nat} {L : List Ce} (h : ScM lo w g n cap L) (k : Nat) (hk : k < L.length) (p : Nat) (hp : p = k * 11) : CeAt w g p L[k] := by
  rw [hp]
  exact h.at k hk
theorem CeAt.drewC {w : World} {g p : Nat} {s : Ce} (h : CeAt w g p s) : CeAt w.drew g p s := h

/-- The loop of wipe: cells made blank so far. -/
structure WiP (w : World) (lo g n cap o bc : Nat) (L : List Ce) (c : Ce) (k : Nat) (wr : World) : Prop where
  s : ScM lo wr g n cap (updR L o k fun _ _ => c)
  b : Bk wr bc (#[.int .i32 c.r, .int .u8 c.c.r, .int .u8 c.c.g, .int .u8 c.c.b, .int .u8 c.c.a, .int .u8 c.b.r, .int .u8 c.b.g, .int .u8 c.b.b, .int .u8 c.b.a, .bool c.wd, .bool c.tl]) 63
  g : w.grownBy wr (some g)

set_option maxRecDepth 10000 in
set_option maxHeartbeats 4000000 in
theorem wipe_any (lo g n cap o m c' B : Nat) (L : List Ce) (cb : Co) (w : World) (h : ScM lo w g n cap L) (hm : o + m ≤ n) (hB : B = o * 11) (hl : n ≤ 1000000) :
    Calls Tryz.prog 66 #[.slice (some ⟨g, B, none⟩) m c', (Value.agg #[.int .u8 cb.r, .int .u8 cb.g, .int .u8 cb.b, .int .u8 cb.a])] w fun e w' => e = .returned (.tuple #[]) ∧ ScM lo w' g n cap (updR L o m fun _ _ => (⟨32, coZ, cb, false, false⟩ : Ce)) ∧ w.grownBy w' (some g) := by
  obtain ⟨q, hq⟩ : ∃ q : Ce, q = ⟨32, coZ, cb, false, false⟩ := ⟨_, rfl⟩
  have HC : Hid (∀ W, Calls Tryz.prog 21 #[(Value.agg #[.int .u8 cb.r, .int .u8 cb.g, .int .u8 cb.b, .int .u8 cb.a])] W fun e w' => e = .returned (Value.agg #[.int .i32 q.r, .int .u8 q.c.r, .int .u8 q.c.g, .int .u8 q.c.b, .int .u8 q.c.a, .int .u8 q.b.r, .int .u8 q.b.g, .int .u8 q.b.b, .int .u8 q.b.a, .bool q.wd, .bool q.tl]) ∧ Below W.heap.size W w') := fun W => by rw [hq]; exact blank_any cb W
  have H0 : Hid (∀ W, Below (w.alloc (.cells #[.int .u8 cb.r, .int .u8 cb.g, .int .u8 cb.b, .int .u8 cb.a] 26)).heap.size (w.alloc (.cells #[.int .u8 cb.r, .int .u8 cb.g, .int .u8 cb.b, .int .u8 cb.a] 26)) W → WiP w lo g n cap o W.heap.size L q 0 (W.alloc (.cells (#[.int .i32 q.r, .int .u8 q.c.r, .int .u8 q.c.g, .int .u8 q.c.b, .int .u8 q.c.a, .int .u8 q.b.r, .int .u8 q.b.g, .int .u8 q.b.b, .int .u8 q.b.a, .bool q.wd, .bool q.tl]) 63)) ∧ g < W.heap.size) := fun W hW => by
    have h1 : Below w.heap.size w (w.alloc (.cells #[.int .u8 cb.r, .int .u8 cb.g, .int .u8 cb.b, .int .u8 cb.a] 26)) := (Below.refl _ w).alloc (Nat.le_refl _) _
    have h2 : Below w.heap.size w W := h1.trans (hW.mono h1.size)
    have h3 : Below w.heap.size w (W.alloc (.cells (#[.int .i32 q.r, .int .u8 q.c.r, .int .u8 q.c.g, .int .u8 q.c.b, .int .u8 q.c.a, .int .u8 q.b.r, .int .u8 q.b.g, .int .u8 q.b.b, .int .u8 q.b.a, .bool q.wd, .bool q.tl]) 63)) := h2.alloc h2.size _
    exact ⟨⟨by rw [updR_zero]; exact h.below h3, Bk.new _ _ _, ⟨h3.os, h3.tape, h3.output, h3.size, fun b hb _ => h3.block b hb⟩⟩, Nat.lt_of_lt_of_le h.lt.2 h2.size⟩
  have HL : Hid (L.length = n) := h.1
  have HB : Hid (B = o * 11) := hB
  rw [← hq]
  clear h hq hB
  go_enter Tryz.func66, Tryz.ntmps66
  go_wp2_with fail
  refine (HC.out _).mono ?_
  rintro e w1 ⟨rfl, hb⟩
  obtain ⟨h0, hg⟩ := H0.out _ hb
  have HI : Hid (WiP w lo g n cap o w1.heap.size L q 0 (w1.alloc (.cells (#[.int .i32 q.r, .int .u8 q.c.r, .int .u8 q.c.g, .int .u8 q.c.b, .int .u8 q.c.a, .int .u8 q.b.r, .int .u8 q.b.g, .int .u8 q.b.b, .int .u8 q.b.a, .bool q.wd, .bool q.tl]) 63))) := h0
  obtain ⟨bc, hbc⟩ : ∃ bc, bc = w1.heap.size := ⟨_, rfl⟩
  rw [← hbc] at HI hg
  have hne : g ≠ bc := by omega
  clear hb h0 H0 HC
  go_wp2_with fail
  rw [← hbc]
  clear hbc
  go_loopw [10] (fun i wr => ∃ k : Nat, k ≤ m ∧ i = .int .i64 k ∧ Hid (WiP w lo g n cap o bc L q k wr)) (fun i _ => m - (intOf i).toNat)
  case atStart => exact ⟨0, Nat.zero_le _, rfl, HI⟩
  case round =>
    obtain ⟨k, hk, rfl, HR⟩ := hrel
    clear HI
    by_cases hlt : k < m
    · have ik : (k : Int) < m := by omega
      have hkl : o + k < (updR L o k fun _ _ => q).length := by rw [updR_len, HL.out]; omega
      obtain ⟨d0, d1, d2, d3, d4, d5, d6, d7, d8, d9, d10⟩ := HR.out.b.at11
      simp only [Nat.zero_add] at d1 d2 d3 d4 d5 d6 d7 d8 d9 d10
      obtain ⟨e0, e1, e2, e3, e4, e5, e6, e7, e8, e9, e10⟩ := HR.out.s.look (o + k) hkl (B + k * 11) (by have := HB.out; omega)
      have ff := HR.out.s.frozen
      have f0 := ff (B + k * 11)
      have f1 := ff (B + k * 11 + 1)
      have f2 := ff (B + k * 11 + 2)
      have f3 := ff (B + k * 11 + 3)
      have f4 := ff (B + k * 11 + 4)
      have f5 := ff (B + k * 11 + 5)
      have f6 := ff (B + k * 11 + 6)
      have f7 := ff (B + k * 11 + 7)
      have f8 := ff (B + k * 11 + 8)
      have f9 := ff (B + k * 11 + 9)
      have f10 := ff (B + k * 11 + 10)
      clear ff
      generalize (updR L o k fun _ _ => q)[o + k] = z at *
      have HN : Hid (∀ W, W = (((((((((((wr).setCell ⟨g, B + k * 11, none⟩ (.int .i32 q.r)).setCell ⟨g, B + k * 11 + 1, none⟩ (.int .u8 q.c.r)).setCell ⟨g, B + k * 11 + 2, none⟩ (.int .u8 q.c.g)).setCell ⟨g, B + k * 11 + 3, none⟩ (.int .u8 q.c.b)).setCell ⟨g, B + k * 11 + 4, none⟩ (.int .u8 q.c.a)).setCell ⟨g, B + k * 11 + 5, none⟩ (.int .u8 q.b.r)).setCell ⟨g, B + k * 11 + 6, none⟩ (.int .u8 q.b.g)).setCell ⟨g, B + k * 11 + 7, none⟩ (.int .u8 q.b.b)).setCell ⟨g, B + k * 11 + 8, none⟩ (.int .u8 q.b.a)).setCell ⟨g, B + k * 11 + 9, none⟩ (.bool q.wd)).setCell ⟨g, B + k * 11 + 10, none⟩ (.bool q.tl) → WiP w lo g n cap o bc L q (k + 1) W) := fun W hW => by
        have hL := HL.out
        refine ⟨?_, ?_, ?_⟩
        · have := HR.out.s.put (o + k) hkl (B + k * 11) (by have := HB.out; omega) q
          have e := updR_next L o k (fun _ _ => q) (by omega)
          rw [← e, hW]
          exact this
        · rw [hW]
          exact (((((((((((HR.out.b).other _ _ hne).other _ _ hne).other _ _ hne).other _ _ hne).other _ _ hne).other _ _ hne).other _ _ hne).other _ _ hne).other _ _ hne).other _ _ hne).other _ _ hne
        · rw [hW]
          exact ob_transC HR.out.g (ob_putC _ _ _ _)
      go_wp2
      go_roundw
      case rel => exact ⟨k + 1, by omega, by go_num, HN.out _ rfl⟩
      case measure => simp [intOf]; omega
    · obtain rfl : m = k := by omega
      go_wp2
      go_end0
      exact ⟨rfl, HR.out.s, HR.out.g⟩

end Go.Proofs.YtfjbnejmcanamaaGreatDoor

/-
  Package cells: tint, written: a colour laid over cells, a rune's cell upon what was there.
-/
namespace Go.Proofs.YtfjbnejmcanamaaGreatDoor
open Go.RowKit

/-- Cells whose colours are bytes. -/
def WfC (L : List Ce) : Prop := ∀ c ∈ L, c.c.ok ∧ c.b.ok
/-- What a colour laid over a cell makes of it. -/
def tinC (a : Co) (_ : Nat) (c : Ce) : Ce := ⟨c.r, overC a c.c, overC a c.b, c.wd, c.tl⟩
structure TiP (w : World) (lo g n cap o bi : Nat) (L : List Ce) (a : Co) (k : Nat) (wr : World) : Prop where
  s : ScM lo wr g n cap (updR L o k (tinC a))
  b : Bk wr bi #[.int .u8 a.r, .int .u8 a.g, .int .u8 a.b, .int .u8 a.a] 26
  g : w.grownBy wr (some g)
theorem Bk.at4C {W : World} {b : Nat} {c : Co} {t : TypeId} (h : Bk W b #[.int .u8 c.r, .int .u8 c.g, .int .u8 c.b, .int .u8 c.a] t) : AtC W b c := ⟨by rw [h.cell]; rfl, by rw [h.cell]; rfl, by rw [h.cell]; rfl, by rw [h.cell]; rfl⟩
theorem CeAt.col {w : World} {g p : Nat} {c : Ce} (h : CeAt w g p c) : w.cell? ⟨g, p + 1, none⟩ = some (.int .u8 c.c.r) ∧ w.cell? ⟨g, p + 2, none⟩ = some (.int .u8 c.c.g) ∧ w.cell? ⟨g, p + 3, none⟩ = some (.int .u8 c.c.b) ∧ w.cell? ⟨g, p + 4, none⟩ = some (.int .u8 c.c.a) := ⟨h.2.1, h.2.2.1, h.2.2.2.1, h.2.2.2.2.1⟩
theorem CeAt.bak {w : World} {g p : Nat} {c : Ce} (h : CeAt w g p c) : w.cell? ⟨g, p + 5, none⟩ = some (.int .u8 c.b.r) ∧ w.cell? ⟨g, p + 6, none⟩ = some (.int .u8 c.b.g) ∧ w.cell? ⟨g, p + 7, none⟩ = some (.int .u8 c.b.b) ∧ w.cell? ⟨g, p + 8, none⟩ = some (.int .u8 c.b.a) := ⟨h.2.2.2.2.2.1, h.2.2.2.2.2.2.1, h.2.2.2.2.2.2.2.1, h.2.2.2.2.2.2.2.2.1⟩

set_option maxRecDepth 10000 in
set_option maxHeartbeats 4000000 in
theorem tint_any (lo g n cap o m c' B : Nat) (L : List Ce) (a : Co) (w : World) (h : ScM lo w g n cap L) (hm : o + m ≤ n) (hB : B = o * 11) (hl : n ≤ 1000000) (ha : a.ok) (hL : WfC L) :
    Calls Tryz.prog 67 #[.slice (some ⟨g, B, none⟩) m c', (Value.agg #[.int .u8 a.r, .int .u8 a.g, .int .u8 a.b, .int .u8 a.a])] w fun e w' => e = .returned (.tuple #[]) ∧ ScM lo w' g n cap (updR L o m (tinC a)) ∧ w.grownBy w' (some g) := by
  have HI : Hid (TiP w lo g n cap o w.heap.size L a 0 (w.alloc (.cells #[.int .u8 a.r, .int .u8 a.g, .int .u8 a.b, .int .u8 a.a] 26))) := by
    have h1 : Below w.heap.size w (w.alloc (.cells #[.int .u8 a.r, .int .u8 a.g, .int .u8 a.b, .int .u8 a.a] 26)) := (Below.refl _ w).alloc (Nat.le_refl _) _
    exact ⟨by rw [updR_zero]; exact h.below h1, Bk.new _ _ _, ⟨h1.os, h1.tape, h1.output, h1.size, fun b hb _ => h1.block b hb⟩⟩
  have HL : Hid (L.length = n ∧ B = o * 11 ∧ a.ok ∧ WfC L) := ⟨h.1, hB, ha, hL⟩
  obtain ⟨bi, hbi⟩ : ∃ bi, bi = w.heap.size := ⟨_, rfl⟩
  have hne : g ≠ bi := by have := h.lt.2; omega
  rw [← hbi] at HI
  clear h hB ha hL
  go_enter Tryz.func67, Tryz.ntmps67
  go_wp2_with fail
  rw [← hbi]
  clear hbi
  go_loopw [8] (fun i wr => ∃ k : Nat, k ≤ m ∧ i = .int .i64 k ∧ Hid (TiP w lo g n cap o bi L a k wr)) (fun i _ => m - (intOf i).toNat)
  case atStart => exact ⟨0, Nat.zero_le _, rfl, HI⟩
  case round =>
    obtain ⟨k, hk, rfl, HR⟩ := hrel
    clear HI
    by_cases hlt : k < m
    · have ik : (k : Int) < m := by omega
      obtain ⟨l1, l2, l3, l4⟩ := HL.out
      have hkl : o + k < (updR L o k (tinC a)).length := by rw [updR_len]; omega
      obtain ⟨z, hz⟩ : ∃ z, z = L[o + k]'(by omega) := ⟨_, rfl⟩
      have hz2 : (updR L o k (tinC a))[o + k] = z := by rw [updR_own, hz]
      have hat := HR.out.s.look (o + k) hkl (B + k * 11) (by omega)
      rw [hz2] at hat
      obtain ⟨e0, e1, e2, e3, e4, e5, e6, e7, e8, e9, e10⟩ := id hat
      obtain ⟨d0, d1, d2, d3⟩ := HR.out.b.at4C
      have hwz := l4 z (by rw [hz]; exact List.getElem_mem _)
      have HO1 : Hid (∀ W, Calls Tryz.prog 70 #[(Value.agg #[.int .u8 a.r, .int .u8 a.g, .int .u8 a.b, .int .u8 a.a]), (Value.agg #[.int .u8 z.c.r, .int .u8 z.c.g, .int .u8 z.c.b, .int .u8 z.c.a])] W fun e w' => e = .returned (Value.agg #[.int .u8 (overC a z.c).r, .int .u8 (overC a z.c).g, .int .u8 (overC a z.c).b, .int .u8 (overC a z.c).a]) ∧ Below W.heap.size W w') := fun W => overK_any a z.c W l3 hwz.1
      have HO2 : Hid (∀ W, Calls Tryz.prog 70 #[(Value.agg #[.int .u8 a.r, .int .u8 a.g, .int .u8 a.b, .int .u8 a.a]), (Value.agg #[.int .u8 z.b.r, .int .u8 z.b.g, .int .u8 z.b.b, .int .u8 z.b.a])] W fun e w' => e = .returned (Value.agg #[.int .u8 (overC a z.b).r, .int .u8 (overC a z.b).g, .int .u8 (overC a z.b).b, .int .u8 (overC a z.b).a]) ∧ Below W.heap.size W w') := fun W => overK_any a z.b W l3 hwz.2
      have gl := HR.out.s.lt.2
      have bl := HR.out.b.lt
      have HZ : Hid (updR L o (k + 1) (tinC a) = (updR L o k (tinC a)).set (o + k) (tinC a (o + k) z)) := by
        have := updR_next L o k (tinC a) (by omega)
        rw [← hz] at this
        exact this.symm
      have HZ2 : Hid (∃ h : o + k < (updR L o k (tinC a)).length, (updR L o k (tinC a))[o + k] = z) := ⟨hkl, hz2⟩
      obtain ⟨bx, hbx⟩ : ∃ bx, bx = wr.heap.size := ⟨_, rfl⟩
      have H1 : Hid (∀ W, Below (wr.alloc (.cells (#[.int .i32 z.r, .int .u8 z.c.r, .int .u8 z.c.g, .int .u8 z.c.b, .int .u8 z.c.a, .int .u8 z.b.r, .int .u8 z.b.g, .int .u8 z.b.b, .int .u8 z.b.a, .bool z.wd, .bool z.tl]) 63)).heap.size (wr.alloc (.cells (#[.int .i32 z.r, .int .u8 z.c.r, .int .u8 z.c.g, .int .u8 z.c.b, .int .u8 z.c.a, .int .u8 z.b.r, .int .u8 z.b.g, .int .u8 z.b.b, .int .u8 z.b.a, .bool z.wd, .bool z.tl]) 63)) W → TiP w lo g n cap o bi L a k W ∧ Bk W bx (#[.int .i32 z.r, .int .u8 z.c.r, .int .u8 z.c.g, .int .u8 z.c.b, .int .u8 z.c.a, .int .u8 z.b.r, .int .u8 z.b.g, .int .u8 z.b.b, .int .u8 z.b.a, .bool z.wd, .bool z.tl]) 63) := fun W hW => by
        have h1 : Below wr.heap.size wr (wr.alloc (.cells (#[.int .i32 z.r, .int .u8 z.c.r, .int .u8 z.c.g, .int .u8 z.c.b, .int .u8 z.c.a, .int .u8 z.b.r, .int .u8 z.b.g, .int .u8 z.b.b, .int .u8 z.b.a, .bool z.wd, .bool z.tl]) 63)) := (Below.refl _ wr).alloc (Nat.le_refl _) _
        have h2 : Below wr.heap.size wr W := h1.trans (hW.mono h1.size)
        exact ⟨⟨HR.out.s.below h2, HR.out.b.below h2, ob_transC HR.out.g ⟨h2.os, h2.tape, h2.output, h2.size, fun b hb _ => h2.block b hb⟩⟩, by rw [hbx]; exact (Bk.new _ _ _).below hW⟩
      have hnx : g ≠ bx := by omega
      clear hat hwz hz hz2 hkl l1 l2 l3 l4
      go_wp2_with fail
      refine (HO1.out _).mono ?_
      rintro e w1 ⟨rfl, hb⟩
      rw [← hbx]
      clear hbx
      obtain ⟨q1, q2⟩ := H1.out _ hb
      have HQ : Hid (TiP w lo g n cap o bi L a k w1 ∧ Bk w1 bx (#[.int .i32 z.r, .int .u8 z.c.r, .int .u8 z.c.g, .int .u8 z.c.b, .int .u8 z.c.a, .int .u8 z.b.r, .int .u8 z.b.g, .int .u8 z.b.b, .int .u8 z.b.a, .bool z.wd, .bool z.tl]) 63) := ⟨q1, q2⟩
      obtain ⟨c1, c2⟩ := HZ2.out
      have hat := q1.s.look (o + k) c1 (B + k * 11) (by have := HL.out.2.1; omega)
      rw [c2] at hat
      obtain ⟨g1, g2, g3, g4⟩ := hat.col
      have ff := q1.s.frozen
      have f1 := ff (B + k * 11 + 1)
      have f2 := ff (B + k * 11 + 2)
      have f3 := ff (B + k * 11 + 3)
      have f4 := ff (B + k * 11 + 4)
      have H2 : Hid (∀ W, W = (((w1.setCell ⟨g, B + k * 11 + 1, none⟩ (.int .u8 (overC a z.c).r)).setCell ⟨g, B + k * 11 + 2, none⟩ (.int .u8 (overC a z.c).g)).setCell ⟨g, B + k * 11 + 3, none⟩ (.int .u8 (overC a z.c).b)).setCell ⟨g, B + k * 11 + 4, none⟩ (.int .u8 (overC a z.c).a) → ScM lo W g n cap ((updR L o k (tinC a)).set (o + k) ⟨z.r, overC a z.c, z.b, z.wd, z.tl⟩) ∧ Bk W bi #[.int .u8 a.r, .int .u8 a.g, .int .u8 a.b, .int .u8 a.a] 26 ∧ Bk W bx (#[.int .i32 z.r, .int .u8 z.c.r, .int .u8 z.c.g, .int .u8 z.c.b, .int .u8 z.c.a, .int .u8 z.b.r, .int .u8 z.b.g, .int .u8 z.b.b, .int .u8 z.b.a, .bool z.wd, .bool z.tl]) 63 ∧ w.grownBy W (some g)) := fun W hW => by
        have s1 := HQ.out.1.s.fore (o + k) c1 (B + k * 11) (by have := HL.out.2.1; omega) ⟨0, overC a z.c, z.b, false, false⟩
        rw [c2] at s1
        rw [hW]
        exact ⟨s1, (((HQ.out.1.b.other _ _ hne).other _ _ hne).other _ _ hne).other _ _ hne, (((HQ.out.2.other _ _ hnx).other _ _ hnx).other _ _ hnx).other _ _ hnx, ob_transC HQ.out.1.g (ob_foreC _ _ _ ⟨0, overC a z.c, z.b, false, false⟩)⟩
      have hbx1 : bx < w1.heap.size := q2.lt
      have hbi1 : bi < w1.heap.size := q1.b.lt
      clear hb q1 q2 c2 hat ff H1 d0 d1 d2 d3 e0 e1 e2 e3 e4 e5 e6 e7 e8 e9 e10
      obtain ⟨W2, hW2⟩ : ∃ W2, W2 = (((w1.setCell ⟨g, B + k * 11 + 1, none⟩ (.int .u8 (overC a z.c).r)).setCell ⟨g, B + k * 11 + 2, none⟩ (.int .u8 (overC a z.c).g)).setCell ⟨g, B + k * 11 + 3, none⟩ (.int .u8 (overC a z.c).b)).setCell ⟨g, B + k * 11 + 4, none⟩ (.int .u8 (overC a z.c).a) := ⟨_, rfl⟩
      have HW2 : Hid (ScM lo W2 g n cap ((updR L o k (tinC a)).set (o + k) ⟨z.r, overC a z.c, z.b, z.wd, z.tl⟩) ∧ Bk W2 bi #[.int .u8 a.r, .int .u8 a.g, .int .u8 a.b, .int .u8 a.a] 26 ∧ Bk W2 bx (#[.int .i32 z.r, .int .u8 z.c.r, .int .u8 z.c.g, .int .u8 z.c.b, .int .u8 z.c.a, .int .u8 z.b.r, .int .u8 z.b.g, .int .u8 z.b.b, .int .u8 z.b.a, .bool z.wd, .bool z.tl]) 63 ∧ w.grownBy W2 (some g)) := H2.out _ hW2
      obtain ⟨d0, d1, d2, d3⟩ := HQ.out.1.b.at4C
      obtain ⟨x5, x6, x7, x8⟩ := (HQ.out.2.at11).bak
      simp only [Nat.zero_add] at x5 x6 x7 x8
      clear H2
      go_wp2_with fail
      rw [← hW2]
      clear hW2 g1 g2 g3 g4 f1 f2 f3 f4 d0 d1 d2 d3 x5 x6 x7 x8 hbx1 hbi1
      refine (HO2.out _).mono ?_
      rintro e w3 ⟨rfl, hb⟩
      have H3 : Hid (ScM lo w3 g n cap ((updR L o k (tinC a)).set (o + k) ⟨z.r, overC a z.c, z.b, z.wd, z.tl⟩) ∧ Bk w3 bi #[.int .u8 a.r, .int .u8 a.g, .int .u8 a.b, .int .u8 a.a] 26 ∧ w.grownBy w3 (some g)) := ⟨HW2.out.1.below hb, HW2.out.2.1.below hb, ob_transC HW2.out.2.2.2 ⟨hb.os, hb.tape, hb.output, hb.size, fun b h _ => hb.block b h⟩⟩
      have c3 : o + k < ((updR L o k (tinC a)).set (o + k) (⟨z.r, overC a z.c, z.b, z.wd, z.tl⟩ : Ce)).length := by rw [List.length_set]; exact c1
      obtain ⟨g5, g6, g7, g8⟩ := (H3.out.1.look (o + k) c3 (B + k * 11) (by have := HL.out.2.1; omega)).bak
      simp only [List.getElem_set_self] at g5 g6 g7 g8
      have ff := H3.out.1.frozen
      have f5 := ff (B + k * 11 + 5)
      have f6 := ff (B + k * 11 + 6)
      have f7 := ff (B + k * 11 + 7)
      have f8 := ff (B + k * 11 + 8)
      have HN : Hid (∀ W, W = (((w3.setCell ⟨g, B + k * 11 + 5, none⟩ (.int .u8 (overC a z.b).r)).setCell ⟨g, B + k * 11 + 6, none⟩ (.int .u8 (overC a z.b).g)).setCell ⟨g, B + k * 11 + 7, none⟩ (.int .u8 (overC a z.b).b)).setCell ⟨g, B + k * 11 + 8, none⟩ (.int .u8 (overC a z.b).a) → TiP w lo g n cap o bi L a (k + 1) W) := fun W hW => by
        have s1 := H3.out.1.back (o + k) c3 (B + k * 11) (by have := HL.out.2.1; omega) ⟨0, coZ, overC a z.b, false, false⟩
        simp only [List.getElem_set_self, List.set_set] at s1
        rw [hW]
        refine ⟨?_, (((H3.out.2.1.other _ _ hne).other _ _ hne).other _ _ hne).other _ _ hne, ob_transC H3.out.2.2 (ob_backC _ _ _ ⟨0, coZ, overC a z.b, false, false⟩)⟩
        rw [HZ.out]
        exact s1
      clear hb ff HW2 HQ HR HZ H3 HO1 HO2 c3 c1 HZ2
      go_wp2
      go_roundw
      case rel => exact ⟨k + 1, by omega, by go_num, HN.out _ rfl⟩
      case measure => simp [intOf]; omega
    · obtain rfl : m = k := by omega
      go_wp2
      go_end0
      exact ⟨rfl, HR.out.s, HR.out.g⟩

end Go.Proofs.YtfjbnejmcanamaaGreatDoor
