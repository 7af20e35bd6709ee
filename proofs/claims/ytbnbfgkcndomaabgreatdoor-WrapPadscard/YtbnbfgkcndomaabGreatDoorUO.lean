/-
  Looks; strokes; the call Strokes.
-/
import Derived.Test.YtbnbfgkcndomaabGreatDoorW1
import Derived.Test.YtbnbfgkcndomaabGreatDoorW3
import Derived.Test.YtbnbfgkcndomaabGreatDoorReg2
import Derived.Test.YtbnbfgkcndomaabGreatDoorUF
import Derived.Test.YtbnbfgkcndomaabGreatDoorSP
import Derived.Test.YtbnbfgkcndomaabGreatDoorReg3
import Derived.Test.YtbnbfgkcndomaabGreatDoorRL3
import Derived.Deep.AppendLies
import Derived.Deep.RegionWith
import Derived.Deep.DeepCutAuto
namespace Go.Proofs.YtbnbfgkcndomaabGreatDoor
open Go.RowKit

end Go.Proofs.YtbnbfgkcndomaabGreatDoor

namespace Go.Proofs.YtbnbfgkcndomaabGreatDoor
open Go.RowKit

set_option maxHeartbeats 400000 in
theorem from_any (x y r b : Int) (w : World) (b1 : -1000000 ≤ x) (b2 : x ≤ 1000000) (b3 : -1000000 ≤ y) (b4 : y ≤ 1000000) (b5 : -1000000 ≤ r) (b6 : r ≤ 1000000) (b7 : -1000000 ≤ b) (b8 : b ≤ 1000000) :
    Calls Tryz.prog 127 #[.int .i64 x, .int .i64 y, .int .i64 r, .int .i64 b] w fun e w' => e = .returned (.agg #[.int .i64 (btw x y r b).x, .int .i64 (btw x y r b).y, .int .i64 (btw x y r b).w, .int .i64 (btw x y r b).h]) ∧ Below w.heap.size w w' := by
  by_cases c1 : r ≤ x
  · rw [btw_no (.inl c1)]
    go_enter Tryz.func127, Tryz.ntmps127
    go_wp2
    exact bodyPost_ret (v := .agg #[.int .i64 0, .int .i64 0, .int .i64 0, .int .i64 0]) (by simp [results, Tryz.results127, go_sem]) rfl ⟨rfl, (Below.refl _ _).alloc (Nat.le_refl _) _⟩
  · by_cases c2 : b ≤ y
    · rw [btw_no (.inr c2)]
      go_enter Tryz.func127, Tryz.ntmps127
      go_wp2
      exact bodyPost_ret (v := .agg #[.int .i64 0, .int .i64 0, .int .i64 0, .int .i64 0]) (by simp [results, Tryz.results127, go_sem]) rfl ⟨rfl, (Below.refl _ _).alloc (Nat.le_refl _) _⟩
    · rw [btw_yes (by omega) (by omega)]
      go_enter Tryz.func127, Tryz.ntmps127
      go_wp2
      exact bodyPost_ret (v := .agg #[.int .i64 x, .int .i64 y, .int .i64 (r - x), .int .i64 (b - y)]) (by simp [results, Tryz.results127, go_sem]) rfl ⟨rfl, (Below.refl _ _).alloc (Nat.le_refl _) _⟩

theorem corn_bd {x y : Int} (h : cornB x y = true) : -16384 ≤ x ∧ x ≤ 16384 ∧ -16384 ≤ y ∧ y ≤ 16384 := by
  unfold cornB at h
  rw [Bool.and_eq_true, wit_iff, wit_iff] at h
  omega

theorem mnmx (a b : Int) : (a ≤ b ∧ a < b ∧ min a b = a ∧ max a b = b) ∨ (a ≤ b ∧ b ≤ a ∧ min a b = a ∧ max a b = a) ∨ (b ≤ a ∧ b < a ∧ min a b = b ∧ max a b = a) := by omega

end Go.Proofs.YtbnbfgkcndomaabGreatDoor

namespace Go.Proofs.YtbnbfgkcndomaabGreatDoor
open Go.RowKit

theorem i64_bd {x : Int} (h1 : -1000000 ≤ x) (h2 : x ≤ 1000000) : I64 x := ⟨by omega, by omega⟩

set_option maxHeartbeats 400000 in
theorem sized_any (x y n m : Int) (w : World) (hx : I64 x) (hy : I64 y) :
    Calls Tryz.prog 216 #[.agg #[.int .i64 x, .int .i64 y, .int .i64 n, .int .i64 m]] w fun e w' => e = .returned (.tuple #[.agg #[.int .i64 (szR ⟨x, y, n, m⟩).x, .int .i64 (szR ⟨x, y, n, m⟩).y, .int .i64 (szR ⟨x, y, n, m⟩).w, .int .i64 (szR ⟨x, y, n, m⟩).h], .int .i64 (szE ⟨x, y, n, m⟩)]) ∧ Below w.heap.size w w' := by
  have hk := chk_ne x y n m
  cases h1 : mayB x y n m
  · rw [show szR ⟨x, y, n, m⟩ = zr by simp [szR, h1], show szE ⟨x, y, n, m⟩ = 9 by simp [szE, h1]]
    go_enter Tryz.func216, Tryz.ntmps216
    go_wp2_with fail
    refine (check_any _ _ _ _ _ hx hy).mono ?_
    rintro e w1 ⟨rfl, hb⟩
    have F := ((fr1 w _ _ _).below hb).2
    obtain ⟨d0, d1, d2, d3⟩ := (At4.new' (w.alloc _) (w.heap.size + 1) 0 0 0 0 32 (by simp)).below hb
    have L := (((Below.refl w.heap.size w).alloc (Nat.le_refl _) _).alloc (by simp) _).trans (hb.mono (by simp; omega))
    clear hb
    go_wp2
    exact bodyPost_ret (v := .tuple #[.agg #[.int .i64 0, .int .i64 0, .int .i64 0, .int .i64 0], .int .i64 9]) (by simp [results, Tryz.results216, go_sem, d0, d1, d2, d3]) rfl ⟨rfl, set4_below L (by omega) _ _ _ _⟩
  · rw [show szR ⟨x, y, n, m⟩ = ⟨x, y, n, m⟩ by simp [szR, h1], show szE ⟨x, y, n, m⟩ = 0 by simp [szE, h1]]
    go_enter Tryz.func216, Tryz.ntmps216
    go_wp2_with fail
    refine (check_any _ _ _ _ _ hx hy).mono ?_
    rintro e w1 ⟨rfl, hb⟩
    have F := ((fr1 w _ _ _).below hb).2
    obtain ⟨d0, d1, d2, d3⟩ := (At4.new' (w.alloc _) (w.heap.size + 1) 0 0 0 0 32 (by simp)).below hb
    obtain ⟨e0, e1, e2, e3⟩ := ((At4.new w x y n m 32).alloc _).below hb
    have L := (((Below.refl w.heap.size w).alloc (Nat.le_refl _) _).alloc (by simp) _).trans (hb.mono (by simp; omega))
    clear hb
    go_wp2
    exact bodyPost_ret (v := .tuple #[.agg #[.int .i64 x, .int .i64 y, .int .i64 n, .int .i64 m], .int .i64 0]) (by simp [results, Tryz.results216, go_sem, d0, d1, d2, d3]) rfl ⟨rfl, set4_below L (by omega) _ _ _ _⟩

set_option maxHeartbeats 1000000 in
theorem inset_any (x y n m k : Int) (w : World) (hx : I64 x) (hy : I64 y) :
    Calls Tryz.prog 213 #[.agg #[.int .i64 x, .int .i64 y, .int .i64 n, .int .i64 m], .int .i64 k] w fun e w' => e = .returned (.tuple #[.agg #[.int .i64 (insR x y n m k).x, .int .i64 (insR x y n m k).y, .int .i64 (insR x y n m k).w, .int .i64 (insR x y n m k).h], .int .i64 (insE x y n m k)]) ∧ Below w.heap.size w w' := by
  have hk := chk_ne x y n m
  have cs : mayB x y n m = false ∨ (mayB x y n m = true ∧ witB k (-16384) 16384 = false) ∨ (mayB x y n m = true ∧ witB k (-16384) 16384 = true ∧ emptyB x y n m = true) ∨ (mayB x y n m = true ∧ witB k (-16384) 16384 = true ∧ emptyB x y n m = false) := by
    cases mayB x y n m <;> cases witB k (-16384) 16384 <;> cases emptyB x y n m <;> simp
  rcases cs with h1 | ⟨h1, h2⟩ | ⟨h1, h2, h3⟩ | ⟨h1, h2, h3⟩
  · rw [show insR x y n m k = zr by simp [insR, h1], show insE x y n m k = 5 by simp [insE, h1]]
    go_enter Tryz.func213, Tryz.ntmps213
    go_wp2_with fail
    refine (check_any _ _ _ _ _ hx hy).mono ?_
    rintro e w1 ⟨rfl, hb⟩
    have F := (fr1 w _ _ _).below hb
    have C := (At4.new' (w.alloc _) (w.heap.size + 1) 0 0 0 0 32 (by simp)).below hb
    have A := ((At4.new w x y n m 32).alloc _).below hb
    have L := (((Below.refl w.heap.size w).alloc (Nat.le_refl _) _).alloc (by simp) _).trans (hb.mono (by simp; omega))
    clear hb
    replace F := F.2
    obtain ⟨d0, d1, d2, d3⟩ := id C
    go_wp2
    exact bodyPost_ret (v := .tuple #[.agg #[.int .i64 0, .int .i64 0, .int .i64 0, .int .i64 0], .int .i64 5]) (by simp [results, Tryz.results213, go_sem, d0, d1, d2, d3]) rfl ⟨rfl, set4_below L (by omega) _ _ _ _⟩
  · rw [show insR x y n m k = zr by simp [insR, h2], show insE x y n m k = 2 by simp [insE, h1, h2]]
    go_enter Tryz.func213, Tryz.ntmps213
    go_wp2_with fail
    refine (check_any _ _ _ _ _ hx hy).mono ?_
    rintro e w1 ⟨rfl, hb⟩
    have F := (fr1 w _ _ _).below hb
    have C := (At4.new' (w.alloc _) (w.heap.size + 1) 0 0 0 0 32 (by simp)).below hb
    have A := ((At4.new w x y n m 32).alloc _).below hb
    have L := (((Below.refl w.heap.size w).alloc (Nat.le_refl _) _).alloc (by simp) _).trans (hb.mono (by simp; omega))
    clear hb
    replace F := F.2
    obtain ⟨d0, d1, d2, d3⟩ := id C
    go_wp2_with (go_at_call 214; refine (within_any _ _ _ _).mono ?_; rintro e w' ⟨rfl, rfl⟩)
    exact bodyPost_ret (v := .tuple #[.agg #[.int .i64 0, .int .i64 0, .int .i64 0, .int .i64 0], .int .i64 2]) (by simp [results, Tryz.results213, go_sem, d0, d1, d2, d3]) rfl ⟨rfl, set4_below L (by omega) _ _ _ _⟩
  · rw [show insR x y n m k = zr by simp [insR, h3], show insE x y n m k = 0 by simp [insE, h1, h2, h3]]
    go_enter Tryz.func213, Tryz.ntmps213
    go_wp2_with fail
    refine (check_any _ _ _ _ _ hx hy).mono ?_
    rintro e w1 ⟨rfl, hb⟩
    have F := (fr1 w _ _ _).below hb
    have C := (At4.new' (w.alloc _) (w.heap.size + 1) 0 0 0 0 32 (by simp)).below hb
    have A := ((At4.new w x y n m 32).alloc _).below hb
    have L := (((Below.refl w.heap.size w).alloc (Nat.le_refl _) _).alloc (by simp) _).trans (hb.mono (by simp; omega))
    clear hb
    obtain ⟨e0, e1, e2, e3⟩ := id A
    go_wp2_with (go_at_call 214; refine (within_any _ _ _ _).mono ?_; rintro e w' ⟨rfl, rfl⟩)
    clear e0 e1 e2 e3
    refine (empty_any _ _ _ _ _ hx hy).mono ?_
    rintro e w2 ⟨rfl, hb⟩
    replace F := F.below hb
    replace C := C.below hb
    replace L := L.trans (hb.mono L.size)
    clear hb
    replace F := F.2
    obtain ⟨d0, d1, d2, d3⟩ := id C
    go_wp2
    exact bodyPost_ret (v := .tuple #[.agg #[.int .i64 0, .int .i64 0, .int .i64 0, .int .i64 0], .int .i64 0]) (by simp [results, Tryz.results213, go_sem, d0, d1, d2, d3]) rfl ⟨rfl, set4_below L (by omega) _ _ _ _⟩
  · rw [show insR x y n m k = szR (btw (x + k) (y + k) (x + n - k) (y + m - k)) by simp [insR, h1, h2, h3], show insE x y n m k = szE (btw (x + k) (y + k) (x + n - k) (y + m - k)) by simp [insE, h1, h2, h3]]
    obtain ⟨a1, a2, a3, a4, a5, a6, a7, a8, a9, a10⟩ := bounds_of h3
    obtain ⟨b1, b2⟩ := wit_iff.1 h2
    go_enter Tryz.func213, Tryz.ntmps213
    go_wp2_with fail
    refine (check_any _ _ _ _ _ hx hy).mono ?_
    rintro e w1 ⟨rfl, hb⟩
    have F := (fr1 w _ _ _).below hb
    have C := (At4.new' (w.alloc _) (w.heap.size + 1) 0 0 0 0 32 (by simp)).below hb
    have A := ((At4.new w x y n m 32).alloc _).below hb
    have L := (((Below.refl w.heap.size w).alloc (Nat.le_refl _) _).alloc (by simp) _).trans (hb.mono (by simp; omega))
    clear hb
    obtain ⟨e0, e1, e2, e3⟩ := id A
    go_wp2_with (go_at_call 214; refine (within_any _ _ _ _).mono ?_; rintro e w' ⟨rfl, rfl⟩)
    clear e0 e1 e2 e3
    refine (empty_any _ _ _ _ _ hx hy).mono ?_
    rintro e w2 ⟨rfl, hb⟩
    replace F := F.below hb
    replace A := A.below hb
    replace C := C.below hb
    replace L := L.trans (hb.mono L.size)
    clear hb
    obtain ⟨e0, e1, e2, e3⟩ := id A
    go_wp2_with fail
    clear e0 e1 e2 e3
    refine (end_any _ _ _ _ _ (by omega) (by omega) (by omega) (by omega) (by omega) (by omega) (by omega) (by omega)).mono ?_
    rintro e w3 ⟨rfl, hb⟩
    replace F := F.below hb
    replace A := A.below hb
    replace C := C.below hb
    replace L := L.trans (hb.mono L.size)
    clear hb
    have la := A.lt
    obtain ⟨e0, e1, e2, e3⟩ := id A
    go_wp2_with fail
    clear e0 e1 e2 e3 la
    refine (between_any _ _ _ _ _ (by omega) (by omega) (by omega) (by omega) (by omega) (by omega) (by omega) (by omega)).mono ?_
    rintro e w4 ⟨rfl, hb⟩
    replace F := (F.alloc _).below hb
    replace C := (C.alloc _).below hb
    replace L := (L.alloc L.size _).trans (hb.mono (by have := L.size; simp; omega))
    clear A hb
    go_wp2_with fail
    obtain ⟨g1, g2, g3, g4⟩ := btw_bd (x + k) (y + k) (x + n - k) (y + m - k) 100000 (by omega) (by omega) (by omega) (by omega) (by omega)
    refine (sized_any _ _ _ _ _ (i64_bd (by omega) (by omega)) (i64_bd (by omega) (by omega))).mono ?_
    rintro e w5 ⟨rfl, hb⟩
    replace F := (F.below hb).2
    replace C := C.below hb
    replace L := L.trans (hb.mono L.size)
    clear hb
    obtain ⟨d0, d1, d2, d3⟩ := id C
    go_wp2
    exact bodyPost_ret (v := .tuple #[.agg #[.int .i64 _, .int .i64 _, .int .i64 _, .int .i64 _], .int .i64 _]) (by simp [results, Tryz.results213, go_sem, d0, d1, d2, d3]) rfl ⟨rfl, set4_below L (by omega) _ _ _ _⟩

end Go.Proofs.YtbnbfgkcndomaabGreatDoor

namespace Go.Proofs.YtbnbfgkcndomaabGreatDoor
open Go.RowKit

/-- A bit of what a look tells. -/
def hb (k : Lk) (b : Int) : Bool := bits .and .u8 ((k.has : Nat) : Int) b != 0
def frmB (k : Lk) : Bool := hb k 4 && k.bd
def coR (k : Lk) : Int := if hb k 1 then k.r else 255
def coG (k : Lk) : Int := if hb k 1 then k.g else 255
def coB (k : Lk) : Int := if hb k 1 then k.b else 255
def coA (k : Lk) : Int := if hb k 1 then k.a else 255
def bkR (k : Lk) : Int := if hb k 2 then k.r2 else 0
def bkG (k : Lk) : Int := if hb k 2 then k.g2 else 0
def bkB (k : Lk) : Int := if hb k 2 then k.b2 else 0
def bkA (k : Lk) : Int := if hb k 2 then k.a2 else 0
def lef1 (r : Rc) (k : Lk) : Rc := if frmB k then insR r.x r.y r.w r.h 1 else r
def lefR (r : Rc) (k : Lk) : Rc := if hb k 8 then insR (lef1 r k).x (lef1 r k).y (lef1 r k).w (lef1 r k).h k.pad else lef1 r k

theorem ins_small (x y n m k : Int) : -32768 ≤ (insR x y n m k).x ∧ (insR x y n m k).x ≤ 32768 ∧ -32768 ≤ (insR x y n m k).y ∧ (insR x y n m k).y ≤ 32768 := by
  unfold insR
  split
  · rename_i h
    simp only [mayB, spanB, witB, Bool.and_eq_true, decide_eq_true_eq] at h
    unfold szR btw
    by_cases hc : x + n - k ≤ x + k ∨ y + m - k ≤ y + k
    · simp only [if_pos hc]
      split <;> simp [zr]
    · simp only [if_neg hc]
      split
      · dsimp only
        omega
      · simp [zr]
  · simp [zr]

theorem framed_any (k : Lk) (w : World) :
    Calls Tryz.prog 209 #[(Value.agg #[.int .u8 (k.has : Nat), .int .u8 k.r, .int .u8 k.g, .int .u8 k.b, .int .u8 k.a, .int .u8 k.r2, .int .u8 k.g2, .int .u8 k.b2, .int .u8 k.a2, .bool k.bd, .int .i64 k.pad])] w fun e w' => e = .returned (.bool (frmB k)) ∧ w' = w.alloc (.cells (#[.int .u8 (k.has : Nat), .int .u8 k.r, .int .u8 k.g, .int .u8 k.b, .int .u8 k.a, .int .u8 k.r2, .int .u8 k.g2, .int .u8 k.b2, .int .u8 k.a2, .bool k.bd, .int .i64 k.pad]) 36) := by
  unfold frmB
  cases h : hb k 4
  · have h' : (bits .and .u8 ((k.has : Nat) : Int) 4 != 0) = false := h
    clear h
    go_enter Tryz.func209, Tryz.ntmps209
    go_wp2
    go_ret
    exact ⟨rfl, rfl⟩
  · have h' : (bits .and .u8 ((k.has : Nat) : Int) 4 != 0) = true := h
    clear h
    go_enter Tryz.func209, Tryz.ntmps209
    go_wp2
    go_ret
    exact ⟨rfl, rfl⟩

theorem colourOf_any (k : Lk) (w : World) :
    Calls Tryz.prog 210 #[(Value.agg #[.int .u8 (k.has : Nat), .int .u8 k.r, .int .u8 k.g, .int .u8 k.b, .int .u8 k.a, .int .u8 k.r2, .int .u8 k.g2, .int .u8 k.b2, .int .u8 k.a2, .bool k.bd, .int .i64 k.pad])] w fun e w' => e = .returned (.agg #[.int .u8 (coR k), .int .u8 (coG k), .int .u8 (coB k), .int .u8 (coA k)]) ∧ Below w.heap.size w w' := by
  unfold coR coG coB coA
  cases h : hb k 1
  · have h' : (bits .and .u8 ((k.has : Nat) : Int) 1 != 0) = false := h
    clear h
    go_enter Tryz.func210, Tryz.ntmps210
    go_wp2
    exact bodyPost_ret (v := .agg #[.int .u8 255, .int .u8 255, .int .u8 255, .int .u8 255]) (by simp [results, Tryz.results210, go_sem]) rfl ⟨rfl, ((Below.refl _ w).alloc (Nat.le_refl _) _).alloc (by simp) _⟩
  · have h' : (bits .and .u8 ((k.has : Nat) : Int) 1 != 0) = true := h
    clear h
    go_enter Tryz.func210, Tryz.ntmps210
    go_wp2
    exact bodyPost_ret (v := .agg #[.int .u8 k.r, .int .u8 k.g, .int .u8 k.b, .int .u8 k.a]) (by simp [results, Tryz.results210, go_sem]) rfl ⟨rfl, ((Below.refl _ w).alloc (Nat.le_refl _) _).alloc (by simp) _⟩

theorem backOf_any (k : Lk) (w : World) :
    Calls Tryz.prog 212 #[(Value.agg #[.int .u8 (k.has : Nat), .int .u8 k.r, .int .u8 k.g, .int .u8 k.b, .int .u8 k.a, .int .u8 k.r2, .int .u8 k.g2, .int .u8 k.b2, .int .u8 k.a2, .bool k.bd, .int .i64 k.pad])] w fun e w' => e = .returned (.agg #[.int .u8 (bkR k), .int .u8 (bkG k), .int .u8 (bkB k), .int .u8 (bkA k)]) ∧ Below w.heap.size w w' := by
  unfold bkR bkG bkB bkA
  cases h : hb k 2
  · have h' : (bits .and .u8 ((k.has : Nat) : Int) 2 != 0) = false := h
    clear h
    go_enter Tryz.func212, Tryz.ntmps212
    go_wp2
    exact bodyPost_ret (v := .agg #[.int .u8 0, .int .u8 0, .int .u8 0, .int .u8 0]) (by simp [results, Tryz.results212, go_sem]) rfl ⟨rfl, ((Below.refl _ w).alloc (Nat.le_refl _) _).alloc (by simp) _⟩
  · have h' : (bits .and .u8 ((k.has : Nat) : Int) 2 != 0) = true := h
    clear h
    go_enter Tryz.func212, Tryz.ntmps212
    go_wp2
    exact bodyPost_ret (v := .agg #[.int .u8 k.r2, .int .u8 k.g2, .int .u8 k.b2, .int .u8 k.a2]) (by simp [results, Tryz.results212, go_sem]) rfl ⟨rfl, ((Below.refl _ w).alloc (Nat.le_refl _) _).alloc (by simp) _⟩

theorem Blk.look {W : World} {b : Nat} {k : Lk} {t : TypeId} (h : Blk W b (#[.int .u8 (k.has : Nat), .int .u8 k.r, .int .u8 k.g, .int .u8 k.b, .int .u8 k.a, .int .u8 k.r2, .int .u8 k.g2, .int .u8 k.b2, .int .u8 k.a2, .bool k.bd, .int .i64 k.pad]) t) : W.cell? ⟨b, 0, none⟩ = some (.int .u8 (k.has : Nat)) ∧ W.cell? ⟨b, 1, none⟩ = some (.int .u8 k.r) ∧ W.cell? ⟨b, 2, none⟩ = some (.int .u8 k.g) ∧ W.cell? ⟨b, 3, none⟩ = some (.int .u8 k.b) ∧ W.cell? ⟨b, 4, none⟩ = some (.int .u8 k.a) ∧ W.cell? ⟨b, 5, none⟩ = some (.int .u8 k.r2) ∧ W.cell? ⟨b, 6, none⟩ = some (.int .u8 k.g2) ∧ W.cell? ⟨b, 7, none⟩ = some (.int .u8 k.b2) ∧ W.cell? ⟨b, 8, none⟩ = some (.int .u8 k.a2) ∧ W.cell? ⟨b, 9, none⟩ = some (.bool k.bd) ∧ W.cell? ⟨b, 10, none⟩ = some (.int .i64 k.pad) :=
  ⟨h.cell 0, h.cell 1, h.cell 2, h.cell 3, h.cell 4, h.cell 5, h.cell 6, h.cell 7, h.cell 8, h.cell 9, h.cell 10⟩

set_option maxHeartbeats 4000000 in
theorem leftOf_any (r : Rc) (k : Lk) (w : World) (hx : I64 r.x) (hy : I64 r.y) :
    Calls Tryz.prog 211 #[.agg #[.int .i64 r.x, .int .i64 r.y, .int .i64 r.w, .int .i64 r.h], (Value.agg #[.int .u8 (k.has : Nat), .int .u8 k.r, .int .u8 k.g, .int .u8 k.b, .int .u8 k.a, .int .u8 k.r2, .int .u8 k.g2, .int .u8 k.b2, .int .u8 k.a2, .bool k.bd, .int .i64 k.pad])] w fun e w' => e = .returned (.agg #[.int .i64 (lefR r k).x, .int .i64 (lefR r k).y, .int .i64 (lefR r k).w, .int .i64 (lefR r k).h]) ∧ Below w.heap.size w w' := by
  have HF : Hid (∀ W, Calls Tryz.prog 209 #[(Value.agg #[.int .u8 (k.has : Nat), .int .u8 k.r, .int .u8 k.g, .int .u8 k.b, .int .u8 k.a, .int .u8 k.r2, .int .u8 k.g2, .int .u8 k.b2, .int .u8 k.a2, .bool k.bd, .int .i64 k.pad])] W fun e w' => e = .returned (.bool (frmB k)) ∧ w' = W.alloc (.cells (#[.int .u8 (k.has : Nat), .int .u8 k.r, .int .u8 k.g, .int .u8 k.b, .int .u8 k.a, .int .u8 k.r2, .int .u8 k.g2, .int .u8 k.b2, .int .u8 k.a2, .bool k.bd, .int .i64 k.pad]) 36)) := fun W => framed_any k W
  have HI : Hid (∀ W, Calls Tryz.prog 213 #[.agg #[.int .i64 r.x, .int .i64 r.y, .int .i64 r.w, .int .i64 r.h], .int .i64 1] W fun e w' => e = .returned (.tuple #[.agg #[.int .i64 (insR r.x r.y r.w r.h 1).x, .int .i64 (insR r.x r.y r.w r.h 1).y, .int .i64 (insR r.x r.y r.w r.h 1).w, .int .i64 (insR r.x r.y r.w r.h 1).h], .int .i64 (insE r.x r.y r.w r.h 1)]) ∧ Below W.heap.size W w') := fun W => inset_any _ _ _ _ _ W hx hy
  have HJ : Hid (∀ W, Calls Tryz.prog 213 #[.agg #[.int .i64 (lef1 r k).x, .int .i64 (lef1 r k).y, .int .i64 (lef1 r k).w, .int .i64 (lef1 r k).h], .int .i64 k.pad] W fun e w' => e = .returned (.tuple #[.agg #[.int .i64 (insR (lef1 r k).x (lef1 r k).y (lef1 r k).w (lef1 r k).h k.pad).x, .int .i64 (insR (lef1 r k).x (lef1 r k).y (lef1 r k).w (lef1 r k).h k.pad).y, .int .i64 (insR (lef1 r k).x (lef1 r k).y (lef1 r k).w (lef1 r k).h k.pad).w, .int .i64 (insR (lef1 r k).x (lef1 r k).y (lef1 r k).w (lef1 r k).h k.pad).h], .int .i64 (insE (lef1 r k).x (lef1 r k).y (lef1 r k).w (lef1 r k).h k.pad)]) ∧ Below W.heap.size W w') := fun W => by
    refine inset_any _ _ _ _ _ W ?_ ?_
    · unfold lef1; split
      · have := ins_small r.x r.y r.w r.h 1; exact ⟨by omega, by omega⟩
      · exact hx
    · unfold lef1; split
      · have := ins_small r.x r.y r.w r.h 1; exact ⟨by omega, by omega⟩
      · exact hy
  clear hx hy
  have Z0 := Blk.new ((w.alloc (.cells #[.int .i64 r.x, .int .i64 r.y, .int .i64 r.w, .int .i64 r.h] 32)).alloc (.cells (#[.int .u8 (k.has : Nat), .int .u8 k.r, .int .u8 k.g, .int .u8 k.b, .int .u8 k.a, .int .u8 k.r2, .int .u8 k.g2, .int .u8 k.b2, .int .u8 k.a2, .bool k.bd, .int .i64 k.pad]) 36)) #[.int .i64 0, .int .i64 0, .int .i64 0, .int .i64 0] 32
  have Y0 := Blk.new (w.alloc (.cells #[.int .i64 r.x, .int .i64 r.y, .int .i64 r.w, .int .i64 r.h] 32)) (#[.int .u8 (k.has : Nat), .int .u8 k.r, .int .u8 k.g, .int .u8 k.b, .int .u8 k.a, .int .u8 k.r2, .int .u8 k.g2, .int .u8 k.b2, .int .u8 k.a2, .bool k.bd, .int .i64 k.pad]) 36
  simp only [World.size_alloc] at Z0 Y0
  have HA : Hid (Blk ((((w.alloc (.cells #[.int .i64 r.x, .int .i64 r.y, .int .i64 r.w, .int .i64 r.h] 32)).alloc (.cells (#[.int .u8 (k.has : Nat), .int .u8 k.r, .int .u8 k.g, .int .u8 k.b, .int .u8 k.a, .int .u8 k.r2, .int .u8 k.g2, .int .u8 k.b2, .int .u8 k.a2, .bool k.bd, .int .i64 k.pad]) 36)).alloc (.cells #[.int .i64 0, .int .i64 0, .int .i64 0, .int .i64 0] 32)).alloc (.cells (#[.int .u8 (k.has : Nat), .int .u8 k.r, .int .u8 k.g, .int .u8 k.b, .int .u8 k.a, .int .u8 k.r2, .int .u8 k.g2, .int .u8 k.b2, .int .u8 k.a2, .bool k.bd, .int .i64 k.pad]) 36)) w.heap.size #[.int .i64 r.x, .int .i64 r.y, .int .i64 r.w, .int .i64 r.h] 32 ∧ Blk ((((w.alloc (.cells #[.int .i64 r.x, .int .i64 r.y, .int .i64 r.w, .int .i64 r.h] 32)).alloc (.cells (#[.int .u8 (k.has : Nat), .int .u8 k.r, .int .u8 k.g, .int .u8 k.b, .int .u8 k.a, .int .u8 k.r2, .int .u8 k.g2, .int .u8 k.b2, .int .u8 k.a2, .bool k.bd, .int .i64 k.pad]) 36)).alloc (.cells #[.int .i64 0, .int .i64 0, .int .i64 0, .int .i64 0] 32)).alloc (.cells (#[.int .u8 (k.has : Nat), .int .u8 k.r, .int .u8 k.g, .int .u8 k.b, .int .u8 k.a, .int .u8 k.r2, .int .u8 k.g2, .int .u8 k.b2, .int .u8 k.a2, .bool k.bd, .int .i64 k.pad]) 36)) (w.heap.size + 1) (#[.int .u8 (k.has : Nat), .int .u8 k.r, .int .u8 k.g, .int .u8 k.b, .int .u8 k.a, .int .u8 k.r2, .int .u8 k.g2, .int .u8 k.b2, .int .u8 k.a2, .bool k.bd, .int .i64 k.pad]) 36 ∧ Blk ((((w.alloc (.cells #[.int .i64 r.x, .int .i64 r.y, .int .i64 r.w, .int .i64 r.h] 32)).alloc (.cells (#[.int .u8 (k.has : Nat), .int .u8 k.r, .int .u8 k.g, .int .u8 k.b, .int .u8 k.a, .int .u8 k.r2, .int .u8 k.g2, .int .u8 k.b2, .int .u8 k.a2, .bool k.bd, .int .i64 k.pad]) 36)).alloc (.cells #[.int .i64 0, .int .i64 0, .int .i64 0, .int .i64 0] 32)).alloc (.cells (#[.int .u8 (k.has : Nat), .int .u8 k.r, .int .u8 k.g, .int .u8 k.b, .int .u8 k.a, .int .u8 k.r2, .int .u8 k.g2, .int .u8 k.b2, .int .u8 k.a2, .bool k.bd, .int .i64 k.pad]) 36)) (w.heap.size + 1 + 1) #[.int .i64 0, .int .i64 0, .int .i64 0, .int .i64 0] 32 ∧ Below w.heap.size w ((((w.alloc (.cells #[.int .i64 r.x, .int .i64 r.y, .int .i64 r.w, .int .i64 r.h] 32)).alloc (.cells (#[.int .u8 (k.has : Nat), .int .u8 k.r, .int .u8 k.g, .int .u8 k.b, .int .u8 k.a, .int .u8 k.r2, .int .u8 k.g2, .int .u8 k.b2, .int .u8 k.a2, .bool k.bd, .int .i64 k.pad]) 36)).alloc (.cells #[.int .i64 0, .int .i64 0, .int .i64 0, .int .i64 0] 32)).alloc (.cells (#[.int .u8 (k.has : Nat), .int .u8 k.r, .int .u8 k.g, .int .u8 k.b, .int .u8 k.a, .int .u8 k.r2, .int .u8 k.g2, .int .u8 k.b2, .int .u8 k.a2, .bool k.bd, .int .i64 k.pad]) 36))) :=
    ⟨(((Blk.new _ _ _).alloc _).alloc _).alloc _, (Y0.alloc _).alloc _, Z0.alloc _, ((((Below.refl _ w).alloc (Nat.le_refl _) _).alloc (by simp) _).alloc (by simp; omega) _).alloc (by simp; omega) _⟩
  clear Z0 Y0
  have main : ∀ b1 b2, frmB k = b1 → hb k 8 = b2 → Calls Tryz.prog 211 #[.agg #[.int .i64 r.x, .int .i64 r.y, .int .i64 r.w, .int .i64 r.h], (Value.agg #[.int .u8 (k.has : Nat), .int .u8 k.r, .int .u8 k.g, .int .u8 k.b, .int .u8 k.a, .int .u8 k.r2, .int .u8 k.g2, .int .u8 k.b2, .int .u8 k.a2, .bool k.bd, .int .i64 k.pad])] w fun e w' => e = .returned (.agg #[.int .i64 (lefR r k).x, .int .i64 (lefR r k).y, .int .i64 (lefR r k).w, .int .i64 (lefR r k).h]) ∧ Below w.heap.size w w' := by
    intro b1 b2 e1 e2
    rw [e1] at HF
    have h8 : (bits .and .u8 ((k.has : Nat) : Int) 8 != 0) = b2 := e2
    cases b1
    · have l1 : lef1 r k = r := by simp [lef1, e1]
      rw [l1] at HJ
      cases b2
      · have l2 : lefR r k = r := by simp [lefR, e2, l1]
        rw [l2]
        clear e1 e2 l1 l2
        go_enter Tryz.func211, Tryz.ntmps211
        go_wp2_with fail
        refine (HF.out _).mono ?_
        rintro e w1 ⟨rfl, rfl⟩
        obtain ⟨A, B, C, L⟩ := HA.out
        generalize (((w.alloc (.cells #[.int .i64 r.x, .int .i64 r.y, .int .i64 r.w, .int .i64 r.h] 32)).alloc (.cells (#[.int .u8 (k.has : Nat), .int .u8 k.r, .int .u8 k.g, .int .u8 k.b, .int .u8 k.a, .int .u8 k.r2, .int .u8 k.g2, .int .u8 k.b2, .int .u8 k.a2, .bool k.bd, .int .i64 k.pad]) 36)).alloc (.cells #[.int .i64 0, .int .i64 0, .int .i64 0, .int .i64 0] 32)).alloc (.cells (#[.int .u8 (k.has : Nat), .int .u8 k.r, .int .u8 k.g, .int .u8 k.b, .int .u8 k.a, .int .u8 k.r2, .int .u8 k.g2, .int .u8 k.b2, .int .u8 k.a2, .bool k.bd, .int .i64 k.pad]) 36) = V at *
        obtain ⟨a0, a1, a2, a3⟩ := A.at4
        obtain ⟨c0, c1, c2, c3⟩ := C.at4
        have fc := C.frozen
        have k0 := B.look.1
        have HL : Hid (Below w.heap.size w V) := L
        clear A B C L HA
        go_wp2
        exact bodyPost_ret (v := .agg #[.int .i64 r.x, .int .i64 r.y, .int .i64 r.w, .int .i64 r.h]) (by simp [results, Tryz.results211, go_sem, c0, c1, c2, c3]) rfl ⟨rfl, set4_below HL.out (le2 _) _ _ _ _⟩
      · have l2 : lefR r k = insR r.x r.y r.w r.h k.pad := by simp [lefR, e2, l1]
        rw [l2]
        generalize insR r.x r.y r.w r.h k.pad = q at *
        generalize insE r.x r.y r.w r.h k.pad = q2 at *
        clear e1 e2 l1 l2
        go_enter Tryz.func211, Tryz.ntmps211
        go_wp2_with fail
        refine (HF.out _).mono ?_
        rintro e w1 ⟨rfl, rfl⟩
        obtain ⟨A, B, C, L⟩ := HA.out
        generalize (((w.alloc (.cells #[.int .i64 r.x, .int .i64 r.y, .int .i64 r.w, .int .i64 r.h] 32)).alloc (.cells (#[.int .u8 (k.has : Nat), .int .u8 k.r, .int .u8 k.g, .int .u8 k.b, .int .u8 k.a, .int .u8 k.r2, .int .u8 k.g2, .int .u8 k.b2, .int .u8 k.a2, .bool k.bd, .int .i64 k.pad]) 36)).alloc (.cells #[.int .i64 0, .int .i64 0, .int .i64 0, .int .i64 0] 32)).alloc (.cells (#[.int .u8 (k.has : Nat), .int .u8 k.r, .int .u8 k.g, .int .u8 k.b, .int .u8 k.a, .int .u8 k.r2, .int .u8 k.g2, .int .u8 k.b2, .int .u8 k.a2, .bool k.bd, .int .i64 k.pad]) 36) = V at *
        obtain ⟨a0, a1, a2, a3⟩ := A.at4
        have k0 := B.look.1
        have k10 := B.look.2.2.2.2.2.2.2.2.2.2
        have HB : Hid (Blk V w.heap.size #[.int .i64 r.x, .int .i64 r.y, .int .i64 r.w, .int .i64 r.h] 32 ∧ Blk V (w.heap.size + 1 + 1) #[.int .i64 0, .int .i64 0, .int .i64 0, .int .i64 0] 32 ∧ Below w.heap.size w V) := ⟨A, C, L⟩
        clear A B C L HA
        go_wp2_with fail
        refine (HJ.out _).mono ?_
        rintro e w1 ⟨rfl, hb⟩
        obtain ⟨A, C, L⟩ := HB.out
        replace A := A.below hb
        replace C := C.below hb
        replace L := L.trans (hb.mono L.size)
        obtain ⟨d0, d1, d2, d3⟩ := A.at4
        obtain ⟨c0, c1, c2, c3⟩ := C.at4
        have fc := C.frozen
        have fa := A.frozen
        have HL : Hid (Below w.heap.size w w1) := L
        clear A C L hb HB a0 a1 a2 a3 k0 k10
        go_wp2
        exact bodyPost_ret (v := .agg #[.int .i64 q.x, .int .i64 q.y, .int .i64 q.w, .int .i64 q.h]) (by simp [results, Tryz.results211, go_sem, c0, c1, c2, c3]) rfl ⟨rfl, set4_below (set4_below HL.out (Nat.le_refl _) _ _ _ _) (le2 _) _ _ _ _⟩
    · have l1 : lef1 r k = insR r.x r.y r.w r.h 1 := by simp [lef1, e1]
      rw [l1] at HJ
      cases b2
      · have l2 : lefR r k = insR r.x r.y r.w r.h 1 := by simp [lefR, e2, l1]
        rw [l2]
        generalize insR r.x r.y r.w r.h 1 = q at *
        generalize insE r.x r.y r.w r.h 1 = q2 at *
        clear e1 e2 l1 l2
        go_enter Tryz.func211, Tryz.ntmps211
        go_wp2_with fail
        refine (HF.out _).mono ?_
        rintro e w1 ⟨rfl, rfl⟩
        obtain ⟨A, B, C, L⟩ := HA.out
        generalize (((w.alloc (.cells #[.int .i64 r.x, .int .i64 r.y, .int .i64 r.w, .int .i64 r.h] 32)).alloc (.cells (#[.int .u8 (k.has : Nat), .int .u8 k.r, .int .u8 k.g, .int .u8 k.b, .int .u8 k.a, .int .u8 k.r2, .int .u8 k.g2, .int .u8 k.b2, .int .u8 k.a2, .bool k.bd, .int .i64 k.pad]) 36)).alloc (.cells #[.int .i64 0, .int .i64 0, .int .i64 0, .int .i64 0] 32)).alloc (.cells (#[.int .u8 (k.has : Nat), .int .u8 k.r, .int .u8 k.g, .int .u8 k.b, .int .u8 k.a, .int .u8 k.r2, .int .u8 k.g2, .int .u8 k.b2, .int .u8 k.a2, .bool k.bd, .int .i64 k.pad]) 36) = V at *
        obtain ⟨a0, a1, a2, a3⟩ := A.at4
        have HB : Hid (Blk V w.heap.size #[.int .i64 r.x, .int .i64 r.y, .int .i64 r.w, .int .i64 r.h] 32 ∧ Blk V (w.heap.size + 1) (#[.int .u8 (k.has : Nat), .int .u8 k.r, .int .u8 k.g, .int .u8 k.b, .int .u8 k.a, .int .u8 k.r2, .int .u8 k.g2, .int .u8 k.b2, .int .u8 k.a2, .bool k.bd, .int .i64 k.pad]) 36 ∧ Blk V (w.heap.size + 1 + 1) #[.int .i64 0, .int .i64 0, .int .i64 0, .int .i64 0] 32 ∧ Below w.heap.size w V) := ⟨A, B, C, L⟩
        clear A B C L HA
        go_wp2_with fail
        refine (HI.out _).mono ?_
        rintro e w1 ⟨rfl, hb⟩
        obtain ⟨A, B, C, L⟩ := HB.out
        replace A := A.below hb
        replace B := B.below hb
        replace C := C.below hb
        replace L := L.trans (hb.mono L.size)
        obtain ⟨d0, d1, d2, d3⟩ := A.at4
        obtain ⟨c0, c1, c2, c3⟩ := C.at4
        have fc := C.frozen
        have fa := A.frozen
        have k0 := B.look.1
        have HL : Hid (Below w.heap.size w w1) := L
        clear A B C L hb HB a0 a1 a2 a3
        go_wp2
        exact bodyPost_ret (v := .agg #[.int .i64 q.x, .int .i64 q.y, .int .i64 q.w, .int .i64 q.h]) (by simp [results, Tryz.results211, go_sem, c0, c1, c2, c3]) rfl ⟨rfl, set4_below (set4_below HL.out (Nat.le_refl _) _ _ _ _) (le2 _) _ _ _ _⟩
      · have l2 : lefR r k = insR (insR r.x r.y r.w r.h 1).x (insR r.x r.y r.w r.h 1).y (insR r.x r.y r.w r.h 1).w (insR r.x r.y r.w r.h 1).h k.pad := by simp [lefR, e2, l1]
        rw [l2]
        generalize insR r.x r.y r.w r.h 1 = q at *
        generalize insE r.x r.y r.w r.h 1 = q2 at *
        generalize insR q.x q.y q.w q.h k.pad = p at *
        generalize insE q.x q.y q.w q.h k.pad = p2 at *
        clear e1 e2 l1 l2
        go_enter Tryz.func211, Tryz.ntmps211
        go_wp2_with fail
        refine (HF.out _).mono ?_
        rintro e w1 ⟨rfl, rfl⟩
        obtain ⟨A, B, C, L⟩ := HA.out
        generalize (((w.alloc (.cells #[.int .i64 r.x, .int .i64 r.y, .int .i64 r.w, .int .i64 r.h] 32)).alloc (.cells (#[.int .u8 (k.has : Nat), .int .u8 k.r, .int .u8 k.g, .int .u8 k.b, .int .u8 k.a, .int .u8 k.r2, .int .u8 k.g2, .int .u8 k.b2, .int .u8 k.a2, .bool k.bd, .int .i64 k.pad]) 36)).alloc (.cells #[.int .i64 0, .int .i64 0, .int .i64 0, .int .i64 0] 32)).alloc (.cells (#[.int .u8 (k.has : Nat), .int .u8 k.r, .int .u8 k.g, .int .u8 k.b, .int .u8 k.a, .int .u8 k.r2, .int .u8 k.g2, .int .u8 k.b2, .int .u8 k.a2, .bool k.bd, .int .i64 k.pad]) 36) = V at *
        obtain ⟨a0, a1, a2, a3⟩ := A.at4
        have HB : Hid (Blk V w.heap.size #[.int .i64 r.x, .int .i64 r.y, .int .i64 r.w, .int .i64 r.h] 32 ∧ Blk V (w.heap.size + 1) (#[.int .u8 (k.has : Nat), .int .u8 k.r, .int .u8 k.g, .int .u8 k.b, .int .u8 k.a, .int .u8 k.r2, .int .u8 k.g2, .int .u8 k.b2, .int .u8 k.a2, .bool k.bd, .int .i64 k.pad]) 36 ∧ Blk V (w.heap.size + 1 + 1) #[.int .i64 0, .int .i64 0, .int .i64 0, .int .i64 0] 32 ∧ Below w.heap.size w V) := ⟨A, B, C, L⟩
        clear A B C L HA
        go_wp2_with fail
        refine (HI.out _).mono ?_
        rintro e w1 ⟨rfl, hb⟩
        obtain ⟨A, B, C, L⟩ := HB.out
        replace A := A.below hb
        replace B := B.below hb
        replace C := C.below hb
        replace L := L.trans (hb.mono L.size)
        obtain ⟨d0, d1, d2, d3⟩ := A.at4
        have fa := A.frozen
        have k0 := B.look.1
        have k10 := B.look.2.2.2.2.2.2.2.2.2.2
        have HB : Hid (Blk w1 w.heap.size #[.int .i64 r.x, .int .i64 r.y, .int .i64 r.w, .int .i64 r.h] 32 ∧ Blk w1 (w.heap.size + 1 + 1) #[.int .i64 0, .int .i64 0, .int .i64 0, .int .i64 0] 32 ∧ Below w.heap.size w w1) := ⟨A, C, L⟩
        clear A B C L hb a0 a1 a2 a3
        go_wp2_with fail
        have A := HB.out.1.put4 (.int .i64 q.x) (.int .i64 q.y) (.int .i64 q.w) (.int .i64 q.h)
        have C := (((HB.out.2.1.other ⟨w.heap.size, 0, none⟩ (.int .i64 q.x) (by show w.heap.size ≠ _; omega)).other ⟨w.heap.size, 1, none⟩ (.int .i64 q.y) (by show w.heap.size ≠ _; omega)).other ⟨w.heap.size, 2, none⟩ (.int .i64 q.w) (by show w.heap.size ≠ _; omega)).other ⟨w.heap.size, 3, none⟩ (.int .i64 q.h) (by show w.heap.size ≠ _; omega)
        have L := set4_below HB.out.2.2 (Nat.le_refl w.heap.size) (.int .i64 q.x) (.int .i64 q.y) (.int .i64 q.w) (.int .i64 q.h)
        refine (HJ.out _).mono ?_
        rintro e w2 ⟨rfl, hb⟩
        replace A := A.below hb
        replace C := C.below hb
        replace L := L.trans (hb.mono L.size)
        obtain ⟨e0, e1, e2, e3⟩ := A.at4
        obtain ⟨c0, c1, c2, c3⟩ := C.at4
        have fc := C.frozen
        have fa2 := A.frozen
        have HL : Hid (Below w.heap.size w w2) := L
        clear A C L hb HB d0 d1 d2 d3 k0 k10 fa
        go_wp2
        exact bodyPost_ret (v := .agg #[.int .i64 p.x, .int .i64 p.y, .int .i64 p.w, .int .i64 p.h]) (by simp [results, Tryz.results211, go_sem, c0, c1, c2, c3]) rfl ⟨rfl, set4_below (set4_below HL.out (Nat.le_refl _) _ _ _ _) (le2 _) _ _ _ _⟩
  exact main _ _ rfl rfl

end Go.Proofs.YtbnbfgkcndomaabGreatDoor

namespace Go.Proofs.YtbnbfgkcndomaabGreatDoor
open Go.RowKit

/-- A stroke. -/
structure Sk where
  kind : Int
  x : Int
  y : Int
  n : Int
  m : Int
  c0 : Int
  c1 : Int
  c2 : Int
  c3 : Int
  b0 : Int
  b1 : Int
  b2 : Int
  b3 : Int
  tx : ByteArray
  nd : Int
def Sk.vals (s : Sk) : List Value := [.int .u8 s.kind, .int .i64 s.x, .int .i64 s.y, .int .i64 s.n, .int .i64 s.m, .int .u8 s.c0, .int .u8 s.c1, .int .u8 s.c2, .int .u8 s.c3, .int .u8 s.b0, .int .u8 s.b1, .int .u8 s.b2, .int .u8 s.b3, .string s.tx, .int .i64 s.nd]
def flatS (l : List Sk) : List Value := (l.map Sk.vals).flatten
theorem flatS_app (a b : List Sk) : flatS (a ++ b) = flatS a ++ flatS b := by simp [flatS]
theorem flatS_one (a : Sk) : flatS [a] = a.vals := by simp [flatS]

def filK (r : Rc) (k : Lk) : Sk := ⟨1, r.x, r.y, r.w, r.h, k.r2, k.g2, k.b2, k.a2, 0, 0, 0, 0, ⟨#[]⟩, 0⟩
def fraK (r : Rc) (k : Lk) : Sk := ⟨2, r.x, r.y, r.w, r.h, coR k, coG k, coB k, coA k, 0, 0, 0, 0, ⟨#[]⟩, 0⟩
def wriK (tx : ByteArray) (r : Rc) (k : Lk) : Sk := ⟨3, (lefR r k).x, (lefR r k).y, (lefR r k).w, (lefR r k).h, coR k, coG k, coB k, coA k, bkR k, bkG k, bkB k, bkA k, tx, 0⟩
def filS (r : Rc) (k : Lk) : List Sk := if hb k 2 then [filK r k] else []
def fraS (r : Rc) (k : Lk) : List Sk := if frmB k then [fraK r k] else []
def wriB (tx : ByteArray) (r : Rc) (k : Lk) : Bool := !(tx.size == 0) && !emptyB (lefR r k).x (lefR r k).y (lefR r k).w (lefR r k).h
def wriS (tx : ByteArray) (r : Rc) (k : Lk) : List Sk := if wriB tx r k then [wriK tx r k] else []
/-- What is painted. -/
def paiL (tx : ByteArray) (r : Rc) (k : Lk) : List Sk := if emptyB r.x r.y r.w r.h then [] else filS r k ++ fraS r k ++ wriS tx r k

theorem s_add_at (g j : Nat) : (⟨g, 0, none⟩ : Addr).add j = ⟨g, j, none⟩ := by
  simp [Addr.add]
  intro h
  exact h.symm
theorem cellL (w : World) (l : List Value) (t : TypeId) : ∀ (j : Nat) (u : Value), l[j]? = some u → (w.alloc (.cells l.toArray t)).cell? ((⟨w.heap.size, 0, none⟩ : Addr).add j) = some u := by
  intro j u hj
  rw [s_add_at, (Blk.new w l.toArray t).cell j]
  simpa using hj
theorem cellB1 {w : World} {g : Nat} (l : List Value) {t : TypeId} (h : Blk w g l.toArray t) : ∀ (j : Nat) (u : Value), l[j]? = some u → w.cell? ((⟨g, 0, none⟩ : Addr).add j) = some u := by
  intro j u hj
  rw [s_add_at, h.cell j]
  simpa using hj
theorem oneS (s : Sk) : ∀ u ∈ s.vals, u.oneCell' = true := by
  intro u hu
  simp only [Sk.vals, List.mem_cons, List.not_mem_nil, or_false] at hu
  rcases hu with rfl | rfl | rfl | rfl | rfl | rfl | rfl | rfl | rfl | rfl | rfl | rfl | rfl | rfl | rfl <;> rfl
theorem s_row_below {w w1 : World} {base : Nat} {e : TypeId} {size : Nat} {v : Value} {n : Nat} {xs : List Value} (h : w.ownsRow base e size v n xs) (hb : Below w.heap.size w w1) : w1.ownsRow base e size v n xs := by
  refine ⟨h.1, ?_⟩
  rcases h.2 with h' | ⟨g, cap, cur, h1, h2, hg, rest⟩
  · exact .inl h'
  · exact .inr ⟨g, cap, cur, h1, h2, by rw [hb.block g (Array.getElem?_eq_some_iff.1 hg).1]; exact hg, rest⟩
theorem info_stroke : (Tryz.prog.info? 86).map (fun i => (i.zero, i.size, i.bytes)) = some (some (.agg #[.int .u8 0, .int .i64 0, .int .i64 0, .int .i64 0, .int .i64 0, .int .u8 0, .int .u8 0, .int .u8 0, .int .u8 0, .int .u8 0, .int .u8 0, .int .u8 0, .int .u8 0, .string ByteArray.empty, .int .i64 0]), 15, 72) := by kernel_rfl
theorem info_three {P : Program} {t : TypeId} {z : Value} {s b : Nat} (h : (P.info? t).map (fun i => (i.zero, i.size, i.bytes)) = some (some z, s, b)) : ∃ i, P.info? t = some i ∧ i.zero = some z ∧ i.size = s ∧ i.bytes = b := by
  cases hi : P.info? t with
  | none => rw [hi] at h; simp at h
  | some i => rw [hi] at h; simp at h; exact ⟨i, rfl, h.1, h.2.1, h.2.2⟩

theorem s_txt_list (t : ByteArray) : t.toList = t.data.toList := by first | exact ByteArray.toList_eq t | exact Lib.toList_data t | simp
theorem s_txt_ne {t : ByteArray} (h : t.size ≠ 0) : ¬ (t = ByteArray.empty) ∧ t.toList.isEmpty = false := by
  refine ⟨by rintro rfl; exact h rfl, ?_⟩
  rw [s_txt_list]
  cases hd : t.data.toList with
  | nil => exact absurd (congrArg List.length hd) (by rw [Array.length_toList]; exact h)
  | cons _ _ => rfl
theorem s_txt_nil {t : ByteArray} (h : t.size = 0) : t = ByteArray.empty := by
  obtain ⟨d⟩ := t
  have : d = #[] := Array.eq_empty_of_size_eq_zero h
  rw [this]; rfl
theorem lef_i64 (r : Rc) (k : Lk) (hx : I64 r.x) (hy : I64 r.y) : I64 (lefR r k).x ∧ I64 (lefR r k).y := by
  have h1 : I64 (lef1 r k).x ∧ I64 (lef1 r k).y := by
    unfold lef1; split
    · have := ins_small r.x r.y r.w r.h 1
      exact ⟨⟨by omega, by omega⟩, ⟨by omega, by omega⟩⟩
    · exact ⟨hx, hy⟩
  unfold lefR; split
  · have := ins_small (lef1 r k).x (lef1 r k).y (lef1 r k).w (lef1 r k).h k.pad
    exact ⟨⟨by omega, by omega⟩, ⟨by omega, by omega⟩⟩
  · exact h1

/-- What lies there while strokes are gathered. -/
structure StW (w : World) (tx : ByteArray) (r : Rc) (k : Lk) (W : World) : Prop where
  t : Blk W w.heap.size #[.string tx] 199
  r : Blk W (w.heap.size + 1) #[.int .i64 r.x, .int .i64 r.y, .int .i64 r.w, .int .i64 r.h] 32
  k : Blk W (w.heap.size + 1 + 1) (#[.int .u8 (k.has : Nat), .int .u8 k.r, .int .u8 k.g, .int .u8 k.b, .int .u8 k.a, .int .u8 k.r2, .int .u8 k.g2, .int .u8 k.b2, .int .u8 k.a2, .bool k.bd, .int .i64 k.pad]) 36
  b : Below w.heap.size w W
theorem StW.below {w : World} {tx : ByteArray} {r : Rc} {k : Lk} {W W' : World} (h : StW w tx r k W) (hb : Below W.heap.size W W') : StW w tx r k W' := ⟨h.t.below hb, h.r.below hb, h.k.below hb, h.b.trans (hb.mono h.b.size)⟩
theorem StW.alloc {w : World} {tx : ByteArray} {r : Rc} {k : Lk} {W : World} (h : StW w tx r k W) (o : Obj) : StW w tx r k (W.alloc o) := h.below ((Below.refl _ _).alloc (Nat.le_refl _) o)
theorem StW.size {w : World} {tx : ByteArray} {r : Rc} {k : Lk} {W : World} (h : StW w tx r k W) : w.heap.size + 3 ≤ W.heap.size := h.k.lt
theorem StW.grown {w : World} {tx : ByteArray} {r : Rc} {k : Lk} {W W' : World} {v : Value} {n : Nat} {xs : List Value} {e : TypeId} {s : Nat} (h : StW w tx r k W) (ho : W.ownsRow (w.heap.size + 3) e s v n xs) (hg : W.grownBy W' v.ownBlock) : StW w tx r k W' := by
  have hne : ∀ j, j < w.heap.size + 3 → some j ≠ v.ownBlock := fun j hj he => by
    have := (ho.lt j he.symm).1
    omega
  refine ⟨(hg.block _ h.t.lt (hne _ (by omega))).trans h.t, (hg.block _ h.r.lt (hne _ (by omega))).trans h.r, (hg.block _ h.k.lt (hne _ (by omega))).trans h.k, ?_⟩
  exact h.b.grown hg h.b.size (fun b hb => by have := (ho.lt b hb).1; omega)

theorem paint_start (w : World) (tx : ByteArray) (r : Rc) (k : Lk) : StW w tx r k (((w.alloc (.cells #[.string tx] 199)).alloc (.cells #[.int .i64 r.x, .int .i64 r.y, .int .i64 r.w, .int .i64 r.h] 32)).alloc (.cells (#[.int .u8 (k.has : Nat), .int .u8 k.r, .int .u8 k.g, .int .u8 k.b, .int .u8 k.a, .int .u8 k.r2, .int .u8 k.g2, .int .u8 k.b2, .int .u8 k.a2, .bool k.bd, .int .i64 k.pad]) 36)) := by
  have B := Blk.new (w.alloc (.cells #[.string tx] 199)) #[.int .i64 r.x, .int .i64 r.y, .int .i64 r.w, .int .i64 r.h] 32
  have C := Blk.new ((w.alloc (.cells #[.string tx] 199)).alloc (.cells #[.int .i64 r.x, .int .i64 r.y, .int .i64 r.w, .int .i64 r.h] 32)) (#[.int .u8 (k.has : Nat), .int .u8 k.r, .int .u8 k.g, .int .u8 k.b, .int .u8 k.a, .int .u8 k.r2, .int .u8 k.g2, .int .u8 k.b2, .int .u8 k.a2, .bool k.bd, .int .i64 k.pad]) 36
  simp only [World.size_alloc] at B C
  exact ⟨((Blk.new _ _ _).alloc _).alloc _, B.alloc _, C, (((Below.refl _ w).alloc (Nat.le_refl _) _).alloc (by simp) _).alloc (by simp; omega) _⟩

set_option maxRecDepth 10000 in
set_option maxHeartbeats 4000000 in
theorem painting_any (tx : ByteArray) (r : Rc) (k : Lk) (w : World) (hx : I64 r.x) (hy : I64 r.y) :
    Calls Tryz.prog 206 #[.agg #[.string tx], .agg #[.int .i64 r.x, .int .i64 r.y, .int .i64 r.w, .int .i64 r.h], (Value.agg #[.int .u8 (k.has : Nat), .int .u8 k.r, .int .u8 k.g, .int .u8 k.b, .int .u8 k.a, .int .u8 k.r2, .int .u8 k.g2, .int .u8 k.b2, .int .u8 k.a2, .bool k.bd, .int .i64 k.pad])] w fun e w' => ∃ v, e = .returned v ∧ w'.ownsRow (w.heap.size + 3) 86 15 v (paiL tx r k).length (flatS (paiL tx r k)) ∧ Below w.heap.size w w' := by
  have HS := paint_start w tx r k
  have hE := empty_any r.x r.y r.w r.h (((w.alloc (.cells #[.string tx] 199)).alloc (.cells #[.int .i64 r.x, .int .i64 r.y, .int .i64 r.w, .int .i64 r.h] 32)).alloc (.cells (#[.int .u8 (k.has : Nat), .int .u8 k.r, .int .u8 k.g, .int .u8 k.b, .int .u8 k.a, .int .u8 k.r2, .int .u8 k.g2, .int .u8 k.b2, .int .u8 k.a2, .bool k.bd, .int .i64 k.pad]) 36)) hx hy
  have HF : Hid (∀ W, Calls Tryz.prog 209 #[(Value.agg #[.int .u8 (k.has : Nat), .int .u8 k.r, .int .u8 k.g, .int .u8 k.b, .int .u8 k.a, .int .u8 k.r2, .int .u8 k.g2, .int .u8 k.b2, .int .u8 k.a2, .bool k.bd, .int .i64 k.pad])] W fun e w' => e = .returned (.bool (frmB k)) ∧ w' = W.alloc (.cells (#[.int .u8 (k.has : Nat), .int .u8 k.r, .int .u8 k.g, .int .u8 k.b, .int .u8 k.a, .int .u8 k.r2, .int .u8 k.g2, .int .u8 k.b2, .int .u8 k.a2, .bool k.bd, .int .i64 k.pad]) 36)) := fun W => framed_any k W
  have HC : Hid (∀ W, Calls Tryz.prog 210 #[(Value.agg #[.int .u8 (k.has : Nat), .int .u8 k.r, .int .u8 k.g, .int .u8 k.b, .int .u8 k.a, .int .u8 k.r2, .int .u8 k.g2, .int .u8 k.b2, .int .u8 k.a2, .bool k.bd, .int .i64 k.pad])] W fun e w' => e = .returned (.agg #[.int .u8 (coR k), .int .u8 (coG k), .int .u8 (coB k), .int .u8 (coA k)]) ∧ Below W.heap.size W w') := fun W => colourOf_any k W
  have HB : Hid (∀ W, Calls Tryz.prog 212 #[(Value.agg #[.int .u8 (k.has : Nat), .int .u8 k.r, .int .u8 k.g, .int .u8 k.b, .int .u8 k.a, .int .u8 k.r2, .int .u8 k.g2, .int .u8 k.b2, .int .u8 k.a2, .bool k.bd, .int .i64 k.pad])] W fun e w' => e = .returned (.agg #[.int .u8 (bkR k), .int .u8 (bkG k), .int .u8 (bkB k), .int .u8 (bkA k)]) ∧ Below W.heap.size W w') := fun W => backOf_any k W
  have HL : Hid (∀ W, Calls Tryz.prog 211 #[.agg #[.int .i64 r.x, .int .i64 r.y, .int .i64 r.w, .int .i64 r.h], (Value.agg #[.int .u8 (k.has : Nat), .int .u8 k.r, .int .u8 k.g, .int .u8 k.b, .int .u8 k.a, .int .u8 k.r2, .int .u8 k.g2, .int .u8 k.b2, .int .u8 k.a2, .bool k.bd, .int .i64 k.pad])] W fun e w' => e = .returned (.agg #[.int .i64 (lefR r k).x, .int .i64 (lefR r k).y, .int .i64 (lefR r k).w, .int .i64 (lefR r k).h]) ∧ Below W.heap.size W w') := fun W => leftOf_any r k W hx hy
  have HE : Hid (∀ W, Calls Tryz.prog 208 #[.agg #[.int .i64 (lefR r k).x, .int .i64 (lefR r k).y, .int .i64 (lefR r k).w, .int .i64 (lefR r k).h]] W fun e w' => e = .returned (.bool (emptyB (lefR r k).x (lefR r k).y (lefR r k).w (lefR r k).h)) ∧ Below W.heap.size W w') := fun W => empty_any _ _ _ _ W (lef_i64 r k hx hy).1 (lef_i64 r k hx hy).2
  have HS0 : Hid (StW w tx r k (((w.alloc (.cells #[.string tx] 199)).alloc (.cells #[.int .i64 r.x, .int .i64 r.y, .int .i64 r.w, .int .i64 r.h] 32)).alloc (.cells (#[.int .u8 (k.has : Nat), .int .u8 k.r, .int .u8 k.g, .int .u8 k.b, .int .u8 k.a, .int .u8 k.r2, .int .u8 k.g2, .int .u8 k.b2, .int .u8 k.a2, .bool k.bd, .int .i64 k.pad]) 36))) := HS
  obtain ⟨i0, hi, hz0, hz1, hz2⟩ := info_three info_stroke
  have HI : Hid (Tryz.prog.info? 86 = some i0 ∧ i0.zero = some (.agg #[.int .u8 0, .int .i64 0, .int .i64 0, .int .i64 0, .int .i64 0, .int .u8 0, .int .u8 0, .int .u8 0, .int .u8 0, .int .u8 0, .int .u8 0, .int .u8 0, .int .u8 0, .string ByteArray.empty, .int .i64 0]) ∧ i0.size = 15 ∧ i0.bytes = 72) := ⟨hi, hz0, hz1, hz2⟩
  clear HS hx hy hi hz0 hz1 hz2
  cases hem : emptyB r.x r.y r.w r.h
  · have hp : paiL tx r k = filS r k ++ fraS r k ++ wriS tx r k := by simp [paiL, hem]
    rw [hp]
    rw [hem] at hE
    clear hp hem
    go_enter Tryz.func206, Tryz.ntmps206
    go_wp2_with fail
    refine hE.mono ?_
    rintro e w1 ⟨rfl, hbe⟩
    have S1 : Hid (StW w tx r k w1) := HS0.out.below hbe
    clear hbe hE HS0
    have k0 := S1.out.k.look.1
    go_upto_if 14 with fail
    go_cut [7] (fun s7 wx => wx.ownsRow (w.heap.size + 3) 86 15 s7 (filS r k).length (flatS (filS r k)) ∧ Hid (StW w tx r k wx))
    case first =>
      cases h2 : hb k 2
      · have hf : Hid (filS r k = []) := by unfold Hid; simp [filS, h2]
        have h' : (bits .and .u8 ((k.has : Nat) : Int) 2 != 0) = false := h2
        clear h2
        go_wp2_with fail
        go_meet
        rw [hf.out]
        exact ⟨World.ownsRow_nil _ _ _ _, S1⟩
      · have hf : Hid (filS r k = [filK r k]) := by unfold Hid; simp [filS, h2]
        have h' : (bits .and .u8 ((k.has : Nat) : Int) 2 != 0) = true := h2
        clear h2
        obtain ⟨hi, hz0, hz1, hz2⟩ := HI.out
        have hc5 : Hid (∀ o1, w.heap.size + 3 ≤ (w1.alloc o1).heap.size) := by intro o1; have := S1.out.size; simp; omega
        obtain ⟨a0, a1, a2, a3⟩ := S1.out.r.at4
        obtain ⟨_, _, _, _, _, k5, k6, k7, k8, _, _⟩ := S1.out.k.look
        go_wp2_with (at_builtin; refine wpList_append_own _ rfl _ _ 82 rfl (w.heap.size + 3) 86 i0 (.agg #[.int .u8 0, .int .i64 0, .int .i64 0, .int .i64 0, .int .i64 0, .int .u8 0, .int .u8 0, .int .u8 0, .int .u8 0, .int .u8 0, .int .u8 0, .int .u8 0, .int .u8 0, .string ByteArray.empty, .int .i64 0]) 15 72 Tryz.underlying82 hi hz0 hz1 hz2 rfl (by decide) (.slice none 0 0) 0 [] rfl (World.ownsRow_nil _ _ _ _) _ 1 1 (filK r k).vals rfl rfl (cellL _ _ _) (oneS _) (by decide) (by decide) (hc5.out _) ?_)
        intro v' w4 hown' hgrow _
        have S4 : Hid (StW w tx r k w4) := (S1.out.alloc _).grown (World.ownsRow_nil _ _ 86 15) hgrow
        have O4 : Hid (w4.ownsRow (w.heap.size + 3) 86 15 v' 1 (filK r k).vals) := by unfold Hid; simpa using hown'
        clear hown' hgrow hi hz0 hz1 hz2 a0 a1 a2 a3 k5 k6 k7 k8
        go_wp2_with fail
        go_meet
        rw [hf.out, flatS_one]
        exact ⟨O4.out, S4⟩
    case rest =>
      obtain ⟨o1, S2⟩ := hcut
      have O2 : Hid (wc.ownsRow (w.heap.size + 3) 86 15 u7 (filS r k).length (flatS (filS r k))) := o1
      clear o1 S1 k0
      have lf : Hid ((filS r k).length ≤ 1) := by unfold Hid filS; split <;> simp
      obtain ⟨k0, k1, k2, k3, k4, k5, k6, k7, k8, k9, k10⟩ := S2.out.k.look
      go_wp2_with fail
      refine (HF.out _).mono ?_
      rintro e w2 ⟨rfl, rfl⟩
      clear k0 k1 k2 k3 k4 k5 k6 k7 k8 k9 k10
      have S3 : Hid (StW w tx r k (wc.alloc (.cells (#[.int .u8 (k.has : Nat), .int .u8 k.r, .int .u8 k.g, .int .u8 k.b, .int .u8 k.a, .int .u8 k.r2, .int .u8 k.g2, .int .u8 k.b2, .int .u8 k.a2, .bool k.bd, .int .i64 k.pad]) 36))) := S2.out.alloc _
      have O3 : Hid ((wc.alloc (.cells (#[.int .u8 (k.has : Nat), .int .u8 k.r, .int .u8 k.g, .int .u8 k.b, .int .u8 k.a, .int .u8 k.r2, .int .u8 k.g2, .int .u8 k.b2, .int .u8 k.a2, .bool k.bd, .int .i64 k.pad]) 36)).ownsRow (w.heap.size + 3) 86 15 u7 (filS r k).length (flatS (filS r k))) := O2.out.alloc _
      clear S2 O2
      go_upto_if 23 with fail
      generalize wc.alloc (.cells (#[.int .u8 (k.has : Nat), .int .u8 k.r, .int .u8 k.g, .int .u8 k.b, .int .u8 k.a, .int .u8 k.r2, .int .u8 k.g2, .int .u8 k.b2, .int .u8 k.a2, .bool k.bd, .int .i64 k.pad]) 36) = W3 at *
      go_cut [7] (fun s7 wx => wx.ownsRow (w.heap.size + 3) 86 15 s7 (filS r k ++ fraS r k).length (flatS (filS r k ++ fraS r k)) ∧ Hid (StW w tx r k wx))
      case first =>
        cases h2 : frmB k
        · have hf : Hid (fraS r k = []) := by unfold Hid; simp [fraS, h2]
          clear h2
          go_wp2_with fail
          go_meet
          rw [hf.out, List.append_nil]
          exact ⟨O3.out, S3⟩
        · have hf : Hid (fraS r k = [fraK r k]) := by unfold Hid; simp [fraS, h2]
          clear h2
          go_upto_region 7 with fail
          refine R3.wp_region_lit 5 1 2 (fun _ b => .slice (some ⟨b, 0, none⟩) 1 1) (fun _ => .cells (fraK r k).vals.toArray 86) [29] (by kernel_rfl) (by kernel_rfl) rfl ?_ rfl ?_
          · intro k hk
            have hc : k = 0 := by omega
            subst hc; rfl
          apply Exists.intro
          refine ⟨fun bs ne => ?_, ?_, ?_⟩
          · have a0 := fun t : Gb W3 bs => (S3.out.below t.below).r.at4.1
            have a1 := fun t : Gb W3 bs => (S3.out.below t.below).r.at4.2.1
            have a2 := fun t : Gb W3 bs => (S3.out.below t.below).r.at4.2.2.1
            have a3 := fun t : Gb W3 bs => (S3.out.below t.below).r.at4.2.2.2
            have q := fun t : Gb W3 bs => (S3.out.below t.below).k.look
            have k0 := fun t : Gb W3 bs => (q t).1
            have k1 := fun t : Gb W3 bs => (q t).2.1
            have k2 := fun t : Gb W3 bs => (q t).2.2.1
            have k3 := fun t : Gb W3 bs => (q t).2.2.2.1
            have k4 := fun t : Gb W3 bs => (q t).2.2.2.2.1
            have k5 := fun t : Gb W3 bs => (q t).2.2.2.2.2.1
            have k6 := fun t : Gb W3 bs => (q t).2.2.2.2.2.2.1
            have k7 := fun t : Gb W3 bs => (q t).2.2.2.2.2.2.2.1
            have k8 := fun t : Gb W3 bs => (q t).2.2.2.2.2.2.2.2.1
            have k9 := fun t : Gb W3 bs => (q t).2.2.2.2.2.2.2.2.2.1
            have k10 := fun t : Gb W3 bs => (q t).2.2.2.2.2.2.2.2.2.2
            clear q
            simp only [List.take_succ_cons, List.take_zero]
            repeat (go_big_quiet_step (first | (go_at_call 210; exact gb_call (HC.out _))))
            exact wpQuiet_nil rfl
          · intro i h1 h2
            have hc : i = 5 := by omega
            subst hc
            exact ⟨_, rfl, rfl, fun _ => by kernel_rfl⟩
          intro bl wr hbl hlo _
          obtain ⟨q1, q2⟩ := hlo 5 (by omega) (by omega)
          simp only [R3.layL]
          generalize bl 5 = g0 at *
          clear hlo
          have S4 : Hid (StW w tx r k wr) := S3.out.below hbl
          have O4 := s_row_below O3.out hbl
          obtain ⟨hi, hz0, hz1, hz2⟩ := HI.out
          refine wpAny_one 6 (by kernel_rfl) rfl ?_
          intro K hK
          refine step_append_lies wr (by rfl) _ _ 82 (by rfl) (w.heap.size + 3) 86 i0 (.agg #[.int .u8 0, .int .i64 0, .int .i64 0, .int .i64 0, .int .i64 0, .int .u8 0, .int .u8 0, .int .u8 0, .int .u8 0, .int .u8 0, .int .u8 0, .int .u8 0, .int .u8 0, .string ByteArray.empty, .int .i64 0]) 15 72 Tryz.underlying82 hi hz0 hz1 hz2 rfl (by decide) u7 (filS r k).length (flatS (filS r k)) (by rfl) O4 ⟨g0, 0, none⟩ 1 1 (fraK r k).vals (by rfl) rfl (cellB1 _ q2) (oneS _) (by decide) (by have := lf.out; unfold maxLen; omega) (by have := lf.out; omega) S4.out.size wr.heap.size rfl ?_
          intro h0 cap0 X1 hown hgrow _ _
          have S5 : Hid (StW w tx r k X1) := S4.out.grown O4 hgrow
          have O5 : Hid (X1.ownsRow (w.heap.size + 3) 86 15 (.slice (some ⟨h0, 0, none⟩) ((filS r k).length + 1) cap0) ((filS r k).length + 1) (flatS (filS r k) ++ (fraK r k).vals)) := hown
          clear hown hgrow O4 S4 q1 q2 hbl hi hz0 hz1 hz2
          refine hK _ _ ?_
          clear hK K
          refine wpAny_one 7 (by kernel_rfl) rfl ?_
          intro K hK
          go_simp
          refine hK _ _ ?_
          clear hK K
          refine wpAny_done (by kernel_rfl) ?_ _
          go_wp2_with fail
          go_meet
          rw [hf.out, flatS_app, flatS_one, List.length_append, List.length_singleton]
          exact ⟨O5.out, S5⟩
      case rest =>
        obtain ⟨o1, S4⟩ := hcut
        have O4 : Hid (wc.ownsRow (w.heap.size + 3) 86 15 u7 (filS r k ++ fraS r k).length (flatS (filS r k ++ fraS r k))) := o1
        clear o1 S3 O3
        have lf2 : Hid ((filS r k ++ fraS r k).length ≤ 2) := by
          unfold Hid fraS
          rw [List.length_append]
          have := lf.out
          split <;> simp <;> omega
        obtain ⟨F, hF⟩ : ∃ F, filS r k ++ fraS r k = F := ⟨_, rfl⟩
        rw [hF] at O4 lf2
        have HQ : Hid (filS r k ++ fraS r k = F) := hF
        clear hF
        obtain ⟨a0, a1, a2, a3⟩ := S4.out.r.at4
        obtain ⟨k0, k1, k2, k3, k4, k5, k6, k7, k8, k9, k10⟩ := S4.out.k.look
        go_wp2_with fail
        refine (HL.out _).mono ?_
        rintro e w5 ⟨rfl, hb5⟩
        clear a0 a1 a2 a3 k0 k1 k2 k3 k4 k5 k6 k7 k8 k9 k10
        have S5 : Hid (StW w tx r k w5) := S4.out.below hb5
        have O5 : Hid (w5.ownsRow (w.heap.size + 3) 86 15 u7 F.length (flatS F)) := s_row_below O4.out hb5
        clear hb5 S4 O4
        have t0 := S5.out.t.at1
        have s5 : w.heap.size < w5.heap.size := S5.out.t.lt
        by_cases hz : tx.size = 0
        · have hw : Hid (wriS tx r k = []) := by unfold Hid; simp [wriS, wriB, hz]
          obtain rfl := s_txt_nil hz
          clear hz
          go_wp2
          go_ret
          rw [HQ.out, hw.out, List.append_nil]
          exact ⟨_, rfl, O5.out.alloc _, (S5.out.alloc _).b⟩
        · obtain ⟨n1, n2⟩ := s_txt_ne hz
          cases hem : emptyB (lefR r k).x (lefR r k).y (lefR r k).w (lefR r k).h
          · have hw : Hid (wriS tx r k = [wriK tx r k]) := by unfold Hid; simp [wriS, wriB, hz, hem]
            rw [hem] at HE
            clear hem hz
            go_wp2_with fail
            refine (HE.out _).mono ?_
            rintro e w6 ⟨rfl, hb6⟩
            have S6 : Hid (StW w tx r k w6) := (S5.out.alloc _).below hb6
            have O6 : Hid (w6.ownsRow (w.heap.size + 3) 86 15 u7 F.length (flatS F)) := s_row_below (O5.out.alloc _) hb6
            have G6 : Hid (Blk w6 w5.heap.size #[.int .i64 (lefR r k).x, .int .i64 (lefR r k).y, .int .i64 (lefR r k).w, .int .i64 (lefR r k).h] 32) := (Blk.new _ _ _).below hb6
            clear hb6 S5 O5 n1 n2 t0 s5
            go_upto_region 10 with fail
            generalize w5.heap.size = g8 at *
            refine R3.wp_region_lit 9 1 2 (fun _ b => .slice (some ⟨b, 0, none⟩) 1 1) (fun _ => .cells (wriK tx r k).vals.toArray 86) [51] (by kernel_rfl) (by kernel_rfl) rfl ?_ rfl ?_
            · intro k hk
              have hc : k = 0 := by omega
              subst hc; rfl
            apply Exists.intro
            refine ⟨fun bs ne => ?_, ?_, ?_⟩
            · have a0 := fun t : Gb w6 bs => (G6.out.below t.below).at4.1
              have a1 := fun t : Gb w6 bs => (G6.out.below t.below).at4.2.1
              have a2 := fun t : Gb w6 bs => (G6.out.below t.below).at4.2.2.1
              have a3 := fun t : Gb w6 bs => (G6.out.below t.below).at4.2.2.2
              have t0 := fun t : Gb w6 bs => (S6.out.below t.below).t.at1
              have q := fun t : Gb w6 bs => (S6.out.below t.below).k.look
              have k0 := fun t : Gb w6 bs => (q t).1
              have k1 := fun t : Gb w6 bs => (q t).2.1
              have k2 := fun t : Gb w6 bs => (q t).2.2.1
              have k3 := fun t : Gb w6 bs => (q t).2.2.2.1
              have k4 := fun t : Gb w6 bs => (q t).2.2.2.2.1
              have k5 := fun t : Gb w6 bs => (q t).2.2.2.2.2.1
              have k6 := fun t : Gb w6 bs => (q t).2.2.2.2.2.2.1
              have k7 := fun t : Gb w6 bs => (q t).2.2.2.2.2.2.2.1
              have k8 := fun t : Gb w6 bs => (q t).2.2.2.2.2.2.2.2.1
              have k9 := fun t : Gb w6 bs => (q t).2.2.2.2.2.2.2.2.2.1
              have k10 := fun t : Gb w6 bs => (q t).2.2.2.2.2.2.2.2.2.2
              clear q
              simp only [List.take_succ_cons, List.take_zero]
              repeat (go_big_quiet_step (first | (go_at_call 210; exact gb_call (HC.out _)) | (go_at_call 212; exact gb_call (HB.out _))))
              exact wpQuiet_nil rfl
            · intro i h1 h2
              have hc : i = 9 := by omega
              subst hc
              exact ⟨_, rfl, rfl, fun _ => by kernel_rfl⟩
            intro bl wr hbl hlo _
            obtain ⟨q1, q2⟩ := hlo 9 (by omega) (by omega)
            simp only [R3.layL]
            generalize bl 9 = g0 at *
            clear hlo
            have S7 : Hid (StW w tx r k wr) := S6.out.below hbl
            have O7 := s_row_below O6.out hbl
            obtain ⟨hi, hz0, hz1, hz2⟩ := HI.out
            refine wpAny_one 10 (by kernel_rfl) rfl ?_
            intro K hK
            refine step_append_lies wr (by rfl) _ _ 82 (by rfl) (w.heap.size + 3) 86 i0 (.agg #[.int .u8 0, .int .i64 0, .int .i64 0, .int .i64 0, .int .i64 0, .int .u8 0, .int .u8 0, .int .u8 0, .int .u8 0, .int .u8 0, .int .u8 0, .int .u8 0, .int .u8 0, .string ByteArray.empty, .int .i64 0]) 15 72 Tryz.underlying82 hi hz0 hz1 hz2 rfl (by decide) u7 F.length (flatS F) (by rfl) O7 ⟨g0, 0, none⟩ 1 1 (wriK tx r k).vals (by rfl) rfl (cellB1 _ q2) (oneS _) (by decide) (by have := lf2.out; unfold maxLen; omega) (by have := lf2.out; omega) S7.out.size wr.heap.size rfl ?_
            intro h0 cap0 X1 hown hgrow _ _
            have S8 : Hid (StW w tx r k X1) := S7.out.grown O7 hgrow
            have O8 : Hid (X1.ownsRow (w.heap.size + 3) 86 15 (.slice (some ⟨h0, 0, none⟩) (F.length + 1) cap0) (F.length + 1) (flatS F ++ (wriK tx r k).vals)) := hown
            clear hown hgrow O7 S7 q1 q2 hbl hi hz0 hz1 hz2
            refine hK _ _ ?_
            clear hK K
            refine wpAny_one 11 (by kernel_rfl) rfl ?_
            intro K hK
            go_simp
            refine hK _ _ ?_
            clear hK K
            refine wpAny_done (by kernel_rfl) ?_ _
            go_wp2
            go_ret
            rw [HQ.out, hw.out, flatS_app, flatS_one, List.length_append, List.length_singleton]
            exact ⟨_, rfl, O8.out, S8.out.b⟩
          · have hw : Hid (wriS tx r k = []) := by unfold Hid; simp [wriS, wriB, hem]
            rw [hem] at HE
            clear hem hz
            go_wp2_with fail
            refine (HE.out _).mono ?_
            rintro e w6 ⟨rfl, hb6⟩
            go_wp2
            go_ret
            rw [HQ.out, hw.out, List.append_nil]
            exact ⟨_, rfl, s_row_below (O5.out.alloc _) hb6, ((S5.out.alloc _).below hb6).b⟩
  · have hp : paiL tx r k = [] := by simp [paiL, hem]
    rw [hp]
    rw [hem] at hE
    clear hp hem
    go_enter Tryz.func206, Tryz.ntmps206
    go_wp2_with fail
    refine hE.mono ?_
    rintro e w1 ⟨rfl, hbe⟩
    go_wp2
    go_ret
    exact ⟨_, rfl, ⟨rfl, .inl ⟨rfl, rfl⟩⟩, (HS0.out.below hbe).b⟩

end Go.Proofs.YtbnbfgkcndomaabGreatDoor

namespace Go.Proofs.YtbnbfgkcndomaabGreatDoor
open Go.RowKit

theorem row_base {w : World} {b b' : Nat} {e : TypeId} {s : Nat} {v : Value} {n : Nat} {xs : List Value} (h : w.ownsRow b e s v n xs) (hb : b' ≤ b) : w.ownsRow b' e s v n xs := by
  refine ⟨h.1, ?_⟩
  rcases h.2 with h' | ⟨g, cap, cur, h1, h2, rest⟩
  · exact .inl h'
  · exact .inr ⟨g, cap, cur, h1, Nat.le_trans hb h2, rest⟩
theorem s_row_set {w : World} {b : Nat} {e : TypeId} {s : Nat} {v : Value} {n : Nat} {xs : List Value} (h : w.ownsRow b e s v n xs) (p : Addr) (x : Value) (hp : p.block < b) : (w.setCell p x).ownsRow b e s v n xs := by
  refine ⟨h.1, ?_⟩
  rcases h.2 with h' | ⟨g, cap, cur, h1, h2, hg, rest⟩
  · exact .inl h'
  · exact .inr ⟨g, cap, cur, h1, h2, same_set hg (by omega), rest⟩

set_option maxHeartbeats 1000000 in
theorem ansR_strokes (c0 c1 c2 : Value) (l : List Sk) (w : World)
    (hf : ∀ w', Below w.heap.size w w' → w.heap.size < w'.heap.size → Calls Tryz.prog 78 #[c0, c1, c2] w' fun e w'' => ∃ v, e = .returned v ∧ w''.ownsRow w'.heap.size 86 15 v l.length (flatS l) ∧ Below w'.heap.size w' w'') :
    Calls Tryz.prog 77 #[.func (.func 78) #[] #[c0, c1, c2]] w fun e w' => ∃ v, e = .returned (.tuple #[v, .int .i64 0]) ∧ w'.ownsRow w.heap.size 86 15 v l.length (flatS l) ∧ Below w.heap.size w w' := by
  have hmf : ∀ (fn : Fn) (first cap : Array Value) (w : World), (Instr.makeFunc fn first cap).run Tryz.prog w = .ok (.func fn first cap) w := fun _ _ _ _ => rfl
  have HF : Hid (∀ w', Below w.heap.size w w' → w.heap.size < w'.heap.size → Calls Tryz.prog 78 #[c0, c1, c2] w' fun e w'' => ∃ v, e = .returned v ∧ w''.ownsRow w'.heap.size 86 15 v l.length (flatS l) ∧ Below w'.heap.size w' w'') := hf
  clear hf
  go_enter_defers Tryz.func77, Tryz.ntmps77
  go_wp2_with fail
  obtain ⟨W, hW⟩ : ∃ W, W = w.alloc (.cells #[.int .i64 0] 45) := ⟨_, rfl⟩
  rw [← hW]
  have B : Blk W w.heap.size #[.int .i64 0] 45 := by rw [hW]; exact Blk.new _ _ _
  have L : Below w.heap.size w W := by rw [hW]; exact (Below.refl _ w).alloc (Nat.le_refl _) _
  clear hW
  have HB : Hid (w.heap.size < W.heap.size) := B.lt
  refine (HF.out W L B.lt).mono ?_
  rintro e w1 ⟨v, rfl, hown, hb⟩
  replace B := B.below hb
  replace L := L.trans (hb.mono L.size)
  clear hb HF
  have b0 := B.cell 0
  have fb := B.frozen
  have HL : Hid (Below w.heap.size w w1 ∧ w1.ownsRow W.heap.size 86 15 v l.length (flatS l)) := ⟨L, hown⟩
  clear B L hown
  go_wp2_with fail
  refine leaves_cons (f := 115) (args := #[.pointer (some ⟨w.heap.size, 0, none⟩)]) (by simp) (by simp [go_sem]) ?_
  refine (catch_strokes _ _).mono ?_
  rintro e u' w'' ⟨rfl, rfl, rfl⟩
  refine ⟨.tuple #[v, .int .i64 0], ?_, v, rfl, row_base (s_row_set HL.out.2 _ _ HB.out) (Nat.le_of_lt HB.out), ?_⟩
  · simp [results, Tryz.results77, go_sem, b0]
  · exact HL.out.1.setCell (Nat.le_refl _) _

theorem str1_any (p : Pt) (b g q y : Nat) (r : Rc) (k : Lk) (w : World) (h : PtIn w b p) (ht : p.t.pai = true) (hx : I64 r.x) (hy : I64 r.y) (hg : w.cell? ⟨g, 0, none⟩ = some (.iface p.t.id (.pointer (some ⟨b, 0, none⟩)))) (hq : At4 w q r.x r.y r.w r.h) {T : TypeId} (hl : Blk w y (#[.int .u8 (k.has : Nat), .int .u8 k.r, .int .u8 k.g, .int .u8 k.b, .int .u8 k.a, .int .u8 k.r2, .int .u8 k.g2, .int .u8 k.b2, .int .u8 k.a2, .bool k.bd, .int .i64 k.pad]) T) :
    Calls Tryz.prog 78 #[.pointer (some ⟨g, 0, none⟩), .pointer (some ⟨q, 0, none⟩), .pointer (some ⟨y, 0, none⟩)] w fun e w' => ∃ v, e = .returned v ∧ w'.ownsRow w.heap.size 86 15 v (paiL p.tx r k).length (flatS (paiL p.tx r k)) ∧ Below w.heap.size w w' := by
  have hm := h.str ht
  have hP := painting_any p.tx r k w hx hy
  obtain ⟨r0, r1, r2, r3⟩ := hq
  obtain ⟨k0, k1, k2, k3, k4, k5, k6, k7, k8, k9, k10⟩ := hl.look
  clear h ht hl hx hy
  go_enter Tryz.func78, Tryz.ntmps78
  go_wp2_with fail
  refine hP.mono ?_
  rintro e w1 ⟨v, rfl, hown, hb⟩
  go_wp2
  go_ret
  exact ⟨v, rfl, row_base hown (by omega), hb⟩

/-- What Strokes answers. -/
def strE (t : Ty) (r : Rc) (k : Lk) : Int := if t.pai = false then 8 else if mayB r.x r.y r.w r.h = false then 5 else if fromTo k.pad 0 16384 = false then 2 else 0
def strL (p : Pt) (r : Rc) (k : Lk) : List Sk := if strE p.t r k = 0 then paiL p.tx r k else []

theorem world3s (w : World) (r : Rc) (k : Lk) (v : Value) (W : World) (hW : W = ((w.alloc (.cells #[.int .i64 r.x, .int .i64 r.y, .int .i64 r.w, .int .i64 r.h] 32)).alloc (.cells (#[.int .u8 (k.has : Nat), .int .u8 k.r, .int .u8 k.g, .int .u8 k.b, .int .u8 k.a, .int .u8 k.r2, .int .u8 k.g2, .int .u8 k.b2, .int .u8 k.a2, .bool k.bd, .int .i64 k.pad]) 36)).alloc (.cells #[v] 132)) :
    At4 W w.heap.size r.x r.y r.w r.h ∧ Blk W (w.heap.size + 1) (#[.int .u8 (k.has : Nat), .int .u8 k.r, .int .u8 k.g, .int .u8 k.b, .int .u8 k.a, .int .u8 k.r2, .int .u8 k.g2, .int .u8 k.b2, .int .u8 k.a2, .bool k.bd, .int .i64 k.pad]) 36 ∧ Blk W (w.heap.size + 1 + 1) #[v] 132 ∧ Below w.heap.size w W := by
  subst hW
  refine ⟨((At4.new w r.x r.y r.w r.h 32).alloc _).alloc _, ?_, ?_, (((Below.refl w.heap.size w).alloc (Nat.le_refl _) _).alloc (by simp) _).alloc (by simp; omega) _⟩
  · have := (Blk.new (w.alloc (.cells #[.int .i64 r.x, .int .i64 r.y, .int .i64 r.w, .int .i64 r.h] 32)) (#[.int .u8 (k.has : Nat), .int .u8 k.r, .int .u8 k.g, .int .u8 k.b, .int .u8 k.a, .int .u8 k.r2, .int .u8 k.g2, .int .u8 k.b2, .int .u8 k.a2, .bool k.bd, .int .i64 k.pad]) 36).alloc (.cells #[v] 132)
    rwa [World.size_alloc] at this
  · have := Blk.new ((w.alloc (.cells #[.int .i64 r.x, .int .i64 r.y, .int .i64 r.w, .int .i64 r.h] 32)).alloc (.cells (#[.int .u8 (k.has : Nat), .int .u8 k.r, .int .u8 k.g, .int .u8 k.b, .int .u8 k.a, .int .u8 k.r2, .int .u8 k.g2, .int .u8 k.b2, .int .u8 k.a2, .bool k.bd, .int .i64 k.pad]) 36)) #[v] 132
    rwa [World.size_alloc, World.size_alloc] at this

set_option maxHeartbeats 2000000 in
theorem strokes_made (p : Pt) (b : Nat) (r : Rc) (k : Lk) (w : World) (h : PtIn w b p) (hk : kindB p.k = true) (hx : I64 r.x) (hy : I64 r.y) :
    Calls Tryz.prog 28 #[.iface p.t.id (.pointer (some ⟨b, 0, none⟩)), .agg #[.int .i64 r.x, .int .i64 r.y, .int .i64 r.w, .int .i64 r.h], (Value.agg #[.int .u8 (k.has : Nat), .int .u8 k.r, .int .u8 k.g, .int .u8 k.b, .int .u8 k.a, .int .u8 k.r2, .int .u8 k.g2, .int .u8 k.b2, .int .u8 k.a2, .bool k.bd, .int .i64 k.pad])] w fun e w' => ∃ v, e = .returned (.tuple #[v, .int .i64 (strE p.t r k)]) ∧ w'.ownsRow w.heap.size 86 15 v (strL p r k).length (flatS (strL p r k)) ∧ Below w.heap.size w w' := by
  have hmf : ∀ (fn : Fn) (first cap : Array Value) (w : World), (Instr.makeFunc fn first cap).run Tryz.prog w = .ok (.func fn first cap) w := fun _ _ _ _ => rfl
  have HM := pai_made p.t b p.k ((w.alloc (.cells #[.int .i64 r.x, .int .i64 r.y, .int .i64 r.w, .int .i64 r.h] 32)).alloc (.cells (#[.int .u8 (k.has : Nat), .int .u8 k.r, .int .u8 k.g, .int .u8 k.b, .int .u8 k.a, .int .u8 k.r2, .int .u8 k.g2, .int .u8 k.b2, .int .u8 k.a2, .bool k.bd, .int .i64 k.pad]) 36)) ((h.alloc _).alloc _).kind.1 hk
  have HP : Hid (PtIn w b p) := h
  have HX : Hid (I64 r.x ∧ I64 r.y) := ⟨hx, hy⟩
  have HK : Hid (∀ W, Calls Tryz.prog 75 #[.agg #[.int .i64 r.x, .int .i64 r.y, .int .i64 r.w, .int .i64 r.h]] W fun e w' => e = .returned (.int .i64 (chk r.x r.y r.w r.h)) ∧ Below W.heap.size W w') := fun W => check_any _ _ _ _ W hx hy
  have HV : Hid (∀ W, Calls Tryz.prog 76 #[.int .i64 k.pad, .int .i64 0, .int .i64 16384] W fun e w' => e = .returned (.bool (fromTo k.pad 0 16384)) ∧ w' = W) := fun W => pwithin_any _ _ _ W
  clear h hk hx hy
  cases hm : p.t.pai
  · rw [hm] at HM
    have e1 : strE p.t r k = 8 := by simp [strE, hm]
    have e2 : strL p r k = [] := by simp [strL, e1]
    rw [e1, e2]
    clear e1 e2 hm
    go_enter Tryz.func28, Tryz.ntmps28
    go_wp2_with fail
    refine HM.mono ?_
    rintro e w1 ⟨rfl, rfl⟩
    go_wp2
    exact bodyPost_ret (v := .tuple #[.slice none 0 0, .int .i64 8]) (by simp [results, Tryz.results28, go_sem]) rfl ⟨_, rfl, World.ownsRow_nil _ _ _ _, (world3s w r k .nilIface _ rfl).2.2.2⟩
  · rw [hm] at HM
    have HT : Hid (p.t.pai = true) := hm
    cases hz : mayB r.x r.y r.w r.h
    · have e1 : strE p.t r k = 5 := by simp [strE, hm, hz]
      have e2 : strL p r k = [] := by simp [strL, e1]
      rw [e1, e2]
      rw [show chk r.x r.y r.w r.h = 5 by simp [chk, hz]] at HK
      clear e1 e2 hm hz
      go_enter Tryz.func28, Tryz.ntmps28
      go_wp2_with fail
      refine HM.mono ?_
      rintro e w1 ⟨rfl, rfl⟩
      go_wp2_with fail
      refine (HK.out _).mono ?_
      rintro e w1 ⟨rfl, hb⟩
      obtain ⟨A, B, C, L⟩ := world3s w r k (.iface p.t.id (.pointer (some ⟨b, 0, none⟩))) _ rfl
      replace L := L.trans (hb.mono L.size)
      clear A B C hb HM
      go_wp2
      exact bodyPost_ret (v := .tuple #[.slice none 0 0, .int .i64 5]) (by simp [results, Tryz.results28, go_sem]) rfl ⟨_, rfl, World.ownsRow_nil _ _ _ _, L⟩
    · rw [show chk r.x r.y r.w r.h = 0 by simp [chk, hz]] at HK
      cases hf : fromTo k.pad 0 16384
      · have e1 : strE p.t r k = 2 := by simp [strE, hm, hz, hf]
        have e2 : strL p r k = [] := by simp [strL, e1]
        rw [e1, e2]
        rw [hf] at HV
        clear e1 e2 hm hz hf
        go_enter Tryz.func28, Tryz.ntmps28
        go_wp2_with fail
        refine HM.mono ?_
        rintro e w1 ⟨rfl, rfl⟩
        go_wp2_with fail
        refine (HK.out _).mono ?_
        rintro e w1 ⟨rfl, hb⟩
        obtain ⟨A, B, C, L⟩ := world3s w r k (.iface p.t.id (.pointer (some ⟨b, 0, none⟩))) _ rfl
        replace L := L.trans (hb.mono L.size)
        replace B := B.below hb
        have k10 := B.look.2.2.2.2.2.2.2.2.2.2
        clear A B C hb HM
        go_wp2_with fail
        refine (HV.out _).mono ?_
        rintro e w2 ⟨rfl, rfl⟩
        go_wp2
        exact bodyPost_ret (v := .tuple #[.slice none 0 0, .int .i64 2]) (by simp [results, Tryz.results28, go_sem]) rfl ⟨_, rfl, World.ownsRow_nil _ _ _ _, L⟩
      · have e1 : strE p.t r k = 0 := by simp [strE, hm, hz, hf]
        have e2 : strL p r k = paiL p.tx r k := by simp [strL, e1]
        rw [e1, e2]
        rw [hf] at HV
        clear e1 e2 hm hz hf
        go_enter Tryz.func28, Tryz.ntmps28
        go_wp2_with fail
        refine HM.mono ?_
        rintro e w1 ⟨rfl, rfl⟩
        go_wp2_with fail
        refine (HK.out _).mono ?_
        rintro e w1 ⟨rfl, hb⟩
        obtain ⟨A, B, C, L⟩ := world3s w r k (.iface p.t.id (.pointer (some ⟨b, 0, none⟩))) _ rfl
        replace L := L.trans (hb.mono L.size)
        replace A := A.below hb
        replace B := B.below hb
        replace C := C.below hb
        have k10 := B.look.2.2.2.2.2.2.2.2.2.2
        have HL : Hid (At4 w1 w.heap.size r.x r.y r.w r.h ∧ Blk w1 (w.heap.size + 1) (#[.int .u8 (k.has : Nat), .int .u8 k.r, .int .u8 k.g, .int .u8 k.b, .int .u8 k.a, .int .u8 k.r2, .int .u8 k.g2, .int .u8 k.b2, .int .u8 k.a2, .bool k.bd, .int .i64 k.pad]) 36 ∧ Blk w1 (w.heap.size + 1 + 1) #[.iface p.t.id (.pointer (some ⟨b, 0, none⟩))] 132 ∧ Below w.heap.size w w1) := ⟨A, B, C, L⟩
        clear A B C L hb HM
        go_wp2_with fail
        refine (HV.out _).mono ?_
        rintro e w2 ⟨rfl, rfl⟩
        go_wp2_with fail
        obtain ⟨A, B, C, L⟩ := HL.out
        refine (ansR_strokes _ _ _ (paiL p.tx r k) w2 (fun w3 hb _ => str1_any p b _ _ _ r k w3 ((HP.out.below L).below hb) HT.out HX.out.1 HX.out.2 ((C.below hb).cell 0) (A.below hb) (B.below hb))).mono ?_
        rintro e w3 ⟨v, rfl, hown, hb⟩
        have R3' : Hid (w3.ownsRow w2.heap.size 86 15 v (paiL p.tx r k).length (flatS (paiL p.tx r k)) ∧ Below w.heap.size w w3 ∧ w.heap.size ≤ w2.heap.size) := ⟨hown, L.trans (hb.mono L.size), L.size⟩
        clear A B C L hb hown k10 HL
        go_wp2
        exact bodyPost_ret (v := .tuple #[v, .int .i64 0]) (by simp [results, Tryz.results28, go_sem]) rfl ⟨v, rfl, row_base R3'.out.1 R3'.out.2.2, R3'.out.2.1⟩

end Go.Proofs.YtbnbfgkcndomaabGreatDoor
